/- What the reader takes of a rune, or refuses, and what it then holds. -/
import Derived.Test.YtglllofmmdjljaaDoorB1
namespace Go.Proofs.YtglllofmmdjljaaDoor
open Go.RowKit Go.Sort Go.Lib

def markOf (c : Int) : Nat := if c = 8242 then 1 else if c = 8243 then 2 else 0

set_option maxHeartbeats 400000 in
set_option maxRecDepth 100000 in
theorem markOf_any (c : Int) (w : World) (s0 : w.cell? ⟨0, 0, none⟩ = some (.int .i32 8242)) (s1 : w.cell? ⟨0, 1, none⟩ = some (.int .i32 8243)) :
    Calls Tryd.prog 39 #[.int .i32 c] w fun e w' => e = .returned (.int .i64 (markOf c)) ∧ w = w' := by
  have i0 : ∀ w : World, (Instr.index 43 (.agg #[.int .i32 8242, .int .i32 8243]) (.int .i64 0)).run Tryd.prog w = .ok (.int .i32 8242) w := fun _ => by kernel_rfl
  have i1 : ∀ w : World, (Instr.index 43 (.agg #[.int .i32 8242, .int .i32 8243]) (.int .i64 1)).run Tryd.prog w = .ok (.int .i32 8243) w := fun _ => by kernel_rfl
  have wr1 : IntKind.i64.wrap 1 = 1 := by decide +kernel
  have wr2 : IntKind.i64.wrap 2 = 2 := by decide +kernel
  by_cases h0 : c = 8242
  · subst h0
    go_enter Tryd.func39, Tryd.ntmps39
    go_wp2
    refine wp_loop_rounds 1 ?_
    rw [rounds_succ]
    go_wp2
    go_ret
    exact ⟨rfl, rfl⟩
  · have e0 : (c == 8242) = false := by rw [beq_eq_false_iff_ne]; exact h0
    by_cases h1 : c = 8243
    · subst h1
      clear h0
      go_enter Tryd.func39, Tryd.ntmps39
      go_wp2
      refine wp_loop_rounds 2 ?_
      rw [rounds_succ]
      go_wp2
      rw [rounds_succ]
      go_wp2
      go_ret
      exact ⟨rfl, rfl⟩
    · have e1 : (c == 8243) = false := by rw [beq_eq_false_iff_ne]; exact h1
      have e2 : markOf c = 0 := by simp [markOf, h0, h1]
      rw [e2]
      clear h0 h1 e2
      go_enter Tryd.func39, Tryd.ntmps39
      go_wp2
      refine wp_loop_rounds 3 ?_
      rw [rounds_succ]
      go_wp2
      rw [rounds_succ]
      go_wp2
      rw [rounds_succ]
      go_wp2
      go_ret
      exact ⟨rfl, rfl⟩

theorem or_ms (a m : Nat) (h : a < m) (hm : m = 1 ∨ m = 2) : bits .or .i64 (a : Int) (m : Int) = ((a + m : Nat) : Int) := by
  have : (a = 0 ∧ m = 1) ∨ (a = 0 ∧ m = 2) ∨ (a = 1 ∧ m = 2) := by omega
  rcases this with ⟨rfl, rfl⟩ | ⟨rfl, rfl⟩ | ⟨rfl, rfl⟩ <;> decide +kernel

set_option maxHeartbeats 400000 in
theorem takeMark_no (b m ms : Nat) (ib : Bool) (h : ib = false ∨ m ≤ ms) (w : World)
    (c1 : w.cell? ⟨b, 1, none⟩ = some (.bool ib)) (c2 : w.cell? ⟨b, 2, none⟩ = some (.int .i64 ms)) :
    Calls Tryd.prog 40 #[.pointer (some ⟨b, 0, none⟩), .int .i64 m] w fun e w' => e = .returned (.bool false) ∧ w = w' := by
  cases ib
  · clear h
    go_enter Tryd.func40, Tryd.ntmps40
    go_wp2
    go_ret
    exact ⟨rfl, rfl⟩
  · have h2 : m ≤ ms := by simpa using h
    clear h
    go_enter Tryd.func40, Tryd.ntmps40
    go_wp2
    go_ret
    exact ⟨rfl, rfl⟩

set_option maxHeartbeats 400000 in
theorem takeMark_yes (b m ms : Nat) (h : ms < m) (hm : m = 1 ∨ m = 2) (w : World)
    (c1 : w.cell? ⟨b, 1, none⟩ = some (.bool true)) (c2 : w.cell? ⟨b, 2, none⟩ = some (.int .i64 ms)) (f2 : w.frozen? ⟨b, 2, none⟩ = false) :
    Calls Tryd.prog 40 #[.pointer (some ⟨b, 0, none⟩), .int .i64 m] w fun e w' => e = .returned (.bool true) ∧ w.setCell ⟨b, 2, none⟩ (.int .i64 (ms + m : Nat)) = w' := by
  have ho := or_ms ms m h hm
  have HO := Lib.hid ho
  clear ho hm
  go_enter Tryd.func40, Tryd.ntmps40
  go_wp2
  go_ret
  exact ⟨rfl, by rw [← HO.out]⟩

def rc (r : Rd) : Array Value := #[.int .u64 r.iv, .bool r.ib, .int .i64 r.ms, .bool r.tg, .int .u64 r.tv, .bool r.tb]

def RW (w : World) (r : Rd) (s : ByteArray) (pos : Nat) : World := (w.alloc (.cells (rc r) 48)).iter s pos

theorem RW.cell (w : World) (r : Rd) (s : ByteArray) (pos i : Nat) : (RW w r s pos).cell? ⟨w.heap.size, i, none⟩ = (rc r)[i]? := by
  unfold RW World.iter
  rw [World.cell?_alloc_lt _ _ _ (by simp), World.cell?_alloc_new]
theorem RW.frozen (w : World) (r : Rd) (s : ByteArray) (pos i : Nat) : (RW w r s pos).frozen? ⟨w.heap.size, i, none⟩ = false := by
  unfold RW World.iter
  simp [go_sem]
theorem RW.set (w : World) (r : Rd) (s : ByteArray) (pos i : Nat) (v : Value) : (RW w r s pos).setCell ⟨w.heap.size, i, none⟩ v = (w.alloc (.cells ((rc r).setIfInBounds i v) 48)).iter s pos := by
  unfold RW World.iter
  simp [go_sem]

theorem RW.old (w : World) (r : Rd) (s : ByteArray) (pos : Nat) {p : Addr} {v : Value} (h : w.cell? p = some v) : (RW w r s pos).cell? p = some v := by
  have hb := World.block_lt_of_cell? _ _ h
  unfold RW World.iter
  rw [World.cell?_alloc_lt _ _ _ (by simp; omega), World.cell?_alloc_lt _ _ _ hb, h]

theorem set1 (w : World) (r r' : Rd) (s : ByteArray) (pos i : Nat) (v : Value) (h : (rc r).setIfInBounds i v = rc r') : (RW w r s pos).setCell ⟨w.heap.size, i, none⟩ v = RW w r' s pos := by
  rw [RW.set, h]; rfl

theorem set2 (w : World) (r r' : Rd) (s : ByteArray) (pos i j : Nat) (v u : Value) (h : ((rc r).setIfInBounds i v).setIfInBounds j u = rc r') : ((RW w r s pos).setCell ⟨w.heap.size, i, none⟩ v).setCell ⟨w.heap.size, j, none⟩ u = RW w r' s pos := by
  rw [RW.set]
  unfold RW World.iter
  rw [← h]
  simp [go_sem]

set_option maxHeartbeats 400000 in
set_option maxRecDepth 100000 in
theorem take_any (r : Rd) (ho : r.Ok) (c : Int) (w : World) (s : ByteArray) (pos : Nat) (s0 : w.cell? ⟨0, 0, none⟩ = some (.int .i32 8242)) (s1 : w.cell? ⟨0, 1, none⟩ = some (.int .i32 8243)) :
    Calls Tryd.prog 30 #[.pointer (some ⟨w.heap.size, 0, none⟩), .int .i32 c] (RW w r s pos) fun e w' => e = .returned (.bool (step r c).2) ∧ RW w (step r c).1 s pos = w' := by
  obtain ⟨iv, ib, ms, tg, tv, tb⟩ := r
  obtain ⟨o1, o2, o3⟩ := ho
  simp only at o1 o2 o3
  have g0 := RW.old w ⟨iv, ib, ms, tg, tv, tb⟩ s pos s0
  have g1 := RW.old w ⟨iv, ib, ms, tg, tv, tb⟩ s pos s1
  have c0 := RW.cell w ⟨iv, ib, ms, tg, tv, tb⟩ s pos 0
  have c1 := RW.cell w ⟨iv, ib, ms, tg, tv, tb⟩ s pos 1
  have c2 := RW.cell w ⟨iv, ib, ms, tg, tv, tb⟩ s pos 2
  have c3 := RW.cell w ⟨iv, ib, ms, tg, tv, tb⟩ s pos 3
  have c4 := RW.cell w ⟨iv, ib, ms, tg, tv, tb⟩ s pos 4
  have c5 := RW.cell w ⟨iv, ib, ms, tg, tv, tb⟩ s pos 5
  have f0 := RW.frozen w ⟨iv, ib, ms, tg, tv, tb⟩ s pos 0
  have f1 := RW.frozen w ⟨iv, ib, ms, tg, tv, tb⟩ s pos 1
  have f2 := RW.frozen w ⟨iv, ib, ms, tg, tv, tb⟩ s pos 2
  have f3 := RW.frozen w ⟨iv, ib, ms, tg, tv, tb⟩ s pos 3
  have f4 := RW.frozen w ⟨iv, ib, ms, tg, tv, tb⟩ s pos 4
  have f5 := RW.frozen w ⟨iv, ib, ms, tg, tv, tb⟩ s pos 5
  simp only [rc] at c0 c1 c2 c3 c4 c5
  simp at c0 c1 c2 c3 c4 c5
  have t1 := set1 w ⟨iv, ib, ms, tg, tv, tb⟩ ⟨iv, ib, ms, true, tv, tb⟩ s pos 3 (.bool true) rfl
  have t2 := fun m => set1 w ⟨iv, ib, ms, tg, tv, tb⟩ ⟨iv, ib, ms + m, tg, tv, tb⟩ s pos 2 (.int .i64 (ms + m : Nat)) rfl
  have t3 := fun v => set2 w ⟨iv, ib, ms, tg, tv, tb⟩ ⟨iv, ib, ms, tg, v, true⟩ s pos 4 5 (.int .u64 v) (.bool true) rfl
  have t4 := fun v => set2 w ⟨iv, ib, ms, tg, tv, tb⟩ ⟨v, true, ms, tg, tv, tb⟩ s pos 0 1 (.int .u64 v) (.bool true) rfl
  generalize hW : RW w ⟨iv, ib, ms, tg, tv, tb⟩ s pos = W at *
  have HW := Lib.hid hW
  clear hW
  have T1 := Lib.hid t1
  have T2 := Lib.hid t2
  have T3 := Lib.hid t3
  have T4 := Lib.hid t4
  clear t1 t2 t3 t4 s0 s1
  cases tg
  · by_cases h64 : c = 64
    · subst h64
      rw [show step ⟨iv, ib, ms, false, tv, tb⟩ 64 = (⟨iv, ib, ms, true, tv, tb⟩, ib) from rfl]
      go_enter Tryd.func30, Tryd.ntmps30
      go_wp2
      go_ret
      exact ⟨rfl, T1.out.symm⟩
    · have e64 : (c == 64) = false := by rw [beq_eq_false_iff_ne]; exact h64
      by_cases hm : c = 8242 ∨ c = 8243
      · have hst : step ⟨iv, ib, ms, false, tv, tb⟩ c = markStep ⟨iv, ib, ms, false, tv, tb⟩ (markOf c) := by
          rcases hm with rfl | rfl <;> rfl
        have hmk : markOf c = 1 ∨ markOf c = 2 := by
          rcases hm with rfl | rfl
          · exact .inl rfl
          · exact .inr rfl
        have hne : ((markOf c : Int) != 0) = true := by rw [bne_iff_ne]; omega
        have hmo := markOf_any c W g0 g1
        rw [hst]
        clear hst hm h64
        generalize markOf c = m at *
        have HMO := Lib.hid hmo
        clear hmo
        by_cases hno : ib = false ∨ m ≤ ms
        · have h2 : markStep ⟨iv, ib, ms, false, tv, tb⟩ m = (⟨iv, ib, ms, false, tv, tb⟩, false) := by unfold markStep; rw [if_pos hno]
          rw [h2]
          have htk := Lib.hid (takeMark_no w.heap.size m ms ib hno W c1 c2)
          clear h2 hno hmk
          go_enter Tryd.func30, Tryd.ntmps30
          go_wp2_with fail
          refine HMO.out.mono ?_
          rintro e w1 ⟨rfl, rfl⟩
          go_wp2_with fail
          refine htk.out.mono ?_
          rintro e w1 ⟨rfl, rfl⟩
          go_wp2
          go_ret
          exact ⟨rfl, HW.out⟩
        · have h2 : markStep ⟨iv, ib, ms, false, tv, tb⟩ m = (⟨iv, ib, ms + m, false, tv, tb⟩, true) := by unfold markStep; rw [if_neg hno]
          rw [h2]
          have hib : ib = true := by cases ib <;> simp_all
          subst hib
          have hlt : ms < m := by simp at hno; exact hno
          have htk := Lib.hid (takeMark_yes w.heap.size m ms hlt hmk W c1 c2 f2)
          clear h2 hno hmk hlt
          go_enter Tryd.func30, Tryd.ntmps30
          go_wp2_with fail
          refine HMO.out.mono ?_
          rintro e w1 ⟨rfl, rfl⟩
          go_wp2_with fail
          refine htk.out.mono ?_
          rintro e w1 ⟨rfl, rfl⟩
          rw [T2.out]
          go_wp2
          go_ret
          exact ⟨rfl, rfl⟩
      · have n1 : c ≠ 8242 := fun e => hm (.inl e)
        have n2 : c ≠ 8243 := fun e => hm (.inr e)
        have hmo := markOf_any c W g0 g1
        have h0 : markOf c = 0 := by simp [markOf, n1, n2]
        rw [h0] at hmo
        have HMO := Lib.hid hmo
        clear hmo h0 hm
        by_cases hms : ms = 0
        · subst hms
          cases hn : numTake iv ib c 4194303 with
          | none =>
            have h2 : step ⟨iv, ib, 0, false, tv, tb⟩ c = (⟨iv, ib, 0, false, tv, tb⟩, false) := by simp [step, hn, h64, n1, n2]
            rw [h2]
            have hk := Lib.hid (num_no w.heap.size 0 iv ib c 4194303 (by omega) (by omega) hn W c0 c1)
            clear h2 hn n1 n2 h64
            go_enter Tryd.func30, Tryd.ntmps30
            go_wp2_with fail
            refine HMO.out.mono ?_
            rintro e w1 ⟨rfl, rfl⟩
            go_wp2_with fail
            refine hk.out.mono ?_
            rintro e w1 ⟨rfl, rfl⟩
            go_wp2
            go_ret
            exact ⟨rfl, HW.out⟩
          | some v =>
            have h2 : step ⟨iv, ib, 0, false, tv, tb⟩ c = (⟨v, true, 0, false, tv, tb⟩, true) := by simp [step, hn, h64, n1, n2]
            rw [h2]
            have hk := Lib.hid (num_yes w.heap.size 0 iv v ib c 4194303 (by omega) (by omega) hn W c0 c1 f0 f1)
            clear h2 hn n1 n2 h64
            go_enter Tryd.func30, Tryd.ntmps30
            go_wp2_with fail
            refine HMO.out.mono ?_
            rintro e w1 ⟨rfl, rfl⟩
            go_wp2_with fail
            refine hk.out.mono ?_
            rintro e w1 ⟨rfl, rfl⟩
            rw [T4.out]
            go_wp2
            go_ret
            exact ⟨rfl, rfl⟩
        · have h2 : step ⟨iv, ib, ms, false, tv, tb⟩ c = (⟨iv, ib, ms, false, tv, tb⟩, false) := by simp [step, hms, h64, n1, n2]
          rw [h2]
          have hne : ((ms : Int) == 0) = false := by rw [beq_eq_false_iff_ne]; omega
          clear h2 n1 n2 h64 hms
          go_enter Tryd.func30, Tryd.ntmps30
          go_wp2_with fail
          refine HMO.out.mono ?_
          rintro e w1 ⟨rfl, rfl⟩
          go_wp2
          go_ret
          exact ⟨rfl, HW.out⟩
  · cases hn : numTake tv tb c 1099511627775 with
    | none =>
      have hs : step ⟨iv, ib, ms, true, tv, tb⟩ c = (⟨iv, ib, ms, true, tv, tb⟩, false) := by simp [step, hn]
      rw [hs]
      clear hs
      have hk := Lib.hid (num_no w.heap.size 4 tv tb c 1099511627775 o3 (by omega) hn W c4 c5)
      clear hn
      go_enter Tryd.func30, Tryd.ntmps30
      go_wp2_with fail
      refine hk.out.mono ?_
      rintro e w1 ⟨rfl, rfl⟩
      go_wp2
      go_ret
      exact ⟨rfl, HW.out⟩
    | some v =>
      have hs : step ⟨iv, ib, ms, true, tv, tb⟩ c = (⟨iv, ib, ms, true, v, true⟩, true) := by simp [step, hn]
      rw [hs]
      clear hs
      have hk := Lib.hid (num_yes w.heap.size 4 tv v tb c 1099511627775 o3 (by omega) hn W c4 c5 f4 f5)
      clear hn
      go_enter Tryd.func30, Tryd.ntmps30
      go_wp2_with fail
      refine hk.out.mono ?_
      rintro e w1 ⟨rfl, rfl⟩
      rw [T3.out]
      go_wp2
      go_ret
      exact ⟨rfl, rfl⟩
end Go.Proofs.YtglllofmmdjljaaDoor
