/- vmem's New, of any number of threads: the walk. -/
import Derived.Test.YtebnjfpffdlbbaaV4
namespace Go.Proofs.Ytebnjfpffdlbbaa
open Go.RowKit
set_option linter.unusedVariables false
set_option linter.unusedSimpArgs false

def thr (W : Nat) (id by_ : Int) : Array Value := #[.pointer (some ⟨W, 0, none⟩), .int .i64 id, .int .i64 by_, .int .i64 (-1), .int .i64 0, .chan none, .chan none, .bool false, .int .i64 0]
theorem newThread_l (W : Nat) (id by_ : Int) (w : World) :
    Calls Try.prog 40 #[.pointer (some ⟨W, 0, none⟩), .int .i64 id, .int .i64 by_] w fun e w' => e = .returned (.pointer (some ⟨w.heap.size, 0, none⟩)) ∧ w.alloc (.cells (thr W id by_) 100) = w' := by
  unfold thr
  go_enter Try.func40, Try.ntmps40
  go_wp2
  go_returns
  exact ⟨rfl, rfl⟩
theorem info48 : (Try.prog.info? 48).map (fun i => (i.zero, i.size, i.bytes)) = some (some (.pointer none), 1, 8) := by kernel_rfl

/-- A world's threads at first: the last one is the setup thread. -/
def el0 (W m i : Nat) : Array Value := thr W i (if i = m then 4 else 1)
theorem el0_lt {W m k : Nat} (h : k < m) : el0 W m k = thr W k 1 := by unfold el0; rw [if_neg (by omega)]
theorem el0_eq (W m : Nat) : el0 W m m = thr W m 4 := by unfold el0; rw [if_pos rfl]

theorem info136 : (Try.prog.info? 136).map (fun i => (i.zero.map (·.cells.size), i.size, i.bytes)) = some (some 1, 1, 8) := by kernel_rfl

theorem mayBe_l (n : Int) (m : Nat) (h : 0 ≤ n ∧ n ≤ 100000) (hm : 1 ≤ m ∧ m ≤ 16) (w : World) : Calls Try.prog 39 #[.int .i64 n, .int .i64 m] w fun e w' => e = .returned (.bool true) ∧ w = w' := by
  obtain ⟨h0, h1⟩ := h
  have a1 : (1 : Int) ≤ m := by omega
  have a2 : (m : Int) ≤ 16 := by omega
  have d0 : decide (0 ≤ n) = true := by simpa using h0
  have d1 : decide (n ≤ 1048576) = true := by simp; omega
  have d2 : decide ((1 : Int) ≤ m) = true := by simpa using a1
  have d3 : decide ((m : Int) ≤ 16) = true := by simpa using a2
  go_enter Try.func39, Try.ntmps39
  go_wp2
  all_goals go_returns
  all_goals exact ⟨rfl, rfl⟩

set_option maxHeartbeats 8000000 in
set_option maxRecDepth 100000 in
theorem vNew_l (n : Int) (m : Nat) (h : 0 ≤ n ∧ n ≤ 100000) (hm : 1 ≤ m ∧ m ≤ 16) (w : World) :
    Calls Try.prog 23 #[.int .i64 n, .int .i64 m] w fun e w' => ∃ W v ys Ts wi, e = .returned (.tuple #[.pointer (some ⟨W, 0, none⟩), .int .i64 0]) ∧ Mk W 1 48 100 (el0 W m) (W + 1) (m + 1) v ys Ts wi w' ∧
      W = w.heap.size + 1 ∧ Below w.heap.size w wi ∧ wi.cell? ⟨W, 0, none⟩ = some (.slice (some ⟨w.heap.size, 0, none⟩) n.toNat n.toNat) ∧ wi.cell? ⟨W, 2, none⟩ = some (.pointer none) ∧ wi.cell? ⟨W, 3, none⟩ = some (.slice none 0 0) := by
  obtain ⟨i, hi, hz, h1, h8⟩ : ∃ i, Try.prog.info? 48 = some i ∧ i.zero = some (.pointer none) ∧ i.size = 1 ∧ i.bytes = 8 := by
    have := info48
    cases hh : Try.prog.info? 48 with
    | none => rw [hh] at this; cases this
    | some i => rw [hh] at this; simp at this; exact ⟨i, rfl, this.1, this.2.1, this.2.2⟩
  obtain ⟨j, z, hj, hjz, j1, j8⟩ : ∃ i z, Try.prog.info? 136 = some i ∧ i.zero = some z ∧ i.size = 1 ∧ i.bytes = 8 := by
    have := info136
    cases hh : Try.prog.info? 136 with
    | none => rw [hh] at this; cases this
    | some i => rw [hh] at this; simp at this; obtain ⟨⟨z, hz, _⟩, h1, h2⟩ := this; exact ⟨i, z, rfl, hz, h1, h2⟩
  have hmk : ∀ w : World, (Instr.makeSlice 82 (.int .i64 n) (.int .i64 n)).run Try.prog w = .ok (.slice (some ⟨w.heap.size, 0, none⟩) n.toNat n.toNat) (w.alloc (.cells (madeCells z.cells (n.toNat * j.size)) 136)) :=
    fun w => run_makeSlice w 82 136 j z Try.underlying82 hj hjz .i64 .i64 n n h.1 (Int.le_refl _) (by rw [j1]; omega) (by rw [j8]; omega) (by omega)
  generalize madeCells z.cells (n.toNat * j.size) = mc at hmk
  clear hj hjz j1 j8
  have HM := Lib.hid hm
  have hm16 : (m : Int) ≤ 16 := by omega
  go_enter Try.func23, Try.ntmps23
  go_wp2_with fail
  refine (mayBe_l n m h hm _).mono ?_
  rintro e w' ⟨rfl, rfl⟩
  go_wp2_with fail
  obtain ⟨w0, hw0⟩ : ∃ w0, w0 = ((w.alloc (.cells mc 136)).alloc (.cells #[.slice (some ⟨w.heap.size, 0, none⟩) n.toNat n.toNat, .slice none 0 0, .pointer none, .slice none 0 0, .string ⟨#[]⟩] 85)) := ⟨_, rfl⟩
  have q0 : w0.cell? ⟨w.heap.size + 1, 0, none⟩ = some (Value.slice (some ⟨w.heap.size, 0, none⟩) n.toNat n.toNat) := by subst hw0; simp [go_sem]
  have q1 : w0.cell? ⟨w.heap.size + 1, 1, none⟩ = some (Value.slice none 0 0) := by subst hw0; simp [go_sem]
  have q2 : w0.cell? ⟨w.heap.size + 1, 2, none⟩ = some (Value.pointer none) := by subst hw0; simp [go_sem]
  have q3 : w0.cell? ⟨w.heap.size + 1, 3, none⟩ = some (Value.slice none 0 0) := by subst hw0; simp [go_sem]
  have f1 : ∀ o, w0.frozen? ⟨w.heap.size + 1, o, none⟩ = false := fun o => by subst hw0; simp [go_sem]
  have hb0 : Below w.heap.size w w0 := by subst hw0; go_grown
  have hs0 : w0.heap.size = w.heap.size + 2 := by subst hw0; simp
  rw [← hw0]
  clear hw0 hmk
  have HN0 := Lib.hid (show Mk (w.heap.size + 1) 1 48 100 (el0 (w.heap.size + 1) m) (w.heap.size + 1 + 1) 0 (.slice none 0 0) [] (fun _ => 0) w0 w0 from
    ⟨q1, World.ownsRow_nil _ _ _ _, fun i hi => by omega, fun i hi => by omega, fun i j _ hj => by omega, f1, fun _ _ => rfl, by omega, by omega, Nat.le_refl _, rfl, rfl, rfl, fun _ _ _ => rfl⟩)
  have HQ := Lib.hid (show _ ∧ _ ∧ _ ∧ _ from ⟨q0, q2, q3, hb0⟩)
  clear q0 q1 q2 q3 f1 hb0 hs0
  go_loopw [17] (fun x wr => ∃ (k : Nat) (ad : Option Addr) (cap : Nat) (ys : List Value) (Ts : Nat → Nat), k ≤ m ∧ x = .int .i64 k ∧ Mk (w.heap.size + 1) 1 48 100 (el0 (w.heap.size + 1) m) (w.heap.size + 1 + 1) k (.slice ad k cap) ys Ts w0 wr) (fun x _ => m - (intOf x).toNat)
  case atStart => exact ⟨0, _, _, _, _, by omega, rfl, HN0.out⟩
  case round =>
    obtain ⟨k, ad, cap, ys, Ts, hk, rfl, hn⟩ := hrel
    have HN := Lib.hid hn
    have c1 := hn.c1
    have fW := hn.f
    have hk16 : (k : Int) ≤ 16 := by omega
    have hWl : w.heap.size + 1 < wr.heap.size := World.block_lt_of_cell? _ _ c1
    have hWl2 : w.heap.size < wr.heap.size := by omega
    have hWl3 : w.heap.size + 1 < wr.heap.size + 1 := by omega
    clear hn
    by_cases hlt : k < m
    · have hlt' : (k : Int) < m := by omega
      go_wp2_with fail
      go_region_law (first
        | (refine step_append_lies _ rfl (.tmp 24) (.tmp 28) 83 rfl (w.heap.size + 1 + 1) 48 i (.pointer none) 1 8 Try.underlying83 hi hz h1 h8 rfl (by decide) (.slice ad k cap) k ys (by simp [Act.eval, Act.put]) (own_below HN.out.rg (by go_grown)) ⟨wr.heap.size + 1, 0, none⟩ 1 1 [.pointer (some ⟨wr.heap.size, 0, none⟩)] (by simp [Act.eval, Act.put]) rfl (news1 (by simp [go_sem])) (by intro u hu; simp at hu; subst hu; rfl) (by decide) (by unfold maxLen; omega) (by omega) (by have := HN.out.hb0; have := HN.out.hsz; simp; omega) (wr.heap.size + 2) (by simp) ?_
           intro g cap2 w4 hown2 hgrow hat hlt2
           obtain ⟨R1, R2, R3⟩ := HN.out.step (o := .cells #[.pointer (some ⟨wr.heap.size, 0, none⟩)] 48) hown2 (by rw [el0_lt hlt]; exact ⟨hgrow.os, hgrow.tape, hgrow.output, hgrow.size, hgrow.block⟩) hat
           have HR := Lib.hid R3
           clear hown2 hgrow hat hlt2 R3)
        | (go_simp; go_at_call 40; refine (newThread_l _ _ _ _).mono ?_; rintro e w1 ⟨rfl, rfl⟩))
      all_goals
        go_wp2
        first
          | exact ⟨⟨k + 1, _, _, _, _, by omega, by go_num, HR.out⟩, by simp [intOf]; omega⟩
          | (go_roundw
             case rel => exact ⟨k + 1, _, _, _, _, by omega, by go_num, HR.out⟩
             case measure => simp [intOf]; omega)
    · obtain rfl : k = m := by omega
      go_wp2_with fail
      go_region_law (first
        | (refine step_append_lies _ rfl (.tmp 37) (.tmp 41) 83 rfl (w.heap.size + 1 + 1) 48 i (.pointer none) 1 8 Try.underlying83 hi hz h1 h8 rfl (by decide) (.slice ad k cap) k ys (by simp [Act.eval, Act.put]) (own_below HN.out.rg (by go_grown)) ⟨wr.heap.size + 1, 0, none⟩ 1 1 [.pointer (some ⟨wr.heap.size, 0, none⟩)] (by simp [Act.eval, Act.put]) rfl (news1 (by simp [go_sem])) (by intro u hu; simp at hu; subst hu; rfl) (by decide) (by unfold maxLen; omega) (by omega) (by have := HN.out.hb0; have := HN.out.hsz; simp; omega) (wr.heap.size + 2) (by simp) ?_
           intro g cap2 w4 hown2 hgrow hat hlt2
           obtain ⟨R1, R2, R3⟩ := HN.out.step (o := .cells #[.pointer (some ⟨wr.heap.size, 0, none⟩)] 48) hown2 (by rw [el0_eq]; exact ⟨hgrow.os, hgrow.tape, hgrow.output, hgrow.size, hgrow.block⟩) hat
           have HR := Lib.hid R3
           clear hown2 hgrow hat hlt2 R3)
        | (go_simp; go_at_call 40; refine (newThread_l _ _ _ _).mono ?_; rintro e w1 ⟨rfl, rfl⟩))
      all_goals
        go_wp2
        go_returns
        exact ⟨_, _, _, _, w0, rfl, HR.out, rfl, HQ.out.2.2.2, HQ.out.1, HQ.out.2.1, HQ.out.2.2.1⟩
end Go.Proofs.Ytebnjfpffdlbbaa
