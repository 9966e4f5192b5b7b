/- The contracts of vmem's New, Threads, Words and Close, as the arena needs them: a world of one thread in which nothing runs. -/
import Derived.Test.YtmolccpihmbniaaDoorA3
import Derived.Deep.AppendLies
import Derived.Deep.RegionLaw
namespace Go.Proofs.YtmolccpihmbniaaDoor
open Go.RowKit
set_option linter.unusedVariables false

theorem vMay_any (n : Int) (h : 0 ≤ n ∧ n ≤ 100000) (w : World) :
    Calls Tryd.prog 44 #[.int .i64 n, .int .i64 1] w fun e w' => e = .returned (.bool true) ∧ w = w' := by
  go_enter Tryd.func44, Tryd.ntmps44
  go_wp2
  go_returns
  exact ⟨rfl, rfl⟩

def thr (W : Nat) (id by_ : Int) : Array Value := #[.pointer (some ⟨W, 0, none⟩), .int .i64 id, .int .i64 by_, .int .i64 (-1), .int .i64 0, .chan none, .chan none, .bool false, .int .i64 0]

theorem newThread_any (W : Nat) (id by_ : Int) (w : World) :
    Calls Tryd.prog 45 #[.pointer (some ⟨W, 0, none⟩), .int .i64 id, .int .i64 by_] w fun e w' => e = .returned (.pointer (some ⟨w.heap.size, 0, none⟩)) ∧ w.alloc (.cells (thr W id by_) 81) = w' := by
  unfold thr
  go_enter Tryd.func45, Tryd.ntmps45
  go_wp2
  go_returns
  exact ⟨rfl, rfl⟩

theorem info68 : (Tryd.prog.info? 68).map (fun i => (i.zero, i.size, i.bytes)) = some (some (.pointer none), 1, 8) := by kernel_rfl
theorem info105 : (Tryd.prog.info? 105).map (fun i => (i.zero.map (·.cells.size), i.size, i.bytes)) = some (some 1, 1, 8) := by kernel_rfl

def wcs (v t : Value) : Array Value := #[v, t, .pointer none, .slice none 0 0, .string ⟨#[]⟩]

/-- A world's cells of one thread, in which nothing runs. -/
structure Wd (W : Nat) (n : Int) (w : World) : Prop where
  words : ∃ g c, w.cell? ⟨W, 0, none⟩ = some (.slice (some ⟨g, 0, none⟩) n.toNat c)
  threads : ∃ g c T U : Nat, w.cell? ⟨W, 1, none⟩ = some (.slice (some ⟨g, 0, none⟩) 2 c) ∧ w.cell? ⟨g, 0, none⟩ = some (ptr T) ∧ w.cell? ⟨g, 1, none⟩ = some (ptr U) ∧
    w.cell? ⟨T, 4, none⟩ = some (.int .i64 0) ∧ w.cell? ⟨U, 4, none⟩ = some (.int .i64 0)
  holder : w.cell? ⟨W, 2, none⟩ = some (.pointer none)

theorem news1 {w : World} {b : Nat} {x : Value} (h : w.cell? ⟨b, 0, none⟩ = some x) : ∀ j u, [x][j]? = some u → w.cell? ((⟨b, 0, none⟩ : Addr).add j) = some u := by
  intro j u hj
  match j, hj with
  | 0, hj => simp at hj; subst hj; simpa [Addr.add] using h

theorem cset_other {w : World} {a b : Addr} {v : Value} (h : a ≠ b) : (w.setCell a v).cell? b = w.cell? b := by apply World.cell?_setCell_other; exact h
theorem cset_same {w : World} {a : Addr} {u v : Value} (h : w.cell? a = some u) : (w.setCell a v).cell? a = some v := by apply World.cell?_setCell_same; exact h

theorem own_below {w w' : World} {base : Nat} {e : TypeId} {size : Nat} {v : Value} {n : Nat} {xs : List Value} (h : w.ownsRow base e size v n xs) (hb : Below w.heap.size w w') : w'.ownsRow base e size v n xs :=
  h.kept (row := none) ⟨hb.os, hb.tape, hb.output, hb.size, fun k hk _ => hb.block k hk⟩ (by cases v.ownBlock <;> simp)

/-- Behind the first thread. -/
structure R1 (w w0 : World) (W : Nat) (ws v : Value) (w3 : World) : Prop where
  c0 : w3.cell? ⟨W, 0, none⟩ = some ws
  c1 : w3.cell? ⟨W, 1, none⟩ = some v
  c2 : w3.cell? ⟨W, 2, none⟩ = some (.pointer none)
  f1 : w3.frozen? ⟨W, 1, none⟩ = false
  own : w3.ownsRow w0.heap.size 68 1 v 1 [.pointer (some ⟨w0.heap.size, 0, none⟩)]
  t : w3.cell? ⟨w0.heap.size, 4, none⟩ = some (.int .i64 0)
  sz : w0.heap.size + 2 < w3.heap.size
  b : Below w.heap.size w w3

theorem R1.mk1 {w w0 w2 : World} {W g cap : Nat} {ws : Value} (hW : W < w0.heap.size) (hwW : w.heap.size ≤ W) (q0 : w0.cell? ⟨W, 0, none⟩ = some ws) (q1 : w0.cell? ⟨W, 1, none⟩ = some (.slice none 0 0)) (q2 : w0.cell? ⟨W, 2, none⟩ = some (.pointer none))
    (f1 : w0.frozen? ⟨W, 1, none⟩ = false) (hb0 : Below w.heap.size w w0) (hbb : Below w0.heap.size w0 w2)
    (hown : w2.ownsRow w0.heap.size 68 1 (.slice (some ⟨g, 0, none⟩) 1 cap) 1 [.pointer (some ⟨w0.heap.size, 0, none⟩)])
    (hT : w2.cell? ⟨w0.heap.size, 4, none⟩ = some (.int .i64 0)) (hg : g = w0.heap.size + 2) (hlt : g < w2.heap.size) :
    R1 w w0 W ws (.slice (some ⟨g, 0, none⟩) 1 cap) (w2.setCell ⟨W, 1, none⟩ (.slice (some ⟨g, 0, none⟩) 1 cap)) := by
  refine ⟨?_, ?_, ?_, ?_, ownsRow_setCell_below hown (by exact hW) _, ?_, ?_, ?_⟩
  · rw [cset_other (by simp)]; exact (hbb.cell hW).trans q0
  · exact cset_same ((hbb.cell hW).trans q1)
  · rw [cset_other (by simp)]; exact (hbb.cell hW).trans q2
  · rw [World.frozen?_setCell]; exact (hbb.frozen hW).trans f1
  · rw [cset_other (by simp)]; exact hT
  · rw [World.size_setCell]; omega
  · exact (hb0.trans (hbb.mono hb0.size)).setCell hwW _

theorem R1.done {w w0 w3 w4 : World} {W g g2 cap cap2 n U : Nat} {ws : Value} (hW : W < w0.heap.size) (hwW : w.heap.size ≤ W) (h : R1 w w0 W ws (.slice (some ⟨g, 0, none⟩) 1 cap) w3) (hg : g = w0.heap.size + 2)
    (hws : ws = .slice (some ⟨w.heap.size, 0, none⟩) n n)
    (hk : ∀ {a : Addr} {v : Value}, w3.cell? a = some v → a.block ≠ g → w4.cell? a = some v) (hbb : Below w0.heap.size w3 w4)
    (hown : w4.ownsRow w0.heap.size 68 1 (.slice (some ⟨g2, 0, none⟩) 2 cap2) 2 [.pointer (some ⟨w0.heap.size, 0, none⟩), .pointer (some ⟨U, 0, none⟩)])
    (hU : w4.cell? ⟨U, 4, none⟩ = some (.int .i64 0)) (hUW : U ≠ W) (m : Int) (hm : m.toNat = n) :
    Wd W m (w4.setCell ⟨W, 1, none⟩ (.slice (some ⟨g2, 0, none⟩) 2 cap2)) ∧ Below w.heap.size w (w4.setCell ⟨W, 1, none⟩ (.slice (some ⟨g2, 0, none⟩) 2 cap2)) := by
  have hown' := ownsRow_setCell_below hown (a := ⟨W, 1, none⟩) (by exact hW) (.slice (some ⟨g2, 0, none⟩) 2 cap2)
  have hc := hown'.cells (g := g2) rfl
  refine ⟨⟨⟨w.heap.size, n, ?_⟩, ⟨g2, cap2, w0.heap.size, U, ?_, ?_, ?_, ?_, ?_⟩, ?_⟩, ?_⟩
  · rw [cset_other (by simp), hm, ← hws]; exact hk h.c0 (by simp; omega)
  · exact cset_same (hk h.c1 (by simp; omega))
  · exact hc 0 _ rfl
  · exact hc 1 _ rfl
  · rw [cset_other (by simp)]; exact hk h.t (by simp; omega)
  · rw [cset_other (by simp)]; exact hU
  · rw [cset_other (by simp)]; exact hk h.c2 (by simp; omega)
  · exact (h.b.trans (hbb.mono (by omega))).setCell hwW _

set_option maxHeartbeats 2000000 in
theorem vNew_any (n : Int) (h : 0 ≤ n ∧ n ≤ 100000) (w : World) :
    Calls Tryd.prog 28 #[.int .i64 n, .int .i64 1] w fun e w' => ∃ W, e = .returned (.tuple #[ptr W, .int .i64 0]) ∧ Wd W n w' ∧ Below w.heap.size w w' := by
  obtain ⟨i, hi, hz, h1, h8⟩ : ∃ i, Tryd.prog.info? 68 = some i ∧ i.zero = some (.pointer none) ∧ i.size = 1 ∧ i.bytes = 8 := by
    have := info68
    cases hh : Tryd.prog.info? 68 with
    | none => rw [hh] at this; cases this
    | some i => rw [hh] at this; simp at this; exact ⟨i, rfl, this.1, this.2.1, this.2.2⟩
  obtain ⟨j, z, hj, hjz, j1, j8⟩ : ∃ i z, Tryd.prog.info? 105 = some i ∧ i.zero = some z ∧ i.size = 1 ∧ i.bytes = 8 := by
    have := info105
    cases hh : Tryd.prog.info? 105 with
    | none => rw [hh] at this; cases this
    | some i => rw [hh] at this; simp at this; obtain ⟨⟨z, hz, _⟩, h1, h2⟩ := this; exact ⟨i, z, rfl, hz, h1, h2⟩
  have hmk : ∀ w : World, (Instr.makeSlice 66 (.int .i64 n) (.int .i64 n)).run Tryd.prog w = .ok (.slice (some ⟨w.heap.size, 0, none⟩) n.toNat n.toNat) (w.alloc (.cells (madeCells z.cells (n.toNat * j.size)) 105)) :=
    fun w => run_makeSlice w 66 105 j z Tryd.underlying66 hj hjz .i64 .i64 n n h.1 (Int.le_refl _) (by rw [j1]; omega) (by rw [j8]; omega) (by omega)
  generalize madeCells z.cells (n.toNat * j.size) = mc at hmk
  clear hj hjz j1 j8
  go_enter Tryd.func28, Tryd.ntmps28
  go_wp2_with fail
  refine (vMay_any n h _).mono ?_
  rintro e w' ⟨rfl, rfl⟩
  go_wp2_with fail
  refine wp_loop_rounds 2 ?_
  rw [rounds_succ]
  go_wp2_with fail
  have hq : ∃ w0, w0 = ((w.alloc (Obj.cells mc 105)).alloc (Obj.cells #[Value.slice (some ⟨w.heap.size, 0, none⟩) n.toNat n.toNat, Value.slice none 0 0, Value.pointer none, Value.slice none 0 0, Value.string ⟨#[]⟩] 71)) := ⟨_, rfl⟩
  obtain ⟨w0, hw0⟩ := hq
  have q0 : w0.cell? ⟨w.heap.size + 1, 0, none⟩ = some (Value.slice (some ⟨w.heap.size, 0, none⟩) n.toNat n.toNat) := by subst hw0; simp [go_sem]
  have q1 : w0.cell? ⟨w.heap.size + 1, 1, none⟩ = some (Value.slice none 0 0) := by subst hw0; simp [go_sem]
  have q2 : w0.cell? ⟨w.heap.size + 1, 2, none⟩ = some (Value.pointer none) := by subst hw0; simp [go_sem]
  have f1 : w0.frozen? ⟨w.heap.size + 1, 1, none⟩ = false := by subst hw0; simp [go_sem]
  have hb0 : Below w.heap.size w w0 := by subst hw0; go_grown
  have hs0 : w0.heap.size = w.heap.size + 2 := by subst hw0; simp
  rw [← hw0]
  clear hw0
  generalize hWB : w.heap.size + 1 = W at q0 q1 q2 f1 ⊢
  have hWlt : W < w0.heap.size := by omega
  have HWB := Lib.hid hWB
  have HB0 := Lib.hid hb0
  have HS0 := Lib.hid hs0
  clear hWB hb0 hs0
  go_region_law (first
    | (refine step_append_lies _ rfl (.tmp 24) (.tmp 28) 67 rfl w0.heap.size 68 i (.pointer none) 1 8 Tryd.underlying67 hi hz h1 h8 rfl (by decide) (.slice none 0 0) 0 [] (by simp [Act.eval, Act.put]) (World.ownsRow_nil _ _ _ _) ⟨w0.heap.size + 1, 0, none⟩ 1 1 [.pointer (some ⟨w0.heap.size, 0, none⟩)] (by simp [Act.eval, Act.put]) rfl (news1 (by simp [go_sem])) (by intro u hu; simp at hu; subst hu; rfl) (by decide) (by decide) (by decide) (by simp; omega) _ rfl ?_
       intro g cap w2 hown hgrow hat hlt
       have hbb : Below w0.heap.size w0 w2 := Below.grown (by go_grown) hgrow (by simp; omega) (by intro k hk; simp [Value.ownBlock] at hk)
       have d1 : w2.cell? ⟨W, 1, none⟩ = some (Value.slice none 0 0) := (hbb.cell hWlt).trans q1
       have d2 : w2.frozen? ⟨W, 1, none⟩ = false := (hbb.frozen hWlt).trans f1
       have hT : w2.cell? ⟨w0.heap.size, 4, none⟩ = some (.int .i64 0) := hgrow.cell (by simp [go_sem, thr]) (by simp [Value.ownBlock])
       have HBB := Lib.hid hbb
       have HOWN := Lib.hid hown
       have HLT := Lib.hid hlt
       have HAT := Lib.hid hat
       clear hbb hown hgrow hat hlt)
    | (go_simp; go_at_call 45; refine (newThread_any _ _ _ _).mono ?_; rintro e w1 ⟨rfl, rfl⟩))
  all_goals
    have hg : g = w0.heap.size + 2 := by
      rcases HAT.out with h | h
      · simp [Value.ownBlock] at h
      · simpa using h
    have hR := R1.mk1 hWlt (by rw [← HWB.out]; omega) q0 q1 q2 f1 HB0.out HBB.out HOWN.out hT hg HLT.out
    have HR := Lib.hid hR
    obtain ⟨p0, p1, p2, pf, -, -, psz, -⟩ := hR
    have HG := Lib.hid hg
    clear HOWN HBB HAT HLT d1 d2 hT q0 q1 q2 f1 hg
    generalize w2.setCell ⟨W, 1, none⟩ (Value.slice (some ⟨g, 0, none⟩) 1 cap) = w3 at HR p0 p1 p2 pf psz ⊢
    have hW3 : W < w3.heap.size := by omega
    go_wp2_with fail
    rw [rounds_succ]
    go_wp2_with fail
  all_goals
    go_region_law (first
      | (refine step_append_lies _ rfl (.tmp 37) (.tmp 41) 67 rfl w0.heap.size 68 i (.pointer none) 1 8 Tryd.underlying67 hi hz h1 h8 rfl (by decide) (.slice (some ⟨g, 0, none⟩) 1 cap) 1 [.pointer (some ⟨w0.heap.size, 0, none⟩)] (by simp [Act.eval, Act.put]) (own_below HR.out.own (by go_grown)) ⟨w3.heap.size + 1, 0, none⟩ 1 1 [.pointer (some ⟨w3.heap.size, 0, none⟩)] (by simp [Act.eval, Act.put]) rfl (news1 (by simp [go_sem])) (by intro u hu; simp at hu; subst hu; rfl) (by decide) (by decide) (by decide) (by simp; omega) _ rfl ?_
         intro g2 cap2 w4 hown hgrow hat hlt
         have hg := HG.out
         have hbl : Below w3.heap.size w3 ((w3.alloc (Obj.cells (thr W 1 4) 81)).alloc (Obj.cells #[Value.pointer (some { block := w3.heap.size, off := 0 })] 68)).drew := by go_grown
         have hk : ∀ {a : Addr} {v : Value}, w3.cell? a = some v → a.block ≠ g → w4.cell? a = some v := fun {a v} hc hne => hgrow.cell ((hbl.cell (World.block_lt_of_cell? _ _ hc)).trans hc) (by simpa [Value.ownBlock] using hne)
         have hbb : Below w0.heap.size w3 w4 := Below.grown (hbl.mono (by omega)) hgrow (by simp; omega) (by intro k hk; simp [Value.ownBlock] at hk; omega)
         have d1 : w4.cell? ⟨W, 1, none⟩ = some (Value.slice (some ⟨g, 0, none⟩) 1 cap) := hk p1 (by simp; omega)
         have d2 : w4.frozen? ⟨W, 1, none⟩ = false := (hbb.frozen hWlt).trans pf
         have hT : w4.cell? ⟨w3.heap.size, 4, none⟩ = some (.int .i64 0) := hgrow.cell (by simp [go_sem, thr]) (by simp [Value.ownBlock]; omega)
         have HD := Lib.hid (R1.done hWlt (by rw [← HWB.out]; omega) HR.out hg rfl hk hbb hown hT (by omega) n rfl)
         clear hbl hk hbb hown hgrow hat hlt hT hg)
      | (go_simp; go_at_call 45; refine (newThread_any _ _ _ _).mono ?_; rintro e w1 ⟨rfl, rfl⟩))
  all_goals
    go_wp2
    go_returns
    exact ⟨W, rfl, HD.out⟩

end Go.Proofs.YtmolccpihmbniaaDoor
