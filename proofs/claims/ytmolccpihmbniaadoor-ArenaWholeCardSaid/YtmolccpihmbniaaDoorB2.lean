/- The contracts of vmem's Threads, Words and Close in a world of one thread in which nothing runs. -/
import Derived.Test.YtmolccpihmbniaaDoorB1
namespace Go.Proofs.YtmolccpihmbniaaDoor
open Go.RowKit
set_option linter.unusedVariables false

theorem keep {w w' : World} (hb : Below w.heap.size w w') {p : Addr} {v : Value} (h : w.cell? p = some v) : w'.cell? p = some v := (hb.cell (World.block_lt_of_cell? _ _ h)).trans h

theorem Wd.below {W : Nat} {n : Int} {w w' : World} (h : Wd W n w) (hb : Below w.heap.size w w') : Wd W n w' := by
  have k : ∀ {p : Addr} {v : Value}, w.cell? p = some v → w'.cell? p = some v := fun h => (hb.cell (World.block_lt_of_cell? _ _ h)).trans h
  obtain ⟨⟨g, c, h0⟩, ⟨g', c', T, U, h1, h2, h3, h4, h5⟩, h6⟩ := h
  exact ⟨⟨g, c, k h0⟩, ⟨g', c', T, U, k h1, k h2, k h3, k h4, k h5⟩, k h6⟩

theorem threads_any (W : Nat) (n : Int) (w : World) (h : Wd W n w) :
    Calls Tryd.prog 38 #[.pointer (some ⟨W, 0, none⟩)] w fun e w' => e = .returned (.int .i64 1) ∧ w = w' := by
  obtain ⟨⟨g, c, h0⟩, ⟨g', c', T, U, h1, h2, h3, h4, h5⟩, h6⟩ := h
  go_enter Tryd.func38, Tryd.ntmps38
  go_wp2
  go_returns
  exact ⟨rfl, rfl⟩

theorem threads_nil (w : World) :
    Calls Tryd.prog 38 #[.pointer none] w fun e w' => e = .returned (.int .i64 0) ∧ w = w' := by
  go_enter Tryd.func38, Tryd.ntmps38
  go_wp2
  go_returns
  exact ⟨rfl, rfl⟩

theorem words_any (W : Nat) (n : Int) (hn : 0 ≤ n ∧ n ≤ 100000) (w : World) (h : Wd W n w) :
    Calls Tryd.prog 39 #[.pointer (some ⟨W, 0, none⟩)] w fun e w' => e = .returned (.int .i64 n) ∧ w = w' := by
  obtain ⟨⟨g, c, h0⟩, ⟨g', c', T, U, h1, h2, h3, h4, h5⟩, h6⟩ := h
  go_enter Tryd.func39, Tryd.ntmps39
  go_wp2
  go_returns
  refine ⟨ret_int ?_, rfl⟩
  omega

theorem abandon_any (W T : Nat) (w : World) (h : w.cell? ⟨T, 4, none⟩ = some (.int .i64 0)) :
    Calls Tryd.prog 47 #[.pointer (some ⟨W, 0, none⟩), .pointer (some ⟨T, 0, none⟩)] w fun e w' => e = .returned (.tuple #[]) ∧ Below w.heap.size w w' := by
  have hT := World.block_lt_of_cell? _ _ h
  simp only at hT
  go_enter Tryd.func47, Tryd.ntmps47
  go_wp2
  all_goals go_returns
  all_goals refine ⟨rfl, ?_⟩
  all_goals go_grown

theorem leave_any (W : Nat) (n : Int) (w : World) (h : Wd W n w) :
    Calls Tryd.prog 48 #[.pointer (some ⟨W, 0, none⟩)] w fun e w' => e = .returned (.tuple #[]) ∧ w = w' := by
  obtain ⟨⟨g, c, h0⟩, ⟨g', c', T, U, h1, h2, h3, h4, h5⟩, h6⟩ := h
  go_enter Tryd.func48, Tryd.ntmps48
  go_wp2
  go_returns
  exact ⟨rfl, rfl⟩

theorem missing_any (W : Nat) (n : Int) (w : World) (h : Wd W n w) :
    Calls Tryd.prog 46 #[.pointer (some ⟨W, 0, none⟩)] w fun e w' => e = .returned (.bool false) ∧ w = w' := by
  obtain ⟨⟨g, c, h0⟩, ⟨g', c', T, U, h1, h2, h3, h4, h5⟩, h6⟩ := h
  go_enter Tryd.func46, Tryd.ntmps46
  go_wp2
  go_returns
  exact ⟨rfl, rfl⟩

set_option maxHeartbeats 1000000 in
theorem close_any (W : Nat) (n : Int) (w : World) (h : Wd W n w) :
    Calls Tryd.prog 29 #[.pointer (some ⟨W, 0, none⟩)] w fun e w' => e = .returned (.tuple #[]) ∧ Below w.heap.size w w' := by
  have HH := Lib.hid h
  obtain ⟨⟨g, c, h0⟩, ⟨g', c', T, U, h1, h2, h3, h4, h5⟩, h6⟩ := h
  unfold ptr at h2 h3
  go_enter Tryd.func29, Tryd.ntmps29
  go_wp2_with fail
  refine (missing_any W n _ HH.out).mono ?_
  rintro e w' ⟨rfl, rfl⟩
  go_wp2_with fail
  refine wp_loop_rounds 3 ?_
  rw [rounds_succ]
  go_wp2_with fail
  refine (abandon_any W T _ h4).mono ?_
  rintro e w1 ⟨rfl, hb1⟩
  have h31 := keep hb1 h3
  have h51 := keep hb1 h5
  have HB1 := Lib.hid hb1
  clear hb1
  go_wp2_with fail
  rw [rounds_succ]
  go_wp2_with fail
  refine (abandon_any W U _ h51).mono ?_
  rintro e w2 ⟨rfl, hb2⟩
  have hb := HB1.out.trans (hb2.mono HB1.out.size)
  have HB := Lib.hid hb
  clear hb hb2
  go_wp2_with fail
  rw [rounds_succ]
  go_wp2_with fail
  refine (leave_any W n _ (HH.out.below HB.out)).mono ?_
  rintro e w3 ⟨rfl, rfl⟩
  go_wp2
  go_returns
  exact ⟨rfl, HB.out⟩

end Go.Proofs.YtmolccpihmbniaaDoor
