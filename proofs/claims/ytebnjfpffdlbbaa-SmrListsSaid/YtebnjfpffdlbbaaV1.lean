/- vmem's record, alone: the event is appended, with its number, its thread and its name. -/
import Derived.Test.YtebnjfpffdlbbaaC3
import Derived.WalkKit
import Derived.WalkSpells
import Derived.WalkLawsBesides
import Derived.Lib.Hide
import Derived.Deep.RegionWith
import Derived.Deep.QuietTactic
import Derived.Deep.AppendLies
import Derived.Deep.RegionLaw
import Derived.Deep.Cut
import Derived.Deep.CutRange
import Derived.Laws.OwnMore
import Derived.OwnWalk
import Derived.BigQuiet
import Derived.WalkSmall
import Derived.Handy
namespace Go.Proofs.Ytebnjfpffdlbbaa
open Go.RowKit
set_option linter.unusedVariables false
set_option linter.unusedSimpArgs false

theorem info61 : (Try.prog.info? 61).map (fun i => (i.zero.map (·.cells.size), i.size, i.bytes)) = some (some 16, 16, 128) := by kernel_rfl

structure RC (w : World) (cs : Array Value) (wc : World) : Prop where
  box : wc.heap[w.heap.size]? = some (.cells cs 61 (0, 0))
  hB : Below w.heap.size w wc
  sz : wc.heap.size = w.heap.size + 1

/-- What an append to the events keeps: all but the old row of the events and cell 3 of block W. -/
structure Kr (W : Nat) (row : Option Nat) (w w' : World) : Prop where
  os : w'.os = w.os
  tape : w'.tape = w.tape
  output : w'.output = w.output
  size : w.heap.size ≤ w'.heap.size
  block : ∀ k, k < w.heap.size → k ≠ W → some k ≠ row → w'.heap[k]? = w.heap[k]?
  cell : ∀ j, j ≠ 3 → w'.cell? ⟨W, j, none⟩ = w.cell? ⟨W, j, none⟩
  fz : ∀ j, w'.frozen? ⟨W, j, none⟩ = w.frozen? ⟨W, j, none⟩

theorem rec_after {W n base g c cap2 : Nat} {sl : Option Addr} {xs ys : List Value} {w wc w4 : World} {o : Obj} (hB : Below w.heap.size w wc) (hbase : base ≤ w.heap.size) (hW : W < base)
    (hown : wc.ownsRow base 61 16 (.slice sl n c) n xs) (he : wc.cell? ⟨W, 3, none⟩ = some (.slice sl n c))
    (hown2 : w4.ownsRow base 61 16 (.slice (some ⟨g, 0, none⟩) (n + 1) cap2) (n + 1) ys) (hgrow : (wc.drew.alloc o).grownBy w4 (Value.slice sl n c).ownBlock) (hat : (Value.slice sl n c).ownBlock = some g ∨ g = (wc.drew.alloc o).heap.size) :
    w4.cell? ⟨W, 3, none⟩ = some (.slice sl n c) ∧ w4.frozen? ⟨W, 3, none⟩ = wc.frozen? ⟨W, 3, none⟩ ∧
    ((w4.setCell ⟨W, 3, none⟩ (.slice (some ⟨g, 0, none⟩) (n + 1) cap2)).cell? ⟨W, 3, none⟩ = some (.slice (some ⟨g, 0, none⟩) (n + 1) cap2) ∧
      (w4.setCell ⟨W, 3, none⟩ (.slice (some ⟨g, 0, none⟩) (n + 1) cap2)).ownsRow base 61 16 (.slice (some ⟨g, 0, none⟩) (n + 1) cap2) (n + 1) ys ∧ Kr W (Value.slice sl n c).ownBlock w (w4.setCell ⟨W, 3, none⟩ (.slice (some ⟨g, 0, none⟩) (n + 1) cap2)) ∧ ((Value.slice sl n c).ownBlock = some g ∨ w.heap.size ≤ g)) := by
  have hlow : ∀ j, (Value.slice sl n c).ownBlock = some j → base ≤ j := fun j hj => (hown.lt _ hj).1
  have hsz := hB.size
  have hblk : ∀ k, k < wc.heap.size → some k ≠ (Value.slice sl n c).ownBlock → w4.heap[k]? = wc.heap[k]? := fun k hk hn => by
    rw [hgrow.block k (by simp; omega) hn]
    exact Below.heap_alloc wc.drew o k hk
  have hWo : some W ≠ (Value.slice sl n c).ownBlock := fun e => by have := hlow W e.symm; omega
  have hWs : W < wc.heap.size := by omega
  have c3 : w4.cell? ⟨W, 3, none⟩ = some (.slice sl n c) := (World.cell?_of_block (w := wc) (hblk W hWs hWo)).trans he
  have hgs := hgrow.size
  simp only [World.size_alloc] at hgs
  have hgs' : wc.heap.size + 1 ≤ w4.heap.size := hgs
  have co : ∀ {p : Addr} {v : Value}, p ≠ ⟨W, 3, none⟩ → (w4.setCell ⟨W, 3, none⟩ v).cell? p = w4.cell? p := fun h => by apply World.cell?_setCell_other; exact Ne.symm h
  refine ⟨c3, World.frozen?_of_block (w := wc) (hblk W hWs hWo), by apply World.cell?_setCell_same; exact c3, ownsRow_setCell_below hown2 (by exact hW) _, ⟨hgrow.os.trans hB.os, hgrow.tape.trans hB.tape, hgrow.output.trans hB.output, by simp only [World.size_setCell]; omega, ?_, ?_, ?_⟩, ?_⟩
  · intro k hk hn hr
    rw [Below.heap_setCell _ _ _ _ (by exact hn), hblk k (by omega) hr, hB.block k hk]
  · intro j hj
    rw [co (fun e => hj (by injection e))]
    exact (World.cell?_of_block (w := wc) (hblk W hWs hWo)).trans (hB.cell (p := ⟨W, j, none⟩) (by simp only; omega))
  · intro j
    simp only [World.frozen?_setCell]
    exact (World.frozen?_of_block (w := wc) (hblk W hWs hWo)).trans (hB.frozen (p := ⟨W, j, none⟩) (by simp only; omega))
  · rcases hat with h | h
    · exact Or.inl h
    · right
      simp only [World.size_alloc] at h
      have : g = wc.heap.size + 1 := h
      omega

set_option maxHeartbeats 8000000 in
set_option maxRecDepth 100000 in
theorem record_l {T W n base : Nat} {id by_ : Int} {sl : Option Addr} {c : Nat} {xs : List Value} {w : World} {e0 e1 e2 e3 e4 e5 e6 e7 e8 e9 e10 e11 e12 e13 e14 e15 : Value}
    (h0 : w.cell? ⟨T, 0, none⟩ = some (.pointer (some ⟨W, 0, none⟩))) (h1 : w.cell? ⟨T, 1, none⟩ = some (.int .i64 id)) (h2 : w.cell? ⟨T, 2, none⟩ = some (.int .i64 by_)) (he : w.cell? ⟨W, 3, none⟩ = some (.slice sl n c)) (hf : w.frozen? ⟨W, 3, none⟩ = false)
    (hown : w.ownsRow base 61 16 (.slice sl n c) n xs) (hbase : base ≤ w.heap.size) (hW : W < base) (hn : n ≤ 100000) (h1c : ∀ u ∈ [e3, e4, e5, e6, e7, e8, e9, e10, e11, e12, e13, e14, e15], u.oneCell' = true) :
    Calls Try.prog 51 #[.pointer (some ⟨T, 0, none⟩), .agg #[e0, e1, e2, e3, e4, e5, e6, e7, e8, e9, e10, e11, e12, e13, e14, e15]] w fun e w' => e = .returned (.tuple #[]) ∧ ∃ g cap, w'.cell? ⟨W, 3, none⟩ = some (.slice (some ⟨g, 0, none⟩) (n + 1) cap) ∧
      w'.ownsRow base 61 16 (.slice (some ⟨g, 0, none⟩) (n + 1) cap) (n + 1) (xs ++ [.int .i64 n, .int .i64 id, .int .i64 by_, e3, e4, e5, e6, e7, e8, e9, e10, e11, e12, e13, e14, e15]) ∧ Kr W (Value.slice sl n c).ownBlock w w' ∧ ((Value.slice sl n c).ownBlock = some g ∨ w.heap.size ≤ g) := by
  obtain ⟨i, z, hi, hz, hc, hs1, h8⟩ : ∃ i z, Try.prog.info? 61 = some i ∧ i.zero = some z ∧ z.cells.size = 16 ∧ i.size = 16 ∧ i.bytes = 128 := by
    have := info61
    cases hh : Try.prog.info? 61 with
    | none => rw [hh] at this; cases this
    | some i => rw [hh] at this; simp at this; obtain ⟨⟨z, hz, h0⟩, h1, h2⟩ := this; exact ⟨i, z, rfl, hz, h0, h1, h2⟩
  have hTl := World.block_lt_of_cell? _ _ h0
  have hWl := World.block_lt_of_cell? _ _ he
  simp only at hTl hWl
  have HOWN := Lib.hid hown
  have H1C := Lib.hid h1c
  clear hown h1c
  go_enter Try.func51, Try.ntmps51
  go_upto_region 2 with fail
  go_cut [] from 9 to 24 (fun wc => RC w #[.int .i64 n, .int .i64 id, .int .i64 by_, e3, e4, e5, e6, e7, e8, e9, e10, e11, e12, e13, e14, e15] wc)
  case first =>
    go_region_law (fail)
    all_goals
      go_wp2_with fail
      go_meet
      exact ⟨al_heap_new w _, by go_grown, by simp⟩
  case rest =>
    obtain ⟨hbox, hB, hsz⟩ := hcut
    have b0 : wc.cell? ⟨w.heap.size, 0, none⟩ = some (.int .i64 n) := row_cell hbox 0
    have b1 : wc.cell? ⟨w.heap.size, 1, none⟩ = some (.int .i64 id) := row_cell hbox 1
    have b2 : wc.cell? ⟨w.heap.size, 2, none⟩ = some (.int .i64 by_) := row_cell hbox 2
    have b3 : wc.cell? ⟨w.heap.size, 3, none⟩ = some e3 := row_cell hbox 3
    have b4 : wc.cell? ⟨w.heap.size, 4, none⟩ = some e4 := row_cell hbox 4
    have b5 : wc.cell? ⟨w.heap.size, 5, none⟩ = some e5 := row_cell hbox 5
    have b6 : wc.cell? ⟨w.heap.size, 6, none⟩ = some e6 := row_cell hbox 6
    have b7 : wc.cell? ⟨w.heap.size, 7, none⟩ = some e7 := row_cell hbox 7
    have b8 : wc.cell? ⟨w.heap.size, 8, none⟩ = some e8 := row_cell hbox 8
    have b9 : wc.cell? ⟨w.heap.size, 9, none⟩ = some e9 := row_cell hbox 9
    have b10 : wc.cell? ⟨w.heap.size, 10, none⟩ = some e10 := row_cell hbox 10
    have b11 : wc.cell? ⟨w.heap.size, 11, none⟩ = some e11 := row_cell hbox 11
    have b12 : wc.cell? ⟨w.heap.size, 12, none⟩ = some e12 := row_cell hbox 12
    have b13 : wc.cell? ⟨w.heap.size, 13, none⟩ = some e13 := row_cell hbox 13
    have b14 : wc.cell? ⟨w.heap.size, 14, none⟩ = some e14 := row_cell hbox 14
    have b15 : wc.cell? ⟨w.heap.size, 15, none⟩ = some e15 := row_cell hbox 15
    have q3 := keep hB he
    have qf : wc.frozen? ⟨W, 3, none⟩ = false := (hB.frozen (p := ⟨W, 3, none⟩) hWl).trans hf
    have HRW := Lib.hid (own_below HOWN.out hB)
    have HB := Lib.hid hB
    have hWc : W < wc.heap.size := by omega
    have hbc : base ≤ wc.heap.size := by omega
    have HSZ := Lib.hid hsz
    clear hbox hB h0 h1 h2 he hf hsz
    go_wp2_with fail
    go_region_law (first
      | ((refine step_append_lies _ rfl (.tmp 29) (.tmp 31) 53 rfl base 61 i z 16 128 Try.underlying53 hi hz hs1 h8 hc (by decide) (.slice sl n c) n xs (by simp [Act.eval, Act.put]) ((own_below HRW.out ((Below.refl _ _).drew)).alloc _) ⟨wc.heap.size, 0, none⟩ 1 1 [.int .i64 n, .int .i64 id, .int .i64 by_, e3, e4, e5, e6, e7, e8, e9, e10, e11, e12, e13, e14, e15] (by simp [Act.eval, Act.put]) rfl (newsN wc.drew #[.int .i64 n, .int .i64 id, .int .i64 by_, e3, e4, e5, e6, e7, e8, e9, e10, e11, e12, e13, e14, e15] 61) ?_ (by decide) (by unfold maxLen; omega) (by omega) (by simp; omega) _ rfl ?_)
         · intro u hu
           simp only [List.mem_cons] at hu
           rcases hu with rfl | rfl | rfl | hu
           · rfl
           · rfl
           · rfl
           · exact H1C.out u (by simpa using hu)
         intro g cap2 w4 hown2 hgrow hat hlt
         obtain ⟨R1, R2, R3⟩ := rec_after HB.out hbase hW HRW.out q3 hown2 hgrow hat
         rw [qf] at R2
         have HR3 := Lib.hid R3
         clear hown2 hgrow hat hlt R3))
    all_goals
      go_wp2
      go_returns
      exact ⟨rfl, _, _, HR3.out⟩
end Go.Proofs.Ytebnjfpffdlbbaa
