/- The document's own world of layer 6 at first: New. -/
import Derived.Test.YtejfcmgnacimgaaDoorR1
import Derived.Deep.AppendLies
import Derived.OwnWalk
import Derived.Laws.OwnMore
namespace Go.Proofs.YtejfcmgnacimgaaDoor
open Go.RowKit
set_option linter.unusedVariables false
set_option linter.unusedSimpArgs false

theorem own_below {w w' : World} {base : Nat} {e : TypeId} {size : Nat} {v : Value} {n : Nat} {xs : List Value} (h : w.ownsRow base e size v n xs) (hb : Below w.heap.size w w') : w'.ownsRow base e size v n xs :=
  h.kept (row := none) ⟨hb.os, hb.tape, hb.output, hb.size, fun k hk _ => hb.block k hk⟩ (by cases v.ownBlock <;> simp)
theorem newsN (w : World) (c : Array Value) (t : TypeId) : ∀ j u, c.toList[j]? = some u → (w.alloc (.cells c t)).cell? ((⟨w.heap.size, 0, none⟩ : Addr).add j) = some u := by
  intro j u hj
  have : (⟨w.heap.size, 0, none⟩ : Addr).add j = ⟨w.heap.size, j, none⟩ := by unfold Addr.add; split <;> simp_all
  rw [this, World.cell?_alloc_new]
  simpa using hj
theorem own_slice {w : World} {B m : Nat} {e : TypeId} {size : Nat} {v : Value} {xs : List Value} (h : w.ownsRow B e size v m xs) : ∃ ad cap, v = .slice ad m cap := by
  rcases h.2 with ⟨rfl, rfl⟩ | ⟨g, cap, cur, rfl, _⟩
  · exact ⟨_, _, rfl⟩
  · exact ⟨_, _, rfl⟩
theorem cset_o {w : World} {a b : Addr} {v : Value} (h : a ≠ b) : (w.setCell a v).cell? b = w.cell? b := by apply World.cell?_setCell_other; exact h
theorem cset_s {w : World} {a : Addr} {u v : Value} (h : w.cell? a = some u) : (w.setCell a v).cell? a = some v := by apply World.cell?_setCell_same; exact h

theorem info61 : (Tryd.prog.info? 61).map (fun i => (i.zero.map (·.cells.size), i.size, i.bytes)) = some (some 14, 14, 112) := by kernel_rfl
theorem info62 : (Tryd.prog.info? 62).map (fun i => (i.zero.map (·.cells.size), i.size, i.bytes)) = some (some 12, 12, 96) := by kernel_rfl

/-- Such a world while it is made: of the row in cell c there are k elements (type e, size z); cells 1 to 3 stand. -/
structure NS (W base : Nat) (B a b : Int) (e : TypeId) (z : Nat) (c k : Nat) (fs : List (Addr × Value)) (w0 w : World) : Prop where
  c1 : w.cell? ⟨W, 1, none⟩ = some (.int .i64 B)
  c2 : w.cell? ⟨W, 2, none⟩ = some (.int .i64 a)
  c3 : w.cell? ⟨W, 3, none⟩ = some (.int .i64 b)
  cr : ∃ v xs, w.cell? ⟨W, c, none⟩ = some v ∧ w.ownsRow base e z v k xs
  fx : ∀ p ∈ fs, w.cell? p.1 = some p.2
  f : ∀ o, w.frozen? ⟨W, o, none⟩ = false
  hc : 4 ≤ c
  hfx : ∀ p ∈ fs, p.1.block < base ∧ p.1 ≠ ⟨W, c, none⟩
  hW : W = w0.heap.size + 1
  hbase : base = w0.heap.size + 2
  hsz : base ≤ w.heap.size
  hb : Below w0.heap.size w0 w

theorem NS.step {W base : Nat} {B a b : Int} {e : TypeId} {z c k cap2 g cap3 : Nat} {ad : Option Addr} {fx : List (Addr × Value)} {w0 wr w2 : World} {xs xs' : List Value} {o : Obj} (h : NS W base B a b e z c k fx w0 wr)
    (hown : wr.ownsRow base e z (.slice ad k cap2) k xs) (hown2 : w2.ownsRow base e z (.slice (some ⟨g, 0, none⟩) (k + 1) cap3) (k + 1) xs') (hgrow : (wr.alloc o).grownBy w2 (Value.slice ad k cap2).ownBlock) :
    NS W base B a b e z c (k + 1) fx w0 (w2.setCell ⟨W, c, none⟩ (.slice (some ⟨g, 0, none⟩) (k + 1) cap3)) ∧ (∀ q, w2.frozen? ⟨W, q, none⟩ = false) ∧ (∃ u, w2.cell? ⟨W, c, none⟩ = some u) := by
  have hlow : ∀ j, (Value.slice ad k cap2).ownBlock = some j → base ≤ j := fun j hj => (hown.lt _ hj).1
  have hbs := h.hsz
  have hWb : W < base := by rw [h.hW, h.hbase]; omega
  have far : ∀ p : Addr, p.block < base → w2.cell? p = wr.cell? p := fun p hp => by
    rw [hgrow.cell_far _ (by simp; omega) (fun e => by have := hlow p.block e.symm; omega), World.cell?_alloc_lt _ _ _ (by omega)]
  have ffar : ∀ p : Addr, p.block < base → w2.frozen? p = wr.frozen? p := fun p hp => by
    rw [hgrow.frozen_far _ (by simp; omega) (fun e => by have := hlow p.block e.symm; omega), World.frozen?_alloc_old _ _ _ (by omega)]
  obtain ⟨v, ys, hv, -⟩ := h.cr
  have hgs := hgrow.size
  simp only [World.size_alloc] at hgs
  have cell : ∀ j u, j ≠ c → wr.cell? ⟨W, j, none⟩ = some u → (w2.setCell ⟨W, c, none⟩ (.slice (some ⟨g, 0, none⟩) (k + 1) cap3)).cell? ⟨W, j, none⟩ = some u := fun j u hj hu => by
    rw [cset_o (fun e => hj (by injection e with e1 e2; exact e2.symm)), far _ hWb]; exact hu
  have hc := h.hc
  refine ⟨⟨cell 1 _ (by omega) h.c1, cell 2 _ (by omega) h.c2, cell 3 _ (by omega) h.c3, ⟨_, xs', cset_s (u := v) ((far _ hWb).trans hv), ownsRow_setCell_below hown2 (by exact hWb) _⟩, ?_, ?_, h.hc, h.hfx, h.hW, h.hbase, ?_, ?_⟩, ?_, ?_⟩
  · intro p hp
    obtain ⟨p1, p2⟩ := h.hfx p hp
    rw [cset_o (fun e => p2 e.symm), far _ p1]; exact h.fx p hp
  · intro q
    simp only [World.frozen?_setCell]
    rw [ffar _ hWb]; exact h.f q
  · simp only [World.size_setCell]; omega
  · refine h.hb.trans ⟨?_, ?_, ?_, ?_, ?_⟩
    · exact hgrow.os
    · exact hgrow.tape
    · exact hgrow.output
    · simp only [World.size_setCell]; omega
    · intro j hj
      have h1 := h.hW
      rw [Below.heap_setCell _ _ _ _ (by simp only; omega), hgrow.block j (by simp; omega) (fun e => by have := hlow j e.symm; have := h.hbase; omega)]
      exact Below.heap_alloc _ _ _ (by have := h.hb.size; omega)
  · intro q; rw [ffar _ hWb]; exact h.f q
  · exact ⟨v, (far _ hWb).trans hv⟩
end Go.Proofs.YtejfcmgnacimgaaDoor
