/- The document's own New, of two threads and one slot: what lies in its memory. -/
import Derived.Test.YtejfcmgnacimgaaDoorT1
namespace Go.Proofs.YtejfcmgnacimgaaDoor
open Go.RowKit
set_option linter.unusedVariables false
set_option linter.unusedSimpArgs false

def u0 : U := ⟨fun k => if k = 2 then -1 else if k = 4 then -1 else 0, fun _ => 0, 0⟩

theorem ns1 (T B a b x y : Int) (w : World) : NS (w.heap.size + 1) (w.heap.size + 2) B x y 61 14 4 0 [(⟨w.heap.size, 0, none⟩, .int .i64 T), (⟨w.heap.size + 1, 5, none⟩, .slice none 0 0), (⟨w.heap.size + 1, 6, none⟩, .int .i64 0)] w
    ((w.alloc (.cells #[.int .i64 T, .int .i64 B, .int .i64 a, .int .i64 b] 24)).alloc (.cells #[.int .i64 T, .int .i64 B, .int .i64 x, .int .i64 y, .slice none 0 0, .slice none 0 0, .int .i64 0] 35)) := by
  refine ⟨by simp [go_sem], by simp [go_sem], by simp [go_sem], ⟨.slice none 0 0, [], by simp [go_sem], World.ownsRow_nil _ _ _ _⟩, ?_, fun o => by simp [go_sem], by decide, ?_, rfl, rfl, by simp, by go_grown⟩
  · intro p hp
    simp only [List.mem_cons, List.mem_singleton, List.not_mem_nil, or_false] at hp
    rcases hp with rfl | rfl | rfl <;> simp [go_sem]
  · intro p hp
    simp only [List.mem_cons, List.mem_singleton, List.not_mem_nil, or_false] at hp
    rcases hp with rfl | rfl | rfl <;> simp

theorem nx1 (T B a b x y : Int) (w : World) : ((w.alloc (.cells #[.int .i64 T, .int .i64 B, .int .i64 a, .int .i64 b] 24)).alloc (.cells #[.int .i64 T, .int .i64 B, .int .i64 x, .int .i64 y, .slice none 0 0, .slice none 0 0, .int .i64 0] 35)).cell? ⟨w.heap.size + 1, 4, none⟩ = some (.slice none 0 0) := by simp [go_sem]
theorem ns_draw {W base : Nat} {B a b : Int} {e : TypeId} {z c k : Nat} {fs : List (Addr × Value)} {w0 w : World} (h : NS W base B a b e z c k fs w0 w) (j : Nat) : NS W base B a b e z c k fs w0 (w.drewN j) := by
  obtain ⟨v, xs, h1, h2⟩ := h.cr
  exact ⟨h.c1, h.c2, h.c3, ⟨v, xs, h1, own_below h2 (below_drewN (Below.refl _ _) j)⟩, h.fx, h.f, h.hc, h.hfx, h.hW, h.hbase, h.hsz, below_drewN h.hb j⟩

/-- Where it stands: q threads are there; the row of slots lies in block S, the row of threads in v. -/
structure NG (W S base cs : Nat) (a : Int) (v : Value) (q : Nat) (zs : List Value) (w0 w : World) : Prop where
  c1 : w.cell? ⟨W, 1, none⟩ = some (.int .i64 5)
  c2 : w.cell? ⟨W, 2, none⟩ = some (.int .i64 a)
  c4 : w.cell? ⟨W, 4, none⟩ = some (.slice (some ⟨S, 0, none⟩) 1 cs)
  c5 : w.cell? ⟨W, 5, none⟩ = some v
  c6 : w.cell? ⟨W, 6, none⟩ = some (.int .i64 0)
  f : ∀ o, w.frozen? ⟨W, o, none⟩ = false
  rs : w.ownsRow base 61 14 (.slice (some ⟨S, 0, none⟩) 1 cs) 1 sl61.toList
  rg : w.ownsRow base 62 12 v q zs
  ne : v.ownBlock ≠ some S
  hW : W = w0.heap.size + 1
  hbase : base = w0.heap.size + 2
  hsz : base ≤ w.heap.size
  hb : Below w0.heap.size w0 w

theorem NG.step {W S base cs g cap2 cap3 q : Nat} {a : Int} {ad : Option Addr} {zs zs' : List Value} {w0 w w2 : World} {o : Obj} (h : NG W S base cs a (.slice ad q cap2) q zs w0 w)
    (hown2 : w2.ownsRow base 62 12 (.slice (some ⟨g, 0, none⟩) (q + 1) cap3) (q + 1) zs') (hgrow : (w.alloc o).grownBy w2 (Value.slice ad q cap2).ownBlock) (hat : (Value.slice ad q cap2).ownBlock = some g ∨ g = w.heap.size + 1) :
    NG W S base cs a (.slice (some ⟨g, 0, none⟩) (q + 1) cap3) (q + 1) zs' w0 (w2.setCell ⟨W, 5, none⟩ (.slice (some ⟨g, 0, none⟩) (q + 1) cap3)) ∧ (∀ q, w2.frozen? ⟨W, q, none⟩ = false) ∧ (∃ u, w2.cell? ⟨W, 5, none⟩ = some u) := by
  have hbs := h.hsz
  have hWb : W < base := by rw [h.hW, h.hbase]; omega
  have hlow : ∀ j, (Value.slice ad q cap2).ownBlock = some j → base ≤ j := fun j hj => (h.rg.lt _ hj).1
  have far : ∀ p : Addr, p.block < base → w2.cell? p = w.cell? p := fun p hp => by
    rw [hgrow.cell_far _ (by simp; omega) (fun e => by have := hlow p.block e.symm; omega), World.cell?_alloc_lt _ _ _ (by omega)]
  have ffar : ∀ p : Addr, p.block < base → w2.frozen? p = w.frozen? p := fun p hp => by
    rw [hgrow.frozen_far _ (by simp; omega) (fun e => by have := hlow p.block e.symm; omega), World.frozen?_alloc_old _ _ _ (by omega)]
  have hgs := hgrow.size
  simp only [World.size_alloc] at hgs
  have hSlt : S < w.heap.size := (h.rs.lt S rfl).2
  have cell : ∀ j u, j ≠ 5 → w.cell? ⟨W, j, none⟩ = some u → (w2.setCell ⟨W, 5, none⟩ (.slice (some ⟨g, 0, none⟩) (q + 1) cap3)).cell? ⟨W, j, none⟩ = some u := fun j u hj hu => by
    rw [cset_o (fun e => hj (by injection e with e1 e2; exact e2.symm)), far _ hWb]; exact hu
  refine ⟨⟨cell 1 _ (by decide) h.c1, cell 2 _ (by decide) h.c2, cell 4 _ (by decide) h.c4, cset_s ((far _ hWb).trans h.c5), cell 6 _ (by decide) h.c6, ?_, ?_, ownsRow_setCell_below hown2 (by exact hWb) _, ?_, h.hW, h.hbase, by simp only [World.size_setCell]; omega, ?_⟩, ?_, ?_⟩
  · intro q
    simp only [World.frozen?_setCell]
    rw [ffar _ hWb]; exact h.f q
  · exact ownsRow_setCell_below ((h.rs.alloc o).kept hgrow (Or.inr (fun e => h.ne e.symm))) (by exact hWb) _
  · rcases hat with e | e
    · intro e2
      exact h.ne (e.trans e2)
    · intro e2
      have : g = S := by simpa [Value.ownBlock] using e2
      omega
  · refine h.hb.trans ⟨hgrow.os, hgrow.tape, hgrow.output, ?_, ?_⟩
    · simp only [World.size_setCell]; omega
    · intro j hj
      have h1 := h.hW
      rw [Below.heap_setCell _ _ _ _ (by simp only; omega), hgrow.block j (by simp; omega) (fun e => by have := hlow j e.symm; have := h.hbase; omega)]
      exact Below.heap_alloc _ _ _ (by have := h.hb.size; omega)
  · intro q; rw [ffar _ hWb]; exact h.f q
  · exact ⟨_, (far _ hWb).trans h.c5⟩

theorem NG.draw {W S base cs q : Nat} {a : Int} {v : Value} {zs : List Value} {w0 w : World} (h : NG W S base cs a v q zs w0 w) (j : Nat) : NG W S base cs a v q zs w0 (w.drewN j) :=
  ⟨h.c1, h.c2, h.c4, h.c5, h.c6, h.f, own_below h.rs (below_drewN (Below.refl _ _) j), own_below h.rg (below_drewN (Below.refl _ _) j), h.ne, h.hW, h.hbase, h.hsz, below_drewN h.hb j⟩
theorem NG.done {W S base cs g cap : Nat} {a b : Int} {w0 w : World} (hab : (a = 1 ∧ b = 0) ∨ (a = 0 ∧ b = 1)) (h : NG W S base cs a (.slice (some ⟨g, 0, none⟩) 3 cap) 3 (sl62.toList ++ sl62.toList ++ sl62.toList) w0 w) :
    UAt W S g 5 a b cs cap u0 w ∧ w0.heap.size ≤ W ∧ w0.heap.size ≤ S ∧ w0.heap.size ≤ g := by
  have hS := h.rs.lt S rfl
  have hg := h.rg.lt g rfl
  have h1 := h.hW
  have h2 := h.hbase
  refine ⟨⟨⟨h.c1, h.c2, ⟨_, _, h.c4⟩, by decide, by omega, by omega, by omega⟩, h.c4, h.c5, h.c6, fun k hk => ?_, fun j hj => ?_, h.f, fun o => h.rs.frozenAt o, fun o => h.rg.frozenAt o, by omega, by omega, fun e => h.ne (by rw [e]; rfl)⟩, by omega, by omega, by omega⟩
  · rw [h.rs.cellAt k (by omega)]
    match k, hk with
    | 0, _ | 1, _ | 2, _ | 3, _ | 4, _ | 5, _ | 6, _ | 7, _ | 8, _ | 9, _ | 10, _ | 11, _ | 12, _ | 13, _ => rfl
    | k + 14, h => omega
  · rw [h.rg.cellAt j (by omega)]
    have hz : (sl62.toList ++ sl62.toList ++ sl62.toList) = List.replicate 36 (.int .i64 0) := rfl
    rw [hz, List.getElem?_replicate, if_pos hj]
    rfl
end Go.Proofs.YtejfcmgnacimgaaDoor
