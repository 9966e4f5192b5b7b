/- A block with a row of pointers that grows by one new element a round: what lies in memory while it grows. -/
import Derived.Test.YtebnjfpffdlbbaaC2
import Derived.Deep.AppendLies
import Derived.Deep.RegionLaw
import Derived.OwnWalk
namespace Go.Proofs.Ytebnjfpffdlbbaa
open Go.RowKit
set_option linter.unusedVariables false
set_option linter.unusedSimpArgs false

theorem row_cell {w : World} {B : Nat} {c : Array Value} {t : TypeId} (h : w.heap[B]? = some (.cells c t (0, 0))) (j : Nat) : w.cell? ⟨B, j, none⟩ = c[j]? := by simp [World.cell?, h]
theorem al_heap_new (w : World) (o : Obj) : (w.alloc o).heap[w.heap.size]? = some o := by
  show (w.heap.push o)[w.heap.size]? = _
  rw [Array.getElem?_push, if_pos rfl]
theorem newsN (w : World) (c : Array Value) (t : TypeId) : ∀ j u, c.toList[j]? = some u → (w.alloc (.cells c t)).cell? ((⟨w.heap.size, 0, none⟩ : Addr).add j) = some u := by
  intro j u hj
  have : (⟨w.heap.size, 0, none⟩ : Addr).add j = ⟨w.heap.size, j, none⟩ := by unfold Addr.add; split <;> simp_all
  rw [this, World.cell?_alloc_new]
  simpa using hj
theorem own_below {w w' : World} {base : Nat} {e : TypeId} {size : Nat} {v : Value} {n : Nat} {xs : List Value} (h : w.ownsRow base e size v n xs) (hb : Below w.heap.size w w') : w'.ownsRow base e size v n xs :=
  h.kept (row := none) ⟨hb.os, hb.tape, hb.output, hb.size, fun k hk _ => hb.block k hk⟩ (by cases v.ownBlock <;> simp)
theorem own_base {w : World} {base base' : Nat} {e : TypeId} {size : Nat} {v : Value} {n : Nat} {xs : List Value} (h : w.ownsRow base e size v n xs) (hb : base' ≤ base) : w.ownsRow base' e size v n xs := by
  refine ⟨h.1, ?_⟩
  rcases h.2 with h | ⟨g, cap, cur, h1, h2, h3⟩
  · exact Or.inl h
  · exact Or.inr ⟨g, cap, cur, h1, Nat.le_trans hb h2, h3⟩
theorem news1 {w : World} {b : Nat} {x : Value} (h : w.cell? ⟨b, 0, none⟩ = some x) : ∀ j u, [x][j]? = some u → w.cell? ((⟨b, 0, none⟩ : Addr).add j) = some u := by
  intro j u hj
  match j, hj with
  | 0, hj => simp at hj; subst hj; simpa [Addr.add] using h

/-- Block X: its cell ci is a row of k pointers to blocks Ts i, each with the cells el i. -/
structure Mk (X ci : Nat) (e te : TypeId) (el : Nat → Array Value) (base k : Nat) (v : Value) (ys : List Value) (Ts : Nat → Nat) (w0 w : World) : Prop where
  c1 : w.cell? ⟨X, ci, none⟩ = some v
  rg : w.ownsRow base e 1 v k ys
  get : ∀ i, i < k → ys[i]? = some (.pointer (some ⟨Ts i, 0, none⟩))
  th : ∀ i, i < k → w.heap[Ts i]? = some (.cells (el i) te (0, 0)) ∧ base ≤ Ts i ∧ v.ownBlock ≠ some (Ts i)
  mono : ∀ i j, i < j → j < k → Ts i < Ts j
  f : ∀ o, w.frozen? ⟨X, o, none⟩ = false
  oth : ∀ j, j ≠ ci → w.cell? ⟨X, j, none⟩ = w0.cell? ⟨X, j, none⟩
  hX : X < base
  hb0 : base ≤ w0.heap.size
  hsz : w0.heap.size ≤ w.heap.size
  os : w.os = w0.os
  tape : w.tape = w0.tape
  output : w.output = w0.output
  block : ∀ j, j < base → j ≠ X → w.heap[j]? = w0.heap[j]?

theorem Mk.step {X ci : Nat} {e te : TypeId} {el : Nat → Array Value} {base k g cap2 cap3 : Nat} {ad : Option Addr} {ys : List Value} {Ts : Nat → Nat} {w0 w w2 : World} {o : Obj} (h : Mk X ci e te el base k (.slice ad k cap2) ys Ts w0 w)
    (hown2 : w2.ownsRow base e 1 (.slice (some ⟨g, 0, none⟩) (k + 1) cap3) (k + 1) (ys ++ [.pointer (some ⟨w.heap.size, 0, none⟩)])) (hgrow : ((w.alloc (.cells (el k) te)).alloc o).grownBy w2 (Value.slice ad k cap2).ownBlock)
    (hat : (Value.slice ad k cap2).ownBlock = some g ∨ g = w.heap.size + 2) :
    w2.cell? ⟨X, ci, none⟩ = some (.slice ad k cap2) ∧ w2.frozen? ⟨X, ci, none⟩ = false ∧
    Mk X ci e te el base (k + 1) (.slice (some ⟨g, 0, none⟩) (k + 1) cap3) (ys ++ [.pointer (some ⟨w.heap.size, 0, none⟩)]) (fun i => if i = k then w.heap.size else Ts i) w0 (w2.setCell ⟨X, ci, none⟩ (.slice (some ⟨g, 0, none⟩) (k + 1) cap3)) := by
  have hX := h.hX
  have hb0 := h.hb0
  have hs := h.hsz
  have hlow : ∀ j, (Value.slice ad k cap2).ownBlock = some j → base ≤ j ∧ j < w.heap.size := fun j hj => h.rg.lt _ hj
  have hsz2 : ((w.alloc (.cells (el k) te)).alloc o).heap.size = w.heap.size + 2 := by simp
  have hold : ∀ j, j < w.heap.size → some j ≠ (Value.slice ad k cap2).ownBlock → w2.heap[j]? = w.heap[j]? := fun j hj hn => by
    rw [hgrow.block j (by rw [hsz2]; omega) hn, Below.heap_alloc _ _ _ (by simp; omega), Below.heap_alloc _ _ _ hj]
  have hnew : w2.heap[w.heap.size]? = some (.cells (el k) te (0, 0)) := by
    rw [hgrow.block w.heap.size (by rw [hsz2]; omega) (fun e => by have := (hlow _ e.symm).2; omega), Below.heap_alloc _ _ _ (by simp)]
    exact al_heap_new _ _
  have hblk : ∀ j, j < base → w2.heap[j]? = w.heap[j]? := fun j hj => hold j (by omega) (fun e => by have := (hlow _ e.symm).1; omega)
  have c1 : w2.cell? ⟨X, ci, none⟩ = some (.slice ad k cap2) := (World.cell?_of_block (w := w) (hblk X hX)).trans h.c1
  have hgs := hgrow.size
  rw [hsz2] at hgs
  have hlen : ys.length = k := by have := h.rg.1; omega
  have tlt : ∀ i, i < k → Ts i < w.heap.size := fun i hi => (Array.getElem?_eq_some_iff.1 (h.th i hi).1).1
  refine ⟨c1, (World.frozen?_of_block (w := w) (hblk X hX)).trans (h.f ci), ⟨by apply World.cell?_setCell_same; exact c1, ownsRow_setCell_below hown2 (by exact hX) _, ?_, ?_, ?_, ?_, ?_, hX, hb0, by simp only [World.size_setCell]; omega, hgrow.os.trans h.os, hgrow.tape.trans h.tape, hgrow.output.trans h.output, ?_⟩⟩
  · intro i hi
    by_cases e : i = k
    · subst e
      simp only [if_true]
      rw [List.getElem?_append_right (by omega), hlen, Nat.sub_self]
      rfl
    · simp only [if_neg e]
      rw [List.getElem?_append_left (by omega)]
      exact h.get i (by omega)
  · intro i hi
    by_cases e : i = k
    · subst e
      simp only [if_true]
      refine ⟨by rw [Below.heap_setCell _ _ _ _ (by simp only; omega)]; exact hnew, by omega, fun e2 => ?_⟩
      have hg : g = w.heap.size := by simpa [Value.ownBlock] using e2
      rcases hat with e3 | e3
      · have := (hlow _ e3).2; omega
      · omega
    · simp only [if_neg e]
      obtain ⟨t1, t2, t3⟩ := h.th i (by omega)
      have tl := tlt i (by omega)
      refine ⟨by rw [Below.heap_setCell _ _ _ _ (by simp only; omega), hold _ tl (fun e => t3 e.symm)]; exact t1, t2, fun e2 => ?_⟩
      have hg : g = Ts i := by simpa [Value.ownBlock] using e2
      rcases hat with e3 | e3
      · exact t3 (by rw [e3, hg])
      · omega
  · intro i j hij hj
    by_cases e : j = k
    · subst e
      simp only [if_true, if_neg (show ¬ i = j by omega)]
      exact tlt i (by omega)
    · simp only [if_neg e, if_neg (show ¬ i = k by omega)]
      exact h.mono i j hij (by omega)
  · intro q
    simp only [World.frozen?_setCell]
    exact (World.frozen?_of_block (w := w) (hblk X hX)).trans (h.f q)
  · intro j hj
    have : (w2.setCell ⟨X, ci, none⟩ (.slice (some ⟨g, 0, none⟩) (k + 1) cap3)).cell? ⟨X, j, none⟩ = w2.cell? ⟨X, j, none⟩ := by
      apply World.cell?_setCell_other
      exact fun e => hj (by injection e with e1 e2; exact e2.symm)
    rw [this, World.cell?_of_block (w := w) (hblk X hX)]
    exact h.oth j hj
  · intro j hj hn
    rw [Below.heap_setCell _ _ _ _ (by exact hn), hblk j hj]
    exact h.block j hj hn

theorem Mk.drew {X ci : Nat} {e te : TypeId} {el : Nat → Array Value} {base k : Nat} {v : Value} {ys : List Value} {Ts : Nat → Nat} {w0 w : World} (h : Mk X ci e te el base k v ys Ts w0 w) : Mk X ci e te el base k v ys Ts w0 w.drew :=
  ⟨h.c1, own_below h.rg (Below.refl _ _).drew, h.get, h.th, h.mono, h.f, h.oth, h.hX, h.hb0, h.hsz, h.os, h.tape, h.output, h.block⟩

/-- All that was there is as it was, once X is new. -/
theorem Mk.grown {X ci : Nat} {e te : TypeId} {el : Nat → Array Value} {base k : Nat} {v : Value} {ys : List Value} {Ts : Nat → Nat} {w w0 w1 : World} (h : Mk X ci e te el base k v ys Ts w0 w1) (h0 : Below w.heap.size w w0) (hX : w.heap.size ≤ X) : Below w.heap.size w w1 :=
  ⟨h.os.trans h0.os, h.tape.trans h0.tape, h.output.trans h0.output, Nat.le_trans h0.size h.hsz, fun j hj => by have := h.hX; rw [h.block j (by omega) (by omega), h0.block j hj]⟩
end Go.Proofs.Ytebnjfpffdlbbaa
