/- What lies in memory behind k Puts by one thread, and the step to k + 1. -/
import Derived.Test.YtebnjfpffdlbbaaP1
namespace Go.Proofs.Ytebnjfpffdlbbaa
open Go.RowKit
set_option linter.unusedVariables false
set_option linter.unusedSimpArgs false

abbrev O := Int × Int × Int
/-- The event of the i-th Put, by the setup thread. -/
def ev (id : Int) (i : Nat) (o : O) : Array Value := #[.int .i64 i, .int .i64 id, .int .i64 4, .int .i64 5, .int .i64 0, .int .u64 0, .int .u64 0, .bool false, .int .i64 8, .int .i64 (o.1 % 4194304), .int .i64 0, .int .i64 0, .int .i64 0, .int .i64 0, .int .u64 o.2.2, .int .i64 0]
/-- A slot on a list. -/
def ent (o : O) : Array Value := #[.int .u64 o.1, .int .u64 o.2.1, .int .u64 o.2.2, .bool false]

structure Ps (W L : Nat) (id : Int) (gs : Nat → O) (base k : Nat) (sa : Option Addr) (sc : Nat) (ra : Option Addr) (rc : Nat) (xs ys : List Value) (Es : Nat → Nat) (w0 w : World) : Prop where
  e3 : w.cell? ⟨W, 3, none⟩ = some (.slice sa k sc)
  er : w.ownsRow base 61 16 (.slice sa k sc) k xs
  ex : ∀ i, i < k → ∀ j, j < 16 → xs[i * 16 + j]? = (ev id i (gs i))[j]?
  l0 : w.cell? ⟨L, 0, none⟩ = some (.slice ra k rc)
  lr : w.ownsRow base 89 1 (.slice ra k rc) k ys
  get : ∀ i, i < k → ys[i]? = some (.pointer (some ⟨Es i, 0, none⟩))
  en : ∀ i, i < k → w.heap[Es i]? = some (.cells (ent (gs i)) 91 (0, 0)) ∧ base ≤ Es i ∧ (Value.slice sa k sc).ownBlock ≠ some (Es i) ∧ (Value.slice ra k rc).ownBlock ≠ some (Es i)
  sep : ∀ j, (Value.slice sa k sc).ownBlock = some j → (Value.slice ra k rc).ownBlock ≠ some j
  fW : ∀ o, w.frozen? ⟨W, o, none⟩ = false
  fL : ∀ o, w.frozen? ⟨L, o, none⟩ = false
  othW : ∀ j, j ≠ 3 → w.cell? ⟨W, j, none⟩ = w0.cell? ⟨W, j, none⟩
  othL : ∀ j, j ≠ 0 → w.cell? ⟨L, j, none⟩ = w0.cell? ⟨L, j, none⟩
  hW : W < base
  hL : L < base
  hWL : L ≠ W
  hb0 : base ≤ w0.heap.size
  hsz : w0.heap.size ≤ w.heap.size
  os : w.os = w0.os
  tape : w.tape = w0.tape
  output : w.output = w0.output
  block : ∀ j, j < base → j ≠ W → j ≠ L → w.heap[j]? = w0.heap[j]?
  z0 : k = 0 → sa = none ∧ sc = 0

theorem Kr.and_below {W : Nat} {row : Option Nat} {w w1 w' : World} (k : Kr W row w w1) (hW : W < w.heap.size) (hb : Below w1.heap.size w1 w') : Kr W row w w' :=
  ⟨hb.os.trans k.os, hb.tape.trans k.tape, hb.output.trans k.output, Nat.le_trans k.size hb.size, fun j hj h1 h2 => (hb.block j (Nat.lt_of_lt_of_le hj k.size)).trans (k.block j hj h1 h2),
    fun j hj => (hb.cell (p := ⟨W, j, none⟩) (Nat.lt_of_lt_of_le hW k.size)).trans (k.cell j hj), fun j => (hb.frozen (p := ⟨W, j, none⟩) (Nat.lt_of_lt_of_le hW k.size)).trans (k.fz j)⟩

theorem Ps.below {W L : Nat} {id : Int} {gs : Nat → O} {base k : Nat} {sa : Option Addr} {sc : Nat} {ra : Option Addr} {rc : Nat} {xs ys : List Value} {Es : Nat → Nat} {w0 w w' : World} (h : Ps W L id gs base k sa sc ra rc xs ys Es w0 w) (hb : Below w.heap.size w w') : Ps W L id gs base k sa sc ra rc xs ys Es w0 w' := by
  have hWs : W < w.heap.size := by have := h.hW; have := h.hb0; have := h.hsz; omega
  have hLs : L < w.heap.size := by have := h.hL; have := h.hb0; have := h.hsz; omega
  exact ⟨keep hb h.e3, own_below h.er hb, h.ex, keep hb h.l0, own_below h.lr hb, h.get, fun i hi => ⟨by rw [hb.block _ (Array.getElem?_eq_some_iff.1 (h.en i hi).1).1]; exact (h.en i hi).1, (h.en i hi).2⟩, h.sep,
    fun o => (hb.frozen (p := ⟨W, o, none⟩) hWs).trans (h.fW o), fun o => (hb.frozen (p := ⟨L, o, none⟩) hLs).trans (h.fL o), fun j hj => (hb.cell (p := ⟨W, j, none⟩) hWs).trans (h.othW j hj), fun j hj => (hb.cell (p := ⟨L, j, none⟩) hLs).trans (h.othL j hj),
    h.hW, h.hL, h.hWL, h.hb0, Nat.le_trans h.hsz hb.size, hb.os.trans h.os, hb.tape.trans h.tape, hb.output.trans h.output, fun j hj h1 h2 => (hb.block j (by have := h.hb0; have := h.hsz; omega)).trans (h.block j hj h1 h2), h.z0⟩

theorem Ps.step {W L : Nat} {id : Int} {gs : Nat → O} {base k g g2 c1 c3 : Nat} {sa : Option Addr} {sc : Nat} {ra : Option Addr} {rc : Nat} {xs ys : List Value} {Es : Nat → Nat} {w0 w w3 w5 : World} {o : Obj} (h : Ps W L id gs base k sa sc ra rc xs ys Es w0 w)
    (K : Kr W (Value.slice sa k sc).ownBlock w w3) (e3' : w3.cell? ⟨W, 3, none⟩ = some (.slice (some ⟨g, 0, none⟩) (k + 1) c1)) (er' : w3.ownsRow base 61 16 (.slice (some ⟨g, 0, none⟩) (k + 1) c1) (k + 1) (xs ++ (ev id k (gs k)).toList)) (hg : (Value.slice sa k sc).ownBlock = some g ∨ w.heap.size ≤ g)
    (own2 : w5.ownsRow base 89 1 (.slice (some ⟨g2, 0, none⟩) (k + 1) c3) (k + 1) (ys ++ [.pointer (some ⟨w3.heap.size, 0, none⟩)])) (grow : ((w3.alloc (.cells (ent (gs k)) 91)).alloc o).grownBy w5 (Value.slice ra k rc).ownBlock)
    (hat : (Value.slice ra k rc).ownBlock = some g2 ∨ g2 = w3.heap.size + 2) :
    w5.cell? ⟨L, 0, none⟩ = some (.slice ra k rc) ∧ w5.frozen? ⟨L, 0, none⟩ = false ∧ Ps W L id gs base (k + 1) (some ⟨g, 0, none⟩) c1 (some ⟨g2, 0, none⟩) c3 (xs ++ (ev id k (gs k)).toList) (ys ++ [.pointer (some ⟨w3.heap.size, 0, none⟩)]) (fun i => if i = k then w3.heap.size else Es i) w0 (w5.setCell ⟨L, 0, none⟩ (.slice (some ⟨g2, 0, none⟩) (k + 1) c3)) := by
  have hW := h.hW
  have hL := h.hL
  have hWL := h.hWL
  have hb0 := h.hb0
  have hsz := h.hsz
  have hks := K.size
  have hso : ∀ j, (Value.slice sa k sc).ownBlock = some j → base ≤ j ∧ j < w.heap.size := fun j hj => h.er.lt _ hj
  have hro : ∀ j, (Value.slice ra k rc).ownBlock = some j → base ≤ j ∧ j < w.heap.size := fun j hj => h.lr.lt _ hj
  have hgl := (er'.lt g rfl).2
  have hs2 : ((w3.alloc (.cells (ent (gs k)) 91)).alloc o).heap.size = w3.heap.size + 2 := by simp
  have hgs := grow.size
  rw [hs2] at hgs
  have hold5 : ∀ j, j < w3.heap.size → some j ≠ (Value.slice ra k rc).ownBlock → w5.heap[j]? = w3.heap[j]? := fun j hj hn => by
    rw [grow.block j (by rw [hs2]; omega) hn, Below.heap_alloc _ _ _ (by simp; omega), Below.heap_alloc _ _ _ hj]
  have hnew : w5.heap[w3.heap.size]? = some (.cells (ent (gs k)) 91 (0, 0)) := by
    rw [grow.block w3.heap.size (by rw [hs2]; omega) (fun e => by have := (hro _ e.symm).2; omega), Below.heap_alloc _ _ _ (by simp)]
    exact al_heap_new _ _
  have hLse : some L ≠ (Value.slice sa k sc).ownBlock := fun e => by have := (hso _ e.symm).1; omega
  have hLsr : some L ≠ (Value.slice ra k rc).ownBlock := fun e => by have := (hro _ e.symm).1; omega
  have hWsr : some W ≠ (Value.slice ra k rc).ownBlock := fun e => by have := (hro _ e.symm).1; omega
  have bL3 : w3.heap[L]? = w.heap[L]? := K.block L (by omega) hWL hLse
  have bL5 : w5.heap[L]? = w3.heap[L]? := hold5 L (by omega) hLsr
  have bW5 : w5.heap[W]? = w3.heap[W]? := hold5 W (by omega) hWsr
  have cL : ∀ j, w5.cell? ⟨L, j, none⟩ = w.cell? ⟨L, j, none⟩ := fun j => (World.cell?_of_block (w := w3) bL5).trans (World.cell?_of_block (w := w) bL3)
  have fL5 : ∀ j, w5.frozen? ⟨L, j, none⟩ = false := fun j => (World.frozen?_of_block (w := w3) bL5).trans ((World.frozen?_of_block (w := w) bL3).trans (h.fL j))
  have c0 : w5.cell? ⟨L, 0, none⟩ = some (.slice ra k rc) := (cL 0).trans h.l0
  have so : ∀ {q : Addr} {v : Value}, q ≠ ⟨L, 0, none⟩ → (w5.setCell ⟨L, 0, none⟩ v).cell? q = w5.cell? q := fun hq => by apply World.cell?_setCell_other; exact Ne.symm hq
  have hxl : xs.length = k * 16 := h.er.1
  have hyl : ys.length = k := by have := h.lr.1; omega
  have hne : (Value.slice (some ⟨g, 0, none⟩) (k + 1) c1).ownBlock ≠ (Value.slice ra k rc).ownBlock := fun e => by
    have e1 : (Value.slice ra k rc).ownBlock = some g := by rw [← e]; rfl
    rcases hg with hg | hg
    · exact h.sep g hg e1
    · have := (hro _ e1).2; omega
  have er5 : w5.ownsRow base 61 16 (.slice (some ⟨g, 0, none⟩) (k + 1) c1) (k + 1) (xs ++ (ev id k (gs k)).toList) := ((er'.alloc _).alloc _).kept grow (Or.inr hne)
  refine ⟨c0, fL5 0, ⟨?_, ownsRow_setCell_below er5 (by exact hL) _, ?_, by apply World.cell?_setCell_same; exact c0, ownsRow_setCell_below own2 (by exact hL) _, ?_, ?_, ?_, ?_, ?_, ?_, ?_, hW, hL, hWL, hb0, by simp only [World.size_setCell]; omega, grow.os.trans (K.os.trans h.os), grow.tape.trans (K.tape.trans h.tape), grow.output.trans (K.output.trans h.output), ?_, fun e => (by omega)⟩⟩
  · rw [so (fun e => hWL (by injection e with e1 e2; exact e1.symm)), World.cell?_of_block (w := w3) bW5]
    exact e3'
  · intro i hi j hj
    by_cases e : i = k
    · subst e
      rw [List.getElem?_append_right (by omega), hxl, Nat.add_sub_cancel_left]
      simp
    · rw [List.getElem?_append_left (by omega)]
      exact h.ex i (by omega) j hj
  · intro i hi
    by_cases e : i = k
    · subst e
      simp only [if_true]
      rw [List.getElem?_append_right (by omega), hyl, Nat.sub_self]
      rfl
    · simp only [if_neg e]
      rw [List.getElem?_append_left (by omega)]
      exact h.get i (by omega)
  · intro i hi
    by_cases e : i = k
    · subst e
      simp only [if_true]
      refine ⟨by rw [Below.heap_setCell _ _ _ _ (by simp only; omega)]; exact hnew, by omega, fun e2 => ?_, fun e2 => ?_⟩
      · have e2' : g = w3.heap.size := by simpa [Value.ownBlock] using e2
        omega
      · have e2' : g2 = w3.heap.size := by simpa [Value.ownBlock] using e2
        rcases hat with e3 | e3
        · have := (hro _ e3).2; omega
        · omega
    · simp only [if_neg e]
      obtain ⟨t1, t2, t3, t4⟩ := h.en i (by omega)
      have tl : Es i < w.heap.size := (Array.getElem?_eq_some_iff.1 t1).1
      refine ⟨?_, t2, fun e2 => ?_, fun e2 => ?_⟩
      · rw [Below.heap_setCell _ _ _ _ (by simp only; omega), hold5 _ (by omega) (fun e => t4 e.symm), K.block _ tl (by omega) (fun e => t3 e.symm)]
        exact t1
      · have e2' : g = Es i := by simpa [Value.ownBlock] using e2
        rcases hg with e3 | e3
        · exact t3 (by rw [e3, e2'])
        · omega
      · have e2' : g2 = Es i := by simpa [Value.ownBlock] using e2
        rcases hat with e3 | e3
        · exact t4 (by rw [e3, e2'])
        · omega
  · intro j hj e
    have h1 : g = j := by simpa [Value.ownBlock] using hj
    have h2 : g2 = j := by simpa [Value.ownBlock] using e
    rcases hat with e3 | e3
    · rcases hg with e4 | e4
      · exact h.sep g e4 (by rw [e3, h2, h1])
      · have := (hro _ e3).2; omega
    · omega
  · intro q
    simp only [World.frozen?_setCell]
    exact (World.frozen?_of_block (w := w3) bW5).trans ((K.fz q).trans (h.fW q))
  · intro q
    simp only [World.frozen?_setCell]
    exact fL5 q
  · intro j hj
    rw [so (fun e => hWL (by injection e with e1 e2; exact e1.symm)), World.cell?_of_block (w := w3) bW5, K.cell j hj]
    exact h.othW j hj
  · intro j hj
    rw [so (fun e => hj (by injection e)), cL j]
    exact h.othL j hj
  · intro j hj h1 h2
    rw [Below.heap_setCell _ _ _ _ (by simp only; omega), hold5 j (by omega) (fun e => by have := (hro _ e.symm).1; omega), K.block j (by omega) h1 (fun e => by have := (hso _ e.symm).1; omega)]
    exact h.block j hj h1 h2
end Go.Proofs.Ytebnjfpffdlbbaa
