/- A loop over an object's things that counts, and may be left. -/
import Derived.Test.YtphfcfnbefikiaaL1b
namespace Go.Proofs.Ytphfcfnbefikiaa
open Go.RowKit Go.Shelf
set_option linter.unusedVariables false
set_option linter.unusedSimpArgs false

/-- What a loop that counts knows between two rounds. -/
def IC (n0 Bb Bx : Nat) (o : Go.Obj) (w : World) (_ : List Th) (W : World) : Prop := (∃ z, W.heap[Bb]? = some (.cells #[.int .i64 z] 3 (0, 0))) ∧ W.heap[Bx]? = some o ∧ Below n0 w W
theorem ic_own {n0 Bb Bx B : Nat} {o : Go.Obj} {w : World} (ho : o.isCells = true) (hB : n0 ≤ B) (hn : n0 ≤ w.heap.size) : OwnFrom B (IC n0 Bb Bx o w) := fun pre W W' row h hg hr => by
  obtain ⟨⟨z, h1⟩, h2, h3⟩ := h
  have keepc : ∀ (b : Nat) (o : Go.Obj), W.heap[b]? = some o → o.isCells = true → W'.heap[b]? = some o := fun b o hb hc => by
    rw [hg.block b (Array.getElem?_eq_some_iff.1 hb).1 (fun e => by
      obtain ⟨_, o', ho', hc'⟩ := hr b e.symm
      rw [hb] at ho'; obtain rfl := Option.some.inj ho'; rw [hc] at hc'; cases hc')]
    exact hb
  exact ⟨⟨z, keepc _ _ h1 rfl⟩, keepc _ _ h2 ho, h3.grown hg (Nat.le_trans hn h3.size) (fun k e => Nat.le_trans hB (hr k e).1)⟩
theorem kb_refl (Bb : Nat) (W : World) : Kb Bb W W := ⟨Nat.le_refl _, fun hs => ⟨hs, fun k o hk _ _ _ => hk, fun k hk => .inl hk⟩⟩
theorem ic_set {n0 Bb Bx : Nat} {o : Go.Obj} {w W : World} {pre pre' : List Th} (h : IC n0 Bb Bx o w pre W) (hb : n0 ≤ Bb) (hne : Bx ≠ Bb) (z : Int) :
    Kb Bb W (W.setCell ⟨Bb, 0, none⟩ (.int .i64 z)) ∧ IC n0 Bb Bx o w pre' (W.setCell ⟨Bb, 0, none⟩ (.int .i64 z)) := by
  obtain ⟨⟨z0, h1⟩, h2, h3⟩ := h
  have hs : (W.setCell ⟨Bb, 0, none⟩ (.int .i64 z)).heap[Bb]? = some (.cells #[.int .i64 z] 3 (0, 0)) := by simp [World.setCell, Array.getElem?_modify, h1]
  have hc : (W.setCell ⟨Bb, 0, none⟩ (.int .i64 z)).cell? ⟨Bb, 0, none⟩ = some (.int .i64 z) := by simp [World.cell?, hs]
  have hk : ∀ k, k ≠ Bb → (W.setCell ⟨Bb, 0, none⟩ (.int .i64 z)).heap[k]? = W.heap[k]? := fun k hk => Below.heap_setCell _ _ _ _ hk
  refine ⟨⟨by simp, fun _ => ⟨by rw [hc]; rfl, fun k x hx _ hn _ => (hk k hn).trans hx, fun k ⟨u, u1, u2⟩ => ?_⟩⟩, ⟨z, hs⟩, (hk Bx hne).trans h2, h3.setCell (p := ⟨Bb, 0, none⟩) hb _⟩
  rw [hc] at u1
  obtain rfl := Option.some.inj u1
  cases u2
end Go.Proofs.Ytphfcfnbefikiaa
