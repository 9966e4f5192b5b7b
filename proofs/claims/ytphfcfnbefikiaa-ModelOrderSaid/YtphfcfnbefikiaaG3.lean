/- What a slice of values reads as. -/
import Derived.Test.YtphfcfnbefikiaaG2
import Derived.Test.YtphfcfnbefikiaaF4
namespace Go.Proofs.Ytphfcfnbefikiaa
open Go.ChangeShapes Go.WideShapes Go.ChangeAt Go.WideMaps Go.WideElems Go.Deep Go.RowKit
set_option linter.unusedVariables false
set_option linter.unusedSimpArgs false
section
variable {H : Type} {enc : TypeId × Value → H} {w : World} {base : Nat} {spare : Nat → Bool} {held : Bool}
theorem open_us {fuel : Nat} {y0 : Option Addr} {y1 y2 : Nat} {x : DataW H × List MemPlace} (h : DataW.trod enc Try.prog w base spare held fuel 42 (Value.slice y0 y1 y2).cells.toList = some x) :
    ∃ l : List Int, UsIn y0 y1 l w ∧ y1 ≤ 9223372036854775807 := by
  rcases open_slice Try.underlying42 h with ⟨h0, -⟩ | ⟨a, len, cap, m, n, D, Pl, hcs, hb, hl, hm, hmm, hx, hi⟩
  · obtain ⟨rfl, rfl, rfl⟩ := slice_one h0
    exact ⟨[], ⟨rfl, fun i t h => by simp at h⟩, by omega⟩
  · obtain ⟨rfl, rfl, rfl⟩ := slice_one hcs
    have hlm : y1 ≤ m := by rw [hmm]; split <;> omega
    rw [cells38'] at hi
    have hev : ∀ i, i < y1 → ∃ e : Int, w.cell? ((a.add (i * 1)).add 0) = some (.int .u64 e) := by
      intro i hil
      obtain ⟨cs', hc, ht⟩ := hi i (by omega)
      obtain ⟨_, hcl, hat⟩ := World.cells?_some hc
      match cs', hcl with
      | [c0], _ =>
        obtain ⟨e, e0, -, -⟩ := DataW.trod_int Try.underlying38 ht
        refine ⟨e, ?_⟩
        rw [hat 0 (by decide), e0]; rfl
    obtain ⟨G, hG⟩ := choose_lt hev
    refine ⟨(List.range y1).map G, ⟨by simp, fun i t ht => ?_⟩, by unfold maxLen at hm; omega⟩
    have hil : i < y1 := by
      have := (List.getElem?_eq_some_iff.1 ht).1
      simpa using this
    have ht' : G i = t := by
      rw [List.getElem?_map, List.getElem?_range hil] at ht
      simpa using ht
    have h00 := hG 0 (by omega)
    rw [show (a.add (0 * 1)).add 0 = a by simp [Addr.add]] at h00
    have hs := spot_none h00
    have h0 := hG i hil
    rw [add_add, add_spot hs, ht', show i * 1 + 0 = i by omega] at h0
    exact ⟨a.block, a.off, by rw [← hs], h0⟩
end
end Go.Proofs.Ytphfcfnbefikiaa
