/- A slice of calls has its capacity. -/
import Derived.Test.YtphfcfnbefikiaaG2
namespace Go.Proofs.Ytphfcfnbefikiaa
open Go.ChangeShapes Go.WideShapes Go.ChangeAt Go.WideMaps Go.WideElems Go.Deep Go.RowKit
set_option linter.unusedVariables false
set_option linter.unusedSimpArgs false
theorem cap_calls {H : Type} {enc : TypeId × Value → H} {w : World} {base : Nat} {spare : Nat → Bool} {held : Bool} {fuel : Nat} {y0 : Option Addr} {y1 y2 : Nat} {x : DataW H × List MemPlace} (h : DataW.trod enc Try.prog w base spare held fuel 23 (Value.slice y0 y1 y2).cells.toList = some x) : y1 ≤ y2 := by
  rcases open_slice Try.underlying23 h with ⟨h0, -⟩ | ⟨a, len, cap, m, n, D, Pl, hcs, hb, hl, hm, hmm, hx, hi⟩
  · obtain ⟨rfl, rfl, rfl⟩ := slice_one h0
    exact Nat.le_refl _
  · obtain ⟨rfl, rfl, rfl⟩ := slice_one hcs
    exact hl
end Go.Proofs.Ytphfcfnbefikiaa
