/- vmem's As, alone: the name is changed, and the old one told. -/
import Derived.Test.YtebnjfpffdlbbaaV3
namespace Go.Proofs.Ytebnjfpffdlbbaa
open Go.RowKit
set_option linter.unusedVariables false
set_option linter.unusedSimpArgs false

/-- Not missing: a thread with a world. -/
theorem tmissing_l {w : World} {T W : Nat} (h : w.cell? ⟨T, 0, none⟩ = some (.pointer (some ⟨W, 0, none⟩))) :
    Calls Try.prog 50 #[.pointer (some ⟨T, 0, none⟩)] w fun e w' => e = .returned (.bool false) ∧ w' = w := by
  go_enter Try.func50, Try.ntmps50
  go_wp2
  go_returns
  exact ⟨rfl, rfl⟩
end Go.Proofs.Ytebnjfpffdlbbaa
