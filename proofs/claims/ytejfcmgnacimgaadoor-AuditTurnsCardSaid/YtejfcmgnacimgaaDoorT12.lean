/- AuditTurns answers true for every argument, in whatever world. -/
import Derived.Test.YtejfcmgnacimgaaDoorT11c0
import Derived.Test.YtejfcmgnacimgaaDoorT11c1
namespace Go.Proofs.YtejfcmgnacimgaaDoor
open Go.RowKit
set_option linter.unusedVariables false
set_option linter.unusedSimpArgs false

theorem pick_m (n : Int) (m : Nat) (h0 : 0 < m) (hm : m ≤ 300) : ∃ k : Nat, k < m ∧ (IntKind.u64.wrap n).tmod (m : Int) = k ∧ wrap64 ((IntKind.u64.wrap n).tmod (m : Int)) = k := by
  have h0 : 0 ≤ IntKind.u64.wrap n := by
    have : IntKind.u64.wrap n = n % 18446744073709551616 := rfl
    rw [this]; omega
  have h1 : 0 ≤ (IntKind.u64.wrap n).tmod (m : Int) := Int.tmod_nonneg _ h0
  have h2 : (IntKind.u64.wrap n).tmod (m : Int) < (m : Int) := Int.tmod_lt_of_pos _ (by omega)
  refine ⟨((IntKind.u64.wrap n).tmod (m : Int)).toNat, by omega, by omega, ?_⟩
  rw [Int.toNat_of_nonneg h1]
  unfold wrap64
  omega

theorem law_turns (turn thread cla gua : Int) (w : World) (hz : Sz w) :
    Calls Tryd.prog 5 #[.int .i64 turn, .int .i64 thread, .int .i64 cla, .int .i64 gua] w fun x w' => x = .returned (.bool true) ∧ Below w.heap.size w w' := by
  obtain ⟨k, hk, h1, -⟩ := pick_m turn 10 (by decide) (by decide)
  obtain ⟨t, ht, -, h2⟩ := pick_m thread 2 (by decide) (by decide)
  obtain ⟨c, hc, -, h3⟩ := pick_m cla 2 (by decide) (by decide)
  obtain ⟨g, hg, -, h4⟩ := pick_m gua 12 (by decide) (by decide)
  have hcc : c = 0 ∨ c = 1 := by omega
  rcases hcc with rfl | rfl
  · exact turns_0 turn thread cla gua k t g hk ht hg h1 h2 h3 h4 w hz
  · exact turns_1 turn thread cla gua k t g hk ht hg h1 h2 h3 h4 w hz
end Go.Proofs.YtejfcmgnacimgaaDoor
