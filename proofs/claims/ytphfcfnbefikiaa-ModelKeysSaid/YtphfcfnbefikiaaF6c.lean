/- The law ModelKeys, for every input. -/
import Derived.Test.YtphfcfnbefikiaaF6
namespace Go.Proofs.Ytphfcfnbefikiaa
open Go.RowKit
set_option linter.unusedVariables false
set_option linter.unusedSimpArgs false
set_option maxHeartbeats 4000000 in
theorem law_keys {n1 cap n2 cap2 : Nat} {ad ad2 : Option Addr} {l : List Th} {q : List Cl} (n o k x : Int) (ho : (Lit.int .i64 o).wf = true) (w : World) (hl : ThsIn ad n1 l w) (hq : CallsIn ad2 n2 q w) :
    Calls Try.prog 6 #[i64 n, .slice ad n1 cap, .slice ad2 n2 cap2, .agg #[.int .i64 o, .int .u64 k, .int .u64 x]] w fun e w' => e = .returned (.bool true) ∧ Below w.heap.size w w' := by
  by_cases hf : n1 ≤ 30 ∧ n2 ≤ 80
  · exact keys_main n o k x ho w hl hq hf
  · have hb : (decide (n1 ≤ 30) && decide (n2 ≤ 80)) = false := by
      rw [Bool.and_eq_false_iff]; simp; omega
    have hb0 : Below w.heap.size w (w.alloc (.cells #[.int .i64 o, .int .u64 k, .int .u64 x] 47)) := by go_grown
    have hcl := urem n 4 (by decide) (by decide)
    generalize hx : (IntKind.u64.wrap n).tmod 4 = r at hcl
    have HB0 := Lib.hid hb0
    clear hf hl hq hb0
    go_enter Try.func6, Try.ntmps6
    go_wp2_with fail
    refine (few_any _).mono ?_
    rintro e w1 ⟨rfl, rfl⟩
    rw [hb]
    go_wp2_with fail
    refine (known_any _).mono ?_
    rintro e w3 ⟨rfl, hb3⟩
    go_wp2
    go_returns
    exact ⟨rfl, HB0.out.trans (hb3.mono HB0.out.size)⟩
end Go.Proofs.Ytphfcfnbefikiaa
