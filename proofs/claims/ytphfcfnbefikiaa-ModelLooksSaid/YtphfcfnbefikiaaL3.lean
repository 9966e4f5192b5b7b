/- The law ModelLooks, for every input. -/
import Derived.Test.YtphfcfnbefikiaaL2
namespace Go.Proofs.Ytphfcfnbefikiaa
open Go.RowKit
set_option linter.unusedVariables false
set_option linter.unusedSimpArgs false
set_option maxRecDepth 100000 in
set_option maxHeartbeats 4000000 in
theorem law_looks {n1 cap n2 cap2 : Nat} {ad ad2 : Option Addr} {l : List Th} {q : List Cl} (n f2 : Int) (w : World) (hl : ThsIn ad n1 l w) (hq : CallsIn ad2 n2 q w) (hcap : n2 ≤ cap2) :
    Calls Try.prog 7 #[i64 n, .slice ad n1 cap, .slice ad2 n2 cap2, i64 f2] w fun e w' => e = .returned (.bool true) ∧ Below w.heap.size w w' := by
  by_cases hf : n1 ≤ 30 ∧ n2 ≤ 80
  · exact looks_main n f2 w hl hq hcap hf
  · refine (callsIn_wide (n := 6)).1 ?_
    have f9 : Fence.wide.fn 9 := trivial
    have f10 : Fence.wide.fn 10 := trivial
    have hb : (decide (n1 ≤ 30) && decide (n2 ≤ 80)) = false := by
      rw [Bool.and_eq_false_iff]; simp; omega
    have hb0 : Below w.heap.size w (w.alloc (.cells #[.int .i64 f2] 3)) := by go_grown
    have HB0 := Lib.hid hb0
    clear hf hl hq hb0
    refine callsIn_of_wp_marks Try.func7 rfl trivial ?_ rfl
    simp only [Try.ntmps7, List.size_toArray, List.length_cons, List.length_nil, Nat.reduceAdd, Nat.reduceSub, Array.replicate_succ, Array.replicate_zero, List.push_toArray, List.append_toArray, List.nil_append, List.cons_append]
    gi_wp2_with (gi_at_call 9; refine (callsIn_wide.2 (few_any _)).mono ?_; rintro e w1 ⟨rfl, rfl⟩; rw [hb])
    refine (callsIn_wide.2 (known_any _)).mono ?_
    rintro e w3 ⟨rfl, hb3⟩
    gi_wp2
    refine ⟨_, results_tmp rfl _ _ _, rfl, HB0.out.trans (hb3.mono HB0.out.size)⟩
end Go.Proofs.Ytphfcfnbefikiaa
