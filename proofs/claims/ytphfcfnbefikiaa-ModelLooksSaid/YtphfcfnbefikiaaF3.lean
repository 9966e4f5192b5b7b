/- The law ModelPlays: the walk. -/
import Derived.Test.YtphfcfnbefikiaaF2
namespace Go.Proofs.Ytphfcfnbefikiaa
open Go.RowKit
set_option linter.unusedVariables false
set_option linter.unusedSimpArgs false

theorem urem (n : Int) (m : Int) (h : 0 < m) (hm : m ≤ 100) : 0 ≤ (IntKind.u64.wrap n).tmod m ∧ (IntKind.u64.wrap n).tmod m < m := by
  have h0 : 0 ≤ IntKind.u64.wrap n := by
    have : IntKind.u64.wrap n = n % 18446744073709551616 := rfl
    omega
  exact ⟨Int.tmod_nonneg _ h0, Int.tmod_lt_of_pos _ h⟩

theorem client_of (n : Int) (w : World) : Calls Try.prog 12 #[i64 n] w fun e w' => (∃ c, 1 ≤ c ∧ c ≤ 6 ∧ e = .returned (i64 c)) ∧ w = w' := by
  have h := urem n 6 (by decide) (by decide)
  generalize hx : (IntKind.u64.wrap n).tmod 6 = x at h
  go_enter Try.func12, Try.ntmps12
  go_wp2
  go_returns
  exact ⟨⟨1 + x, by omega, by omega, rfl⟩, rfl⟩

set_option maxHeartbeats 4000000 in
theorem law_plays {n1 cap n2 cap2 : Nat} {ad ad2 : Option Addr} {l : List Th} {q : List Cl} (n : Int) (w : World) (hl : ThsIn ad n1 l w) (hq : CallsIn ad2 n2 q w) :
    Calls Try.prog 3 #[i64 n, .slice ad n1 cap, .slice ad2 n2 cap2] w fun e w' => e = .returned (.bool true) ∧ Below w.heap.size w w' := by
  have BH := Lib.hid (fun (c : Int) h1 h2 (h3 : n1 ≤ 30 ∧ n2 ≤ 80) => behind_any (cap := cap) (cap2 := cap2) c h1 h2 (by omega) (by omega) w hl hq)
  clear hl hq
  go_enter Try.func3, Try.ntmps3
  go_wp2_with fail
  refine (few_any _).mono ?_
  rintro e w1 ⟨rfl, rfl⟩
  by_cases hf : n1 ≤ 30 ∧ n2 ≤ 80
  · have hb : (decide (n1 ≤ 30) && decide (n2 ≤ 80)) = true := by simp [hf]
    rw [hb]
    go_wp2_with fail
    refine (client_of _ _).mono ?_
    rintro e w1 ⟨⟨c, h1, h2, rfl⟩, rfl⟩
    go_wp2_with fail
    refine (BH.out c h1 h2 hf).mono ?_
    rintro e w2 ⟨X, Y, rfl, hT⟩
    have HB := Lib.hid hT.below
    clear hT BH hf hb
    go_wp2_with fail
    refine (known_any _).mono ?_
    rintro e w3 ⟨rfl, hb3⟩
    go_wp2
    go_returns
    exact ⟨rfl, HB.out.trans (hb3.mono HB.out.size)⟩
  · have hb : (decide (n1 ≤ 30) && decide (n2 ≤ 80)) = false := by
      rw [Bool.and_eq_false_iff]; simp; omega
    rw [hb]
    clear BH hf hb
    go_wp2_with fail
    refine (known_any _).mono ?_
    rintro e w3 ⟨rfl, hb3⟩
    go_wp2
    go_returns
    exact ⟨rfl, hb3⟩
end Go.Proofs.Ytphfcfnbefikiaa
