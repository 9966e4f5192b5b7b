/- The contracts of the document's Clamp, of Met and Aged (both), in whatever world, at any numbers. -/
import Derived.Test.YtebnjfpffdlbbaaA1
import Derived.Deep.QuietTactic
import Derived.BigQuiet
import Derived.WalkSmall
import Derived.StillTailTactics
namespace Go.Proofs.Ytebnjfpffdlbbaa
open Go.RowKit
set_option linter.unusedVariables false
set_option linter.unusedSimpArgs false

/-- A slot that was retired. -/
def old (h b s : Int) : Value := .agg #[.int .u64 h, .int .u64 b, .int .u64 s]
def metB (b s lo hi : Int) : Bool := decide (lo ≤ s) && decide (b ≤ hi)
def agedB (s e : Int) : Bool := decide (s + 2 ≤ e)

set_option maxHeartbeats 400000 in
theorem met_any (h b s lo hi : Int) (w : World) :
    Calls Try.prog 12 #[old h b s, .int .u64 lo, .int .u64 hi] w fun e w' => e = .returned (.bool (metB b s lo hi)) ∧ Below w.heap.size w w' := by
  unfold old
  go_enter Try.func12, Try.ntmps12
  go_wp2
  all_goals go_ret
  all_goals refine ⟨ret_bool ?_, by go_grown⟩
  all_goals (unfold metB; rw [Bool.eq_iff_iff]; simp; try omega)

set_option maxHeartbeats 400000 in
theorem metr_any (h b s lo hi : Int) (w : World) :
    Calls Try.prog 13 #[old h b s, .int .u64 lo, .int .u64 hi] w fun e w' => e = .returned (.bool (metB b s lo hi)) ∧ Below w.heap.size w w' := by
  unfold old
  go_enter Try.func13, Try.ntmps13
  go_wp2
  all_goals go_ret
  all_goals refine ⟨ret_bool ?_, by go_grown⟩
  all_goals (unfold metB; rw [Bool.eq_iff_iff]; simp; try omega)

set_option maxHeartbeats 400000 in
theorem aged_any (h b s e : Int) (hs : 0 ≤ s ∧ s < 18446744073709551616) (he : 0 ≤ e ∧ e < 18446744073709551616) (w : World) :
    Calls Try.prog 14 #[old h b s, .int .u64 e] w fun r w' => r = .returned (.bool (agedB s e)) ∧ Below w.heap.size w w' := by
  unfold old
  by_cases h2 : 2 ≤ e
  · go_enter Try.func14, Try.ntmps14
    go_wp2
    all_goals go_ret
    all_goals refine ⟨ret_bool ?_, by go_grown⟩
    all_goals (unfold agedB; rw [Bool.eq_iff_iff]; simp; try omega)
  · have : agedB s e = false := by unfold agedB; simp; omega
    rw [this]
    clear this
    go_enter Try.func14, Try.ntmps14
    go_wp2
    all_goals go_ret
    all_goals refine ⟨ret_bool ?_, by go_grown⟩
    all_goals rfl

set_option maxHeartbeats 400000 in
theorem agedr_any (h b s e : Int) (hs : 0 ≤ s ∧ s < 18446744073709551616) (he : 0 ≤ e ∧ e < 18446744073709551616) (w : World) :
    Calls Try.prog 15 #[old h b s, .int .u64 e] w fun r w' => r = .returned (.bool (agedB s e)) ∧ Below w.heap.size w w' := by
  unfold old
  by_cases h2 : e < s
  · have : agedB s e = false := by unfold agedB; simp; omega
    rw [this]
    clear this
    go_enter Try.func15, Try.ntmps15
    go_wp2
    go_ret
    exact ⟨rfl, by go_grown⟩
  · go_enter Try.func15, Try.ntmps15
    go_wp2
    go_ret
    refine ⟨ret_bool ?_, by go_grown⟩
    unfold agedB; rw [Bool.eq_iff_iff]; simp; try omega

theorem and22 (h : Int) (h0 : 0 ≤ h) (h1 : h < 18446744073709551616) : bits .and .u64 h 4194303 = h % 4194304 := by
  obtain ⟨n, rfl⟩ := Int.eq_ofNat_of_zero_le h0
  have := u64_and_nat n 4194303 (by omega) (by omega)
  rw [show ((4194303 : Int)) = ((4194303 : Nat) : Int) from rfl, this, show n &&& 4194303 = n % 4194304 from Nat.and_two_pow_sub_one_eq_mod n 22]
  omega

set_option maxHeartbeats 400000 in
theorem index_any (h : Int) (h0 : 0 ≤ h) (h1 : h < 18446744073709551616) (w : World) :
    Calls Try.prog 35 #[.int .u64 h] w fun e w' => e = .returned (.int .i64 (h % 4194304)) ∧ Below w.heap.size w w' := by
  go_enter Try.func35, Try.ntmps35
  go_wp2
  go_ret
  exact ⟨ret_int (by rw [and22 h h0 h1, wrap_small _ (by omega) (by omega)]), by go_grown⟩

set_option maxHeartbeats 1000000 in
theorem clampr_ex (t a b th ca st er : Int) (w : World) :
    Calls Try.prog 10 #[cfg t a b th ca st er] w fun e w' => e = .returned (cfgC t a b th ca st er) ∧ ∃ o1 o2 o3, w' = (((w.alloc o1).alloc o2).alloc o3).drew := by
  unfold cfgC cfg
  go_enter Try.func10, Try.ntmps10
  go_wp2_with fail
  go_region_held3 (fun w' => w'.cell? ⟨w.heap.size, 0, none⟩ = some (.int .i64 t) ∧ w'.cell? ⟨w.heap.size, 3, none⟩ = some (.int .i64 th) ∧ w'.cell? ⟨w.heap.size, 4, none⟩ = some (.int .i64 ca) ∧ w'.cell? ⟨w.heap.size, 5, none⟩ = some (.int .i64 st) ∧ w'.cell? ⟨w.heap.size, 6, none⟩ = some (.int .u64 er))
    (refine ⟨?_, ?_, ?_, ?_, ?_⟩ <;> simp [go_sem])
    (first
    | (go_at_call 34; refine (clampr_any _ _ _ (by decide) _).mono ?_; rintro e w4 ⟨rfl, rfl⟩))
  all_goals
    go_wp2_with fail
    refine wp_loop_rounds 3 ?_
    rw [rounds_succ]
    go_wp2_with fail
    refine (clampr_any _ _ _ (by decide) _).mono ?_
    rintro e w1 ⟨rfl, rfl⟩
    go_wp2_with fail
    rw [rounds_succ]
    go_wp2_with fail
    refine (clampr_any _ _ _ (by decide) _).mono ?_
    rintro e w1 ⟨rfl, rfl⟩
    go_wp2_with fail
    rw [rounds_succ]
    by_cases h0 : er < 1
    · have e0 := Lib.hid (show cl er 1 1099511627711 = 1 by unfold cl; omega)
      go_wp2
      go_returns
      exact ⟨by rw [e0.out], _, _, _, rfl⟩
    · by_cases h1 : er > 1099511627711
      · have e0 := Lib.hid (show cl er 1 1099511627711 = 1099511627711 by unfold cl; omega)
        go_wp2
        go_returns
        exact ⟨by rw [e0.out], _, _, _, rfl⟩
      · have e0 := Lib.hid (show cl er 1 1099511627711 = er by unfold cl; omega)
        go_wp2
        go_returns
        exact ⟨by rw [e0.out], _, _, _, rfl⟩
end Go.Proofs.Ytebnjfpffdlbbaa
