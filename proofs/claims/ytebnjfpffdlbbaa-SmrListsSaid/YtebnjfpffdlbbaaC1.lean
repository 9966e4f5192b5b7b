/- The contracts of a base's looks: what is missing, its list of a thread, its words. -/
import Derived.Test.YtebnjfpffdlbbaaA4
namespace Go.Proofs.Ytebnjfpffdlbbaa
open Go.RowKit
set_option linter.unusedVariables false
set_option linter.unusedSimpArgs false

abbrev nilP : Value := .pointer none
abbrev P (B : Nat) : Value := .pointer (some ⟨B, 0, none⟩)

theorem missing_nil (w : World) : Calls Try.prog 38 #[.pointer none] w fun e w' => e = .returned (.bool true) ∧ w = w' := by
  go_enter Try.func38, Try.ntmps38
  go_wp2
  go_returns
  exact ⟨rfl, rfl⟩
theorem missing_at {B n c : Nat} {ad : Option Addr} {r : Bool} (w : World) (h : w.cell? ⟨B, 12, none⟩ = some (.slice ad n c)) (hr : ((n : Int) == 0) = r) :
    Calls Try.prog 38 #[.pointer (some ⟨B, 0, none⟩)] w fun e w' => e = .returned (.bool r) ∧ w = w' := by
  go_enter Try.func38, Try.ntmps38
  go_wp2
  go_returns
  exact ⟨rfl, rfl⟩
theorem words_any (n : Int) (w : World) : Calls Try.prog 18 #[.int .i64 n] w fun e w' => e = .returned (.int .i64 (if 1 ≤ n ∧ n ≤ 16 then 14 * n + 15 else 0)) ∧ w = w' := by
  by_cases h0 : n < 1
  · rw [if_neg (by omega)]
    go_enter Try.func18, Try.ntmps18
    go_wp2
    go_returns
    exact ⟨rfl, rfl⟩
  · by_cases h1 : n > 16
    · rw [if_neg (by omega)]
      have h0' : decide (n < 1) = false := by simpa using h0
      have h1' : decide (n > 16) = true := by simpa using h1
      clear h0 h1
      go_enter Try.func18, Try.ntmps18
      go_wp2
      go_returns
      exact ⟨rfl, rfl⟩
    · rw [if_pos (by omega)]
      have h2 : 1 ≤ n := by omega
      have h3 : n ≤ 16 := by omega
      go_enter Try.func18, Try.ntmps18
      go_wp2
      go_returns
      exact ⟨ret_int (by omega), rfl⟩
theorem ledger_nil (t : Int) (w : World) : Calls Try.prog 37 #[.pointer none, .int .i64 t] w fun e w' => e = .returned (.pointer none) ∧ w = w' := by
  go_enter Try.func37, Try.ntmps37
  go_wp2_with fail
  refine (missing_nil _).mono ?_
  rintro e w1 ⟨rfl, rfl⟩
  go_wp2
  go_returns
  exact ⟨rfl, rfl⟩
theorem ledger_zero {B n c : Nat} {ad : Option Addr} (t : Int) (w : World) (h : w.cell? ⟨B, 12, none⟩ = some (.slice ad n c)) (hr : ((n : Int) == 0) = true) : Calls Try.prog 37 #[.pointer (some ⟨B, 0, none⟩), .int .i64 t] w fun e w' => e = .returned (.pointer none) ∧ w = w' := by
  have H := Lib.hid h
  have HR := Lib.hid hr
  clear h hr
  go_enter Try.func37, Try.ntmps37
  go_wp2_with fail
  refine (missing_at _ H.out HR.out).mono ?_
  rintro e w1 ⟨rfl, rfl⟩
  go_wp2
  go_returns
  exact ⟨rfl, rfl⟩
theorem ledger_out {B n c : Nat} {ad : Option Addr} (t : Int) (ht : t < 0 ∨ (n : Int) ≤ t) (w : World) (h : w.cell? ⟨B, 12, none⟩ = some (.slice ad n c)) (hr : ((n : Int) == 0) = false) : Calls Try.prog 37 #[.pointer (some ⟨B, 0, none⟩), .int .i64 t] w fun e w' => e = .returned (.pointer none) ∧ w = w' := by
  have HR := Lib.hid hr
  clear hr
  by_cases h0 : t < 0
  · have H := Lib.hid h
    clear h
    go_enter Try.func37, Try.ntmps37
    go_wp2_with fail
    refine (missing_at _ H.out HR.out).mono ?_
    rintro e w1 ⟨rfl, rfl⟩
    go_wp2
    go_returns
    exact ⟨rfl, rfl⟩
  · have h1 : (n : Int) ≤ t := by omega
    have h0' : decide (t < 0) = false := by simpa using h0
    clear ht h0
    go_enter Try.func37, Try.ntmps37
    go_wp2_with fail
    refine (missing_at _ h HR.out).mono ?_
    rintro e w1 ⟨rfl, rfl⟩
    go_wp2
    go_returns
    exact ⟨rfl, rfl⟩
theorem ledger_at {B n c g L : Nat} (t : Nat) (ht : t < n) (hn : n ≤ 100) (w : World) (h : w.cell? ⟨B, 12, none⟩ = some (.slice (some ⟨g, 0, none⟩) n c)) (hl : w.cell? ⟨g, t, none⟩ = some (.pointer (some ⟨L, 0, none⟩))) :
    Calls Try.prog 37 #[.pointer (some ⟨B, 0, none⟩), .int .i64 (t : Int)] w fun e w' => e = .returned (.pointer (some ⟨L, 0, none⟩)) ∧ w = w' := by
  have h0 : (0 : Int) ≤ (t : Int) := by omega
  have h1 : (t : Int) < (n : Int) := by omega
  have h2 : (n : Int) ≤ 100 := by omega
  have HR := Lib.hid (show ((n : Int) == 0) = false by simp; omega)
  go_enter Try.func37, Try.ntmps37
  go_wp2_with fail
  refine (missing_at _ h HR.out).mono ?_
  rintro e w1 ⟨rfl, rfl⟩
  go_wp2
  go_returns
  exact ⟨rfl, rfl⟩
end Go.Proofs.Ytebnjfpffdlbbaa
