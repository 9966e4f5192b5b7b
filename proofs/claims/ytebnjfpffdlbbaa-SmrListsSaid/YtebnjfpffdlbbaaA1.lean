/- The contracts of Clamp (the program's and the document's), Met, Aged, Index, in whatever world, at any numbers. -/
import Derived.Test.YtebnjfpffdlbbaaRows
import Derived.WalkKit
import Derived.WalkSpells
import Derived.WalkLawsBesides
import Derived.Lib.Hide
import Derived.Lib.MinMax
import Derived.Deep.RegionWith
import Derived.Deep.RegionHeld3
import Derived.Handy
namespace Go.Proofs.Ytebnjfpffdlbbaa
open Go.RowKit
set_option linter.unusedVariables false
set_option linter.unusedSimpArgs false

theorem ret_int {k : IntKind} {a b : Int} (h : a = b) : Ending.returned (.int k a) = .returned (.int k b) := by rw [h]
theorem ret_bool {a b : Bool} (h : a = b) : Ending.returned (.bool a) = .returned (.bool b) := by rw [h]
theorem wrap_small (n : Int) (h0 : -9223372036854775808 ≤ n) (h1 : n < 9223372036854775808) : wrap64 n = n := by unfold wrap64; omega

def cl (n l m : Int) : Int := min (max n l) m

set_option maxHeartbeats 400000 in
theorem clamped_any (n l m : Int) (w : World) :
    Calls Try.prog 32 #[.int .i64 n, .int .i64 l, .int .i64 m] w fun e w' => e = .returned (.int .i64 (cl n l m)) ∧ w = w' := by
  go_enter Try.func32, Try.ntmps32
  go_wp2
  go_ret
  exact ⟨rfl, rfl⟩

set_option maxHeartbeats 400000 in
theorem clampedu_any (n l m : Int) (w : World) :
    Calls Try.prog 33 #[.int .u64 n, .int .u64 l, .int .u64 m] w fun e w' => e = .returned (.int .u64 (cl n l m)) ∧ w = w' := by
  go_enter Try.func33, Try.ntmps33
  go_wp2
  go_ret
  exact ⟨rfl, rfl⟩

set_option maxHeartbeats 400000 in
theorem clampr_any (n l m : Int) (h : l ≤ m) (w : World) :
    Calls Try.prog 34 #[.int .i64 n, .int .i64 l, .int .i64 m] w fun e w' => e = .returned (.int .i64 (cl n l m)) ∧ w = w' := by
  by_cases h0 : n < l
  · have e : cl n l m = l := by unfold cl; omega
    rw [e]
    clear e
    go_enter Try.func34, Try.ntmps34
    go_wp2
    go_ret
    exact ⟨rfl, rfl⟩
  · by_cases h1 : n > m
    · have e : cl n l m = m := by unfold cl; omega
      rw [e]
      clear e
      go_enter Try.func34, Try.ntmps34
      go_wp2
      go_ret
      exact ⟨rfl, rfl⟩
    · have e : cl n l m = n := by unfold cl; omega
      rw [e]
      clear e
      go_enter Try.func34, Try.ntmps34
      go_wp2
      go_ret
      exact ⟨rfl, rfl⟩

/-- A configuration. -/
def cfg (t a b th ca st er : Int) : Value := .agg #[.int .i64 t, .int .i64 a, .int .i64 b, .int .i64 th, .int .i64 ca, .int .i64 st, .int .u64 er]
def cfgC (t a b th ca st er : Int) : Value := cfg (cl t 1 16) (cl a 0 4096) (cl b 0 4096) (cl th 1 256) (cl ca 0 32) (cl st 1 64) (cl er 1 1099511627711)

theorem idx0 (a b : Int) (w : World) : (Instr.index 22 (.agg #[.int .i64 a, .int .i64 b]) (.int .i64 0)).run Try.prog w = .ok (.int .i64 a) w := by kernel_rfl
theorem idx1 (a b : Int) (w : World) : (Instr.index 22 (.agg #[.int .i64 a, .int .i64 b]) (.int .i64 1)).run Try.prog w = .ok (.int .i64 b) w := by kernel_rfl

set_option maxHeartbeats 1000000 in
theorem clamp_ex (t a b th ca st er : Int) (w : World) :
    Calls Try.prog 9 #[cfg t a b th ca st er] w fun e w' => e = .returned (cfgC t a b th ca st er) ∧ ∃ o1 o2, w' = (w.alloc o1).alloc o2 := by
  have i0 := fun w => idx0 a b w
  have i1 := fun w => idx1 a b w
  unfold cfgC cfg
  go_enter Try.func9, Try.ntmps9
  go_wp2_with fail
  refine (clamped_any _ _ _ _).mono ?_
  rintro e w1 ⟨rfl, rfl⟩
  go_wp2_with fail
  refine wp_loop_rounds 3 ?_
  rw [rounds_succ]
  go_wp2_with fail
  refine (clamped_any _ _ _ _).mono ?_
  rintro e w1 ⟨rfl, rfl⟩
  go_wp2_with fail
  rw [rounds_succ]
  go_wp2_with fail
  refine (clamped_any _ _ _ _).mono ?_
  rintro e w1 ⟨rfl, rfl⟩
  go_wp2_with fail
  rw [rounds_succ]
  go_wp2_with fail
  refine (clamped_any _ _ _ _).mono ?_
  rintro e w1 ⟨rfl, rfl⟩
  go_wp2_with fail
  refine (clamped_any _ _ _ _).mono ?_
  rintro e w1 ⟨rfl, rfl⟩
  go_wp2_with fail
  refine (clamped_any _ _ _ _).mono ?_
  rintro e w1 ⟨rfl, rfl⟩
  go_wp2_with fail
  refine (clampedu_any _ _ _ _).mono ?_
  rintro e w1 ⟨rfl, rfl⟩
  go_wp2
  go_returns
  exact ⟨rfl, _, _, rfl⟩

theorem clamp_any (t a b th ca st er : Int) (w : World) :
    Calls Try.prog 9 #[cfg t a b th ca st er] w fun e w' => e = .returned (cfgC t a b th ca st er) ∧ Below w.heap.size w w' :=
  (clamp_ex t a b th ca st er w).mono fun e w' ⟨h, o1, o2, hw⟩ => ⟨h, by rw [hw]; go_grown⟩
end Go.Proofs.Ytebnjfpffdlbbaa
