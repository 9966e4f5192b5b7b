/- The contracts of audit's small functions that touch no memory of a replay: clamped, Slot, wordName, notBefore, Place, isAccess, follows; in whatever world; the table 'sizes' must read as the program lays it where it is read. -/
import Derived.Test.YtejfcmgnacimgaaDoorRows
import Derived.WalkKit
import Derived.WalkSpells
import Derived.WalkLawsBesides
import Derived.Lib.Hide
import Derived.Deep.RegionWith
import Derived.Deep.QuietTactic
import Derived.BigQuiet
import Derived.WalkSmall
import Derived.Handy
namespace Go.Proofs.YtejfcmgnacimgaaDoor
open Go.RowKit
set_option linter.unusedVariables false
set_option linter.unusedSimpArgs false

theorem ret_int {k : IntKind} {a b : Int} (h : a = b) : Ending.returned (.int k a) = .returned (.int k b) := by rw [h]
theorem ret_bool {a b : Bool} (h : a = b) : Ending.returned (.bool a) = .returned (.bool b) := by rw [h]
theorem keep {w w' : World} {p : Addr} {v : Value} (hb : Below w.heap.size w w') (h : w.cell? p = some v) : w'.cell? p = some v := (hb.cell (World.block_lt_of_cell? _ _ h)).trans h

def facts (T B a b : Int) : Value := .agg #[.int .i64 T, .int .i64 B, .int .i64 a, .int .i64 b]
def clamp (x m : Int) : Int := if x < 0 then 0 else if m < x then m else x

theorem idx2_0 (a b : Int) (w : World) : (Instr.index 22 (.agg #[.int .i64 a, .int .i64 b]) (.int .i64 0)).run Tryd.prog w = .ok (.int .i64 a) w := by kernel_rfl
theorem idx2_1 (a b : Int) (w : World) : (Instr.index 22 (.agg #[.int .i64 a, .int .i64 b]) (.int .i64 1)).run Tryd.prog w = .ok (.int .i64 b) w := by kernel_rfl

/-- The table 'sizes', as the program's text lays it. -/
def Sz (w : World) : Prop := w.cell? ⟨0, 0, none⟩ = some (.int .i64 6) ∧ w.cell? ⟨0, 1, none⟩ = some (.int .i64 10)
theorem Sz.below {w w' : World} (h : Sz w) (hb : Below w.heap.size w w') : Sz w' := ⟨keep hb h.1, keep hb h.2⟩

def nm (k : Int) : Int := if k < 2 then -1 - k else k - 2
theorem wordName_any (k : Int) (h : 0 ≤ k ∧ k ≤ 100) (w : World) : Calls Tryd.prog 18 #[.int .i64 k] w fun e w' => e = .returned (.int .i64 (nm k)) ∧ w = w' := by
  unfold nm
  by_cases h2 : k < 2
  · rw [if_pos h2]
    go_enter Tryd.func18, Tryd.ntmps18
    go_wp2
    go_ret
    exact ⟨rfl, rfl⟩
  · rw [if_neg h2]
    go_enter Tryd.func18, Tryd.ntmps18
    go_wp2
    go_ret
    exact ⟨rfl, rfl⟩

def accB (k : Int) : Bool := decide (1 ≤ k) && decide (k ≤ 4)
theorem isAccess_any (k : Int) (w : World) : Calls Tryd.prog 28 #[.int .i64 k] w fun e w' => e = .returned (.bool (accB k)) ∧ w = w' := by
  go_enter Tryd.func28, Tryd.ntmps28
  go_wp2
  all_goals go_ret
  all_goals refine ⟨ret_bool ?_, rfl⟩
  all_goals (unfold accB; simp [*])
  all_goals omega

def folB (l m : Int) : Bool := decide (m < l) && (wrap64 (l - m) == 1)
theorem follows_any (l m : Int) (w : World) : Calls Tryd.prog 32 #[.int .i64 l, .int .i64 m] w fun e w' => e = .returned (.bool (folB l m)) ∧ w = w' := by
  by_cases h : m < l
  · have hf : folB l m = (wrap64 (l - m) == 1) := by simp [folB, h]
    rw [hf]
    clear hf
    go_enter Tryd.func32, Tryd.ntmps32
    go_wp2
    all_goals go_ret
    all_goals first | exact ⟨rfl, rfl⟩ | skip
  · have hf : folB l m = false := by simp [folB, h]
    rw [hf]
    clear hf
    go_enter Tryd.func32, Tryd.ntmps32
    go_wp2
    all_goals go_ret
    all_goals first | exact ⟨rfl, rfl⟩ | skip

theorem clamp_lo {x m : Int} (h : x < 0) : clamp x m = 0 := by simp [clamp, h]
theorem clamp_hi {x m : Int} (h0 : 0 ≤ x) (h : m < x) : clamp x m = m := by simp [clamp, h]; omega
theorem clamp_in {x m : Int} (h0 : 0 ≤ x) (h : x ≤ m) : clamp x m = x := by unfold clamp; rw [if_neg (by omega), if_neg (by omega)]
theorem clamp_bd {x m : Int} (hm : 0 ≤ m) : 0 ≤ clamp x m ∧ clamp x m ≤ m := by unfold clamp; split <;> (try split) <;> omega

set_option maxHeartbeats 4000000 in
theorem clamped_any (T B a b : Int) (w : World) :
    Calls Tryd.prog 17 #[facts T B a b] w fun e w' => e = .returned (facts (clamp T 16) B (clamp a 4096) (clamp b 4096)) ∧ Below w.heap.size w w' := by
  have i0 := fun w => idx2_0 a b w
  have i1 := fun w => idx2_1 a b w
  have ht : T < 0 ∨ (0 ≤ T ∧ 16 < T) ∨ (0 ≤ T ∧ T ≤ 16) := by omega
  have hx : a < 0 ∨ (0 ≤ a ∧ 4096 < a) ∨ (0 ≤ a ∧ a ≤ 4096) := by omega
  have hy : b < 0 ∨ (0 ≤ b ∧ 4096 < b) ∨ (0 ≤ b ∧ b ≤ 4096) := by omega
  unfold facts
  rcases ht with h | ⟨h0, h⟩ | ⟨h0, h⟩ <;> first | rw [clamp_lo h] | rw [clamp_hi h0 h] | rw [clamp_in h0 h]
  all_goals
    rcases hx with g | ⟨g0, g⟩ | ⟨g0, g⟩ <;> first | rw [clamp_lo g] | rw [clamp_hi g0 g] | rw [clamp_in g0 g]
  all_goals
    rcases hy with f | ⟨f0, f⟩ | ⟨f0, f⟩ <;> first | rw [clamp_lo f] | rw [clamp_hi f0 f] | rw [clamp_in f0 f]
  all_goals
    go_enter Tryd.func17, Tryd.ntmps17
    go_wp2_with fail
    refine wp_loop_rounds 3 ?_
    rw [rounds_succ]
    go_wp2_with fail
    rw [rounds_succ]
    go_wp2_with fail
    rw [rounds_succ]
    go_wp2
    go_returns
    refine ⟨rfl, ?_⟩
    repeat' (first | exact Below.refl _ _ | refine Below.alloc ?_ (by simp [go_sem]; try omega) _ | refine Below.setCell ?_ (by simp [go_sem]; try omega) _)
end Go.Proofs.YtejfcmgnacimgaaDoor
