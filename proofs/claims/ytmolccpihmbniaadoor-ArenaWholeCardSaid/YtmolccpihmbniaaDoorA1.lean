/- The contracts of the arena's own small functions: within, end, mayBe, wordsOf, layBounds, finder and what it makes; in whatever world; the table 'sizes' must read as the program lays it where it is read. -/
import Derived.Test.YtmolccpihmbniaaDoorRows
import Derived.WalkKit
import Derived.WalkSpells
import Derived.WalkLawsBesides
import Derived.Lib.Hide
import Derived.Deep.RegionWith
import Derived.Handy
namespace Go.Proofs.YtmolccpihmbniaaDoor
open Go.RowKit

theorem ret_int {k : IntKind} {a b : Int} (h : a = b) : Ending.returned (.int k a) = .returned (.int k b) := by rw [h]
theorem ret_bool {a b : Bool} (h : a = b) : Ending.returned (.bool a) = .returned (.bool b) := by rw [h]
theorem wrap_small (n : Int) (h0 : -9223372036854775808 ≤ n) (h1 : n < 9223372036854775808) : wrap64 n = n := by unfold wrap64; omega

def inB (n l m : Int) : Bool := decide (l ≤ n) && decide (n ≤ m)
def arr2 (a b : Int) : Value := .agg #[.int .i64 a, .int .i64 b]
def arr3 (a b c : Int) : Value := .agg #[.int .i64 a, .int .i64 b, .int .i64 c]


theorem inB_true {n l m : Int} (h0 : l ≤ n) (h1 : n ≤ m) : inB n l m = true := by simp [inB, h0, h1]
theorem inB_lo {n l m : Int} (h0 : n < l) : inB n l m = false := by simp [inB]; omega
theorem inB_hi {n l m : Int} (h0 : m < n) : inB n l m = false := by simp [inB]; omega
theorem inB_iff {n l m : Int} : inB n l m = true ↔ (l ≤ n ∧ n ≤ m) := by simp [inB]
theorem inB_not {n l m : Int} : inB n l m = false ↔ ¬ (l ≤ n ∧ n ≤ m) := by rw [← inB_iff]; simp

set_option maxHeartbeats 400000 in
theorem within_any (n l m : Int) (w : World) :
    Calls Tryd.prog 33 #[.int .i64 n, .int .i64 l, .int .i64 m] w fun e w' => e = .returned (.bool (inB n l m)) ∧ w = w' := by
  go_enter Tryd.func33, Tryd.ntmps33
  go_wp2
  all_goals go_ret
  all_goals refine ⟨ret_bool ?_, rfl⟩
  all_goals (unfold inB; simp [*])
  all_goals omega

set_option maxHeartbeats 400000 in
theorem end_any (a b c : Int) (w : World) :
    Calls Tryd.prog 43 #[arr3 a b c] w fun e w' => e = .returned (.int .i64 c) ∧ Below w.heap.size w w' := by
  unfold arr3
  go_enter Tryd.func43, Tryd.ntmps43
  go_wp2
  go_ret
  exact ⟨rfl, (Below.refl _ _).alloc (Nat.le_refl _) _⟩

def mayA (a b : Int) : Bool := inB a 0 4096 && inB b 0 4096

theorem idx2_0 (a b : Int) (w : World) : (Instr.index 53 (.agg #[.int .i64 a, .int .i64 b]) (.int .i64 0)).run Tryd.prog w = .ok (.int .i64 a) w := by kernel_rfl
theorem idx2_1 (a b : Int) (w : World) : (Instr.index 53 (.agg #[.int .i64 a, .int .i64 b]) (.int .i64 1)).run Tryd.prog w = .ok (.int .i64 b) w := by kernel_rfl

set_option maxHeartbeats 400000 in
theorem mayBe_any (a b : Int) (w : World) :
    Calls Tryd.prog 40 #[arr2 a b] w fun e w' => e = .returned (.bool (mayA a b)) ∧ Below w.heap.size w w' := by
  have i0 := fun w => idx2_0 a b w
  have i1 := fun w => idx2_1 a b w
  have hb : ∀ o, Below w.heap.size w (w.alloc o) := fun o => (Below.refl _ _).alloc (Nat.le_refl _) _
  unfold arr2 mayA
  cases h0 : inB a 0 4096
  · go_enter Tryd.func40, Tryd.ntmps40
    go_wp2_with fail
    refine wp_loop_rounds 1 ?_
    rw [rounds_succ]
    go_wp2_with fail
    refine (within_any _ _ _ _).mono ?_
    rintro e w' ⟨rfl, rfl⟩
    rw [h0]
    go_wp2
    go_ret
    exact ⟨rfl, hb _⟩
  · cases h1 : inB b 0 4096
    · go_enter Tryd.func40, Tryd.ntmps40
      go_wp2_with fail
      refine wp_loop_rounds 2 ?_
      rw [rounds_succ]
      go_wp2_with fail
      refine (within_any _ _ _ _).mono ?_
      rintro e w' ⟨rfl, rfl⟩
      rw [h0]
      go_wp2
      rw [rounds_succ]
      go_wp2_with fail
      refine (within_any _ _ _ _).mono ?_
      rintro e w' ⟨rfl, rfl⟩
      rw [h1]
      go_wp2
      go_ret
      exact ⟨rfl, hb _⟩
    · go_enter Tryd.func40, Tryd.ntmps40
      go_wp2_with fail
      refine wp_loop_rounds 3 ?_
      rw [rounds_succ]
      go_wp2_with fail
      refine (within_any _ _ _ _).mono ?_
      rintro e w' ⟨rfl, rfl⟩
      rw [h0]
      go_wp2
      rw [rounds_succ]
      go_wp2_with fail
      refine (within_any _ _ _ _).mono ?_
      rintro e w' ⟨rfl, rfl⟩
      rw [h1]
      go_wp2
      rw [rounds_succ]
      go_wp2
      go_ret
      exact ⟨rfl, hb _⟩

/-- The table 'sizes', as the program's text lays it. -/
def Sz (w : World) : Prop := w.cell? ⟨0, 0, none⟩ = some (.int .i64 6) ∧ w.cell? ⟨0, 1, none⟩ = some (.int .i64 10)

theorem Sz.below {w w' : World} (h : Sz w) (hb : Below w.heap.size w w') : Sz w' :=
  ⟨(hb.cell (World.block_lt_of_cell? _ _ h.1)).trans h.1, (hb.cell (World.block_lt_of_cell? _ _ h.2)).trans h.2⟩
theorem Sz.alloc {w : World} (h : Sz w) (o : Obj) : Sz (w.alloc o) := h.below ((Below.refl _ _).alloc (Nat.le_refl _) _)

set_option maxHeartbeats 400000 in
theorem wordsOf_any (a b : Int) (ha : 0 ≤ a) (ha' : a ≤ 4096) (hb : 0 ≤ b) (hb' : b ≤ 4096) (w : World) (hs : Sz w) :
    Calls Tryd.prog 42 #[arr2 a b] w fun e w' => e = .returned (arr2 (6 * a) (10 * b)) ∧ Below w.heap.size w w' := by
  have i0 := fun w => idx2_0 a b w
  have i1 := fun w => idx2_1 a b w
  unfold arr2
  obtain ⟨s0, s1⟩ := hs
  have hz : 0 < w.heap.size := World.block_lt_of_cell? _ _ s0
  go_enter Tryd.func42, Tryd.ntmps42
  go_wp2_with fail
  refine wp_loop_rounds 3 ?_
  rw [rounds_succ]
  go_wp2_with fail
  rw [rounds_succ]
  go_wp2_with fail
  rw [rounds_succ]
  go_wp2
  go_returns
  refine ⟨by rw [Int.mul_comm a, Int.mul_comm b], ?_⟩
  repeat' (first | exact Below.refl _ _ | refine Below.alloc ?_ (by simp [go_sem]; try omega) _ | refine Below.setCell ?_ (by simp [go_sem]; try omega) _)

set_option maxHeartbeats 400000 in
theorem layBounds_any (f a b : Int) (h : 0 ≤ f ∧ f ≤ 1000000) (ha : 0 ≤ a ∧ a ≤ 1000000) (hb : 0 ≤ b ∧ b ≤ 1000000) (w : World) :
    Calls Tryd.prog 41 #[.int .i64 f, arr2 a b] w fun e w' => e = .returned (arr3 f (f + a) (f + a + b)) ∧ Below w.heap.size w w' := by
  have i0 := fun w => idx2_0 a b w
  have i1 := fun w => idx2_1 a b w
  unfold arr2
  go_enter Tryd.func41, Tryd.ntmps41
  go_wp2_with fail
  refine wp_loop_rounds 3 ?_
  rw [rounds_succ]
  go_wp2_with fail
  rw [rounds_succ]
  go_wp2_with fail
  rw [rounds_succ]
  go_wp2
  go_returns
  refine ⟨rfl, ?_⟩
  repeat' (first | exact Below.refl _ _ | refine Below.alloc ?_ (by simp [go_sem]; try omega) _ | refine Below.setCell ?_ (by simp [go_sem]; try omega) _)

end Go.Proofs.YtmolccpihmbniaaDoor
