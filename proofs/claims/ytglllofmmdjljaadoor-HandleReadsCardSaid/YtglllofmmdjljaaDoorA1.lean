/- The contracts of the parts of a handle: what Index, Marks, Tag, May, Pack, With, Clean and Same of package handle, and the same of the reference, answer in whatever world, at any word of 64 bits. -/
import Derived.Test.YtglllofmmdjljaaDoorRows
import Derived.WalkKit
import Derived.WalkSpells
import Derived.WalkLawsBesides
import Derived.Lib.Hide
import Derived.Deep.RegionWith
namespace Go.Proofs.YtglllofmmdjljaaDoor
open Go.RowKit

theorem and22 (h : Int) (h0 : 0 ≤ h) (h1 : h < 18446744073709551616) : bits .and .u64 h 4194303 = h % 4194304 := by
  obtain ⟨n, rfl⟩ := Int.eq_ofNat_of_zero_le h0
  have := u64_and_nat n 4194303 (by omega) (by omega)
  rw [show ((4194303 : Int)) = ((4194303 : Nat) : Int) from rfl, this, show n &&& 4194303 = n % 4194304 from Nat.and_two_pow_sub_one_eq_mod n 22]
  omega
theorem and2 (h : Int) (h0 : 0 ≤ h) (h1 : h < 18446744073709551616) : bits .and .u64 h 3 = h % 4 := by
  obtain ⟨n, rfl⟩ := Int.eq_ofNat_of_zero_le h0
  have := u64_and_nat n 3 (by omega) (by omega)
  rw [show ((3 : Int)) = ((3 : Nat) : Int) from rfl, this, show n &&& 3 = n % 4 from Nat.and_two_pow_sub_one_eq_mod n 2]
  omega
theorem and40 (h : Int) (h0 : 0 ≤ h) (h1 : h < 18446744073709551616) : bits .and .u64 h 1099511627775 = h % 1099511627776 := by
  obtain ⟨n, rfl⟩ := Int.eq_ofNat_of_zero_le h0
  have := u64_and_nat n 1099511627775 (by omega) (by omega)
  rw [show ((1099511627775 : Int)) = ((1099511627775 : Nat) : Int) from rfl, this, show n &&& 1099511627775 = n % 1099511627776 from Nat.and_two_pow_sub_one_eq_mod n 40]
  omega
theorem ret_int {k : IntKind} {a b : Int} (h : a = b) : Ending.returned (.int k a) = .returned (.int k b) := by rw [h]
theorem wrap_small (n : Int) (h0 : 0 ≤ n) (h1 : n < 9223372036854775808) : wrap64 n = n := by unfold wrap64; omega

theorem below2 (w : World) (a b : Obj) : Below w.heap.size w ((w.alloc a).alloc b) := ((Below.refl _ _).alloc (Nat.le_refl _) _).alloc (by simp) _

set_option maxHeartbeats 400000 in
theorem index_any (h : Int) (h0 : 0 ≤ h) (h1 : h < 18446744073709551616) (w : World) :
    Calls Tryd.prog 14 #[.int .u64 h] w fun e w' => e = .returned (.int .i64 (h % 4194304)) ∧ Below w.heap.size w w' := by
  go_enter Tryd.func14, Tryd.ntmps14
  go_wp2
  go_ret
  exact ⟨ret_int (by rw [and22 h h0 h1, wrap_small _ (by omega) (by omega)]), below2 w _ _⟩

set_option maxHeartbeats 400000 in
theorem marks_any (h : Int) (h0 : 0 ≤ h) (h1 : h < 18446744073709551616) (w : World) :
    Calls Tryd.prog 15 #[.int .u64 h] w fun e w' => e = .returned (.int .i64 (h / 4194304 % 4)) ∧ Below w.heap.size w w' := by
  go_enter Tryd.func15, Tryd.ntmps15
  go_wp2
  go_ret
  exact ⟨ret_int (by rw [and2 _ (by omega) (by omega), wrap_small _ (by omega) (by omega)]), below2 w _ _⟩

set_option maxHeartbeats 400000 in
theorem tag_any (h : Int) (h0 : 0 ≤ h) (h1 : h < 18446744073709551616) (w : World) :
    Calls Tryd.prog 16 #[.int .u64 h] w fun e w' => e = .returned (.int .u64 (h / 16777216)) ∧ Below w.heap.size w w' := by
  go_enter Tryd.func16, Tryd.ntmps16
  go_wp2
  go_ret
  exact ⟨ret_int (by rw [and40 _ (by omega) (by omega)]; omega), below2 w _ _⟩

def mayB (i m t : Int) : Bool := decide (0 ≤ i) && decide (i ≤ 4194303) && decide (0 ≤ m) && decide (m ≤ 3) && decide (t ≤ 1099511627775)

theorem ret_bool {a b : Bool} (h : a = b) : Ending.returned (.bool a) = .returned (.bool b) := by rw [h]

set_option maxHeartbeats 400000 in
theorem may_any (i m t : Int) (w : World) :
    Calls Tryd.prog 11 #[.int .i64 i, .int .i64 m, .int .u64 t] w fun e w' => e = .returned (.bool (mayB i m t)) ∧ w = w' := by
  go_enter Tryd.func11, Tryd.ntmps11
  go_wp2
  all_goals go_ret
  all_goals refine ⟨ret_bool ?_, rfl⟩
  all_goals (unfold mayB; simp [*])
  all_goals omega

set_option maxHeartbeats 400000 in
theorem refmay_any (i m t : Int) (w : World) :
    Calls Tryd.prog 10 #[.int .i64 i, .int .i64 m, .int .u64 t] w fun e w' => e = .returned (.bool (mayB i m t)) ∧ w = w' := by
  go_enter Tryd.func10, Tryd.ntmps10
  go_wp2
  all_goals go_ret
  all_goals refine ⟨ret_bool ?_, rfl⟩
  all_goals (unfold mayB; simp [*])
  all_goals first | omega | (rw [Bool.eq_iff_iff]; simp; omega)

theorem or_join (i m t : Int) (h1 : 0 ≤ i) (h2 : i ≤ 4194303) (h3 : 0 ≤ m) (h4 : m ≤ 3) (h5 : 0 ≤ t) (h6 : t ≤ 1099511627775) :
    bits .or .u64 (bits .or .u64 i (m * 4194304)) (t * 16777216) = i + m * 4194304 + t * 16777216 := by
  obtain ⟨a, rfl⟩ := Int.eq_ofNat_of_zero_le h1
  obtain ⟨b, rfl⟩ := Int.eq_ofNat_of_zero_le h3
  obtain ⟨c, rfl⟩ := Int.eq_ofNat_of_zero_le h5
  have g1 : ((b * 4194304 : Nat) : Int) = (b : Int) * 4194304 := by rw [Int.natCast_mul]; rfl
  have g2 : ((c * 16777216 : Nat) : Int) = (c : Int) * 16777216 := by rw [Int.natCast_mul]; rfl
  have g3 : ((a + b * 4194304 : Nat) : Int) = (a : Int) + (b : Int) * 4194304 := by rw [Int.natCast_add, g1]
  have g4 : ((a + b * 4194304 + c * 16777216 : Nat) : Int) = (a : Int) + (b : Int) * 4194304 + (c : Int) * 16777216 := by rw [Int.natCast_add, g3, g2]
  have e1 : a ||| (b * 4194304) = a + b * 4194304 := by
    rw [Nat.or_comm, nat_join 22 (b * 4194304) a (by omega) (by omega)]; omega
  have e2 : (a + b * 4194304) ||| (c * 16777216) = a + b * 4194304 + c * 16777216 := by
    rw [Nat.or_comm, nat_join 24 (c * 16777216) (a + b * 4194304) (by omega) (by omega)]; omega
  have f1 := u64_or_nat a (b * 4194304) (by omega) (by omega)
  have f2 := u64_or_nat (a + b * 4194304) (c * 16777216) (by omega) (by omega)
  rw [e1] at f1
  rw [e2] at f2
  rw [g1, g3] at f1
  rw [g2, g3, g4] at f2
  rw [f1, f2]

set_option maxHeartbeats 400000 in
theorem pack_yes (i m t : Int) (h : mayB i m t = true) (ht : 0 ≤ t) (w : World) :
    Calls Tryd.prog 9 #[.int .i64 i, .int .i64 m, .int .u64 t] w fun e w' => e = .returned (.int .u64 (i + m * 4194304 + t * 16777216)) ∧ w = w' := by
  have hb : 0 ≤ i ∧ i ≤ 4194303 ∧ 0 ≤ m ∧ m ≤ 3 ∧ t ≤ 1099511627775 := by unfold mayB at h; simp at h; omega
  obtain ⟨b1, b2, b3, b4, b5⟩ := hb
  go_enter Tryd.func9, Tryd.ntmps9
  go_wp2_with (go_at_call 11; refine (may_any _ _ _ _).mono ?_; rintro e w' ⟨rfl, rfl⟩)
  go_ret
  exact ⟨ret_int (or_join i m t b1 b2 b3 b4 ht b5), rfl⟩

set_option maxHeartbeats 400000 in
theorem pack_no (i m t : Int) (h : mayB i m t = false) (w : World) :
    Calls Tryd.prog 9 #[.int .i64 i, .int .i64 m, .int .u64 t] w fun e w' => e = .returned (.int .u64 0) ∧ w = w' := by
  go_enter Tryd.func9, Tryd.ntmps9
  go_wp2_with (go_at_call 11; refine (may_any _ _ _ _).mono ?_; rintro e w' ⟨rfl, rfl⟩)
  go_ret
  exact ⟨rfl, rfl⟩

set_option maxHeartbeats 400000 in
theorem refpack_any (i m t : Int) (h : mayB i m t = true) (ht : 0 ≤ t) (w : World) :
    Calls Tryd.prog 13 #[.int .i64 i, .int .i64 m, .int .u64 t] w fun e w' => e = .returned (.int .u64 (i + m * 4194304 + t * 16777216)) ∧ w = w' := by
  have hb : 0 ≤ i ∧ i ≤ 4194303 ∧ 0 ≤ m ∧ m ≤ 3 ∧ t ≤ 1099511627775 := by unfold mayB at h; simp at h; omega
  obtain ⟨b1, b2, b3, b4, b5⟩ := hb
  go_enter Tryd.func13, Tryd.ntmps13
  go_wp2
  go_ret
  exact ⟨rfl, rfl⟩

set_option maxHeartbeats 400000 in
theorem refindex_any (h : Int) (h0 : 0 ≤ h) (h1 : h < 18446744073709551616) (w : World) :
    Calls Tryd.prog 17 #[.int .u64 h] w fun e w' => e = .returned (.int .i64 (h % 4194304)) ∧ w = w' := by
  go_enter Tryd.func17, Tryd.ntmps17
  go_wp2
  go_ret
  exact ⟨rfl, rfl⟩

set_option maxHeartbeats 400000 in
theorem refmarks_any (h : Int) (h0 : 0 ≤ h) (h1 : h < 18446744073709551616) (w : World) :
    Calls Tryd.prog 18 #[.int .u64 h] w fun e w' => e = .returned (.int .i64 (h / 4194304 % 4)) ∧ w = w' := by
  go_enter Tryd.func18, Tryd.ntmps18
  go_wp2
  go_ret
  exact ⟨rfl, rfl⟩

set_option maxHeartbeats 400000 in
theorem reftag_any (h : Int) (h0 : 0 ≤ h) (h1 : h < 18446744073709551616) (w : World) :
    Calls Tryd.prog 19 #[.int .u64 h] w fun e w' => e = .returned (.int .u64 (h / 16777216)) ∧ w = w' := by
  go_enter Tryd.func19, Tryd.ntmps19
  go_wp2
  go_ret
  exact ⟨rfl, rfl⟩

theorem may_marks (h m : Int) (h0 : 0 ≤ h) (h1 : h < 18446744073709551616) (b3 : 0 ≤ m) (b4 : m ≤ 3) : mayB (h % 4194304) m (h / 16777216) = true := by
  unfold mayB; simp; omega
theorem may_marks_no (h m : Int) (hm : m < 0 ∨ 3 < m) : mayB (h % 4194304) m (h / 16777216) = false := by
  unfold mayB; rcases hm with hm | hm
  · have : decide (0 ≤ m) = false := by simp; omega
    simp [this]
  · have : decide (m ≤ 3) = false := by simp; omega
    simp [this]

set_option maxHeartbeats 400000 in
theorem with_yes (h m : Int) (h0 : 0 ≤ h) (h1 : h < 18446744073709551616) (b3 : 0 ≤ m) (b4 : m ≤ 3) (w : World) :
    Calls Tryd.prog 20 #[.int .u64 h, .int .i64 m] w fun e w' => e = .returned (.int .u64 (h % 4194304 + m * 4194304 + h / 16777216 * 16777216)) ∧ Below w.heap.size w w' := by
  have hm := may_marks h m h0 h1 b3 b4
  go_enter Tryd.func20, Tryd.ntmps20
  go_wp2_with (first | (go_at_call 14; refine (index_any _ h0 h1 _).mono ?_; rintro e w1 ⟨rfl, hb1⟩) | (go_at_call 16; refine (tag_any _ h0 h1 _).mono ?_; rintro e w2 ⟨rfl, hb2⟩) | (go_at_call 11; refine (may_any _ _ _ _).mono ?_; rintro e w3 ⟨rfl, rfl⟩) | (go_at_call 9; refine (pack_yes _ _ _ hm (by omega) _).mono ?_; rintro e w3 ⟨rfl, rfl⟩))
  go_ret
  exact ⟨rfl, hb1.trans (hb2.mono hb1.size)⟩

set_option maxHeartbeats 400000 in
theorem with_no (h m : Int) (h0 : 0 ≤ h) (h1 : h < 18446744073709551616) (hm' : m < 0 ∨ 3 < m) (w : World) :
    Calls Tryd.prog 20 #[.int .u64 h, .int .i64 m] w fun e w' => e = .returned (.int .u64 h) ∧ Below w.heap.size w w' := by
  have hm := may_marks_no h m hm'
  clear hm'
  go_enter Tryd.func20, Tryd.ntmps20
  go_wp2_with (first | (go_at_call 14; refine (index_any _ h0 h1 _).mono ?_; rintro e w1 ⟨rfl, hb1⟩) | (go_at_call 16; refine (tag_any _ h0 h1 _).mono ?_; rintro e w2 ⟨rfl, hb2⟩) | (go_at_call 11; refine (may_any _ _ _ _).mono ?_; rintro e w3 ⟨rfl, rfl⟩))
  go_ret
  exact ⟨rfl, hb1.trans (hb2.mono hb1.size)⟩

set_option maxHeartbeats 400000 in
theorem clean_any (h : Int) (h0 : 0 ≤ h) (h1 : h < 18446744073709551616) (w : World) :
    Calls Tryd.prog 21 #[.int .u64 h] w fun e w' => e = .returned (.int .u64 (h % 4194304 + h / 16777216 * 16777216)) ∧ Below w.heap.size w w' := by
  go_enter Tryd.func21, Tryd.ntmps21
  go_wp2_with (go_at_call 20; refine (with_yes _ _ h0 h1 (by omega) (by omega) _).mono ?_; rintro e w1 ⟨rfl, hb1⟩)
  go_ret
  exact ⟨ret_int (by omega), hb1⟩

set_option maxHeartbeats 400000 in
theorem same_any (a b : Int) (h0 : 0 ≤ a) (h1 : a < 18446744073709551616) (g0 : 0 ≤ b) (g1 : b < 18446744073709551616) (w : World) :
    Calls Tryd.prog 22 #[.int .u64 a, .int .u64 b] w fun e w' => e = .returned (.bool (a % 4194304 == b % 4194304)) ∧ Below w.heap.size w w' := by
  go_enter Tryd.func22, Tryd.ntmps22
  go_wp2_with fail
  refine (index_any _ h0 h1 _).mono ?_
  rintro e w1 ⟨rfl, hb1⟩
  go_wp2_with fail
  refine (index_any _ g0 g1 _).mono ?_
  rintro e w2 ⟨rfl, hb2⟩
  go_wp2
  go_ret
  exact ⟨rfl, hb1.trans (hb2.mono hb1.size)⟩
end Go.Proofs.YtglllofmmdjljaaDoor
