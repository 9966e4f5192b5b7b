/- The laws HandleSame, HandleWith, HandleParts and HandlePacks answer true in whatever world, at any words; the tables must read as the program lays them. -/
import Derived.Test.YtglllofmmdjljaaDoorB4
namespace Go.Proofs.YtglllofmmdjljaaDoor
open Go.RowKit Go.Sort Go.Lib

theorem same_is (a b : Int) (r : Bool) (h0 : 0 ≤ a) (h1 : a < 18446744073709551616) (g0 : 0 ≤ b) (g1 : b < 18446744073709551616) (hr : (a % 4194304 == b % 4194304) = r) (w : World) :
    Calls Tryd.prog 22 #[.int .u64 a, .int .u64 b] w fun e w' => e = .returned (.bool r) ∧ Below w.heap.size w w' := by
  subst hr; exact same_any a b h0 h1 g0 g1 w

theorem with_is (h m : Int) (h0 : 0 ≤ h) (h1 : h < 18446744073709551616) (w : World) :
    Calls Tryd.prog 20 #[.int .u64 h, .int .i64 m] w fun e w' => (∃ x : Int, 0 ≤ x ∧ x < 18446744073709551616 ∧ (h % 4194304 == x % 4194304) = true ∧ e = .returned (.int .u64 x)) ∧ Below w.heap.size w w' := by
  by_cases hm : 0 ≤ m ∧ m ≤ 3
  · refine (with_yes h m h0 h1 hm.1 hm.2 w).mono ?_
    rintro e w' ⟨rfl, hb⟩
    exact ⟨⟨_, by omega, by omega, by rw [beq_iff_eq]; omega, rfl⟩, hb⟩
  · refine (with_no h m h0 h1 (by omega) w).mono ?_
    rintro e w' ⟨rfl, hb⟩
    exact ⟨⟨h, h0, h1, by simp, rfl⟩, hb⟩

theorem clean_is (h : Int) (h0 : 0 ≤ h) (h1 : h < 18446744073709551616) (w : World) :
    Calls Tryd.prog 21 #[.int .u64 h] w fun e w' => (∃ x : Int, 0 ≤ x ∧ x < 18446744073709551616 ∧ (h % 4194304 == x % 4194304) = true ∧ e = .returned (.int .u64 x)) ∧ Below w.heap.size w w' := by
  refine (clean_any h h0 h1 w).mono ?_
  rintro e w' ⟨rfl, hb⟩
  exact ⟨⟨_, by omega, by omega, by rw [beq_iff_eq]; omega, rfl⟩, hb⟩

set_option maxHeartbeats 1000000 in
set_option maxRecDepth 100000 in
theorem law_same_aux (a b m : Int) (r : Bool) (h0 : 0 ≤ a) (h1 : a < 18446744073709551616) (g0 : 0 ≤ b) (g1 : b < 18446744073709551616) (hr : (a % 4194304 == b % 4194304) = r) (hr' : (b % 4194304 == a % 4194304) = r) (w : World) (hL : Laid w) :
    Calls Tryd.prog 6 #[.int .u64 a, .int .u64 b, .int .i64 m] w fun e w' => e = .returned (.bool true) ∧ Below w.heap.size w w' := by
  have HR' := Lib.hid hr'
  have HR := Lib.hid hr
  clear hr'
  cases r
  all_goals
    go_enter Tryd.func6, Tryd.ntmps6
    go_wp2_with fail
    refine (refindex_any _ h0 h1 _).mono ?_
    rintro e w1 ⟨rfl, rfl⟩
    go_wp2_with fail
    refine (refindex_any _ g0 g1 _).mono ?_
    rintro e w1 ⟨rfl, rfl⟩
    go_wp2_with fail
    refine (same_is _ _ _ h0 h1 g0 g1 HR.out _).mono ?_
    rintro e w1 ⟨rfl, hb1⟩
    go_wp2_with fail
    refine (same_is _ _ _ g0 g1 h0 h1 HR'.out _).mono ?_
    rintro e w2 ⟨rfl, hb2⟩
    go_wp2_with fail
    refine (with_is _ _ h0 h1 _).mono ?_
    rintro e w3 ⟨⟨x, x0, x1, hx, rfl⟩, hb3⟩
    have HX := Lib.hid hx
    clear hx
    go_wp2_with fail
    refine (same_is _ _ _ h0 h1 x0 x1 HX.out _).mono ?_
    rintro e w4 ⟨rfl, hb4⟩
    go_wp2_with fail
    refine (clean_is _ h0 h1 _).mono ?_
    rintro e w5 ⟨⟨y, y0, y1, hy, rfl⟩, hb5⟩
    have HY := Lib.hid hy
    clear hy
    go_wp2_with fail
    refine (same_is _ _ _ h0 h1 y0 y1 HY.out _).mono ?_
    rintro e w6 ⟨rfl, hb6⟩
    have hb06 := bt (bt (bt (bt (bt hb1 hb2) hb3) hb4) hb5) hb6
    have hL6 := hL.next hb06
    go_wp2_with fail
    refine (known_any _ hL6).mono ?_
    rintro e w7 ⟨rfl, hb7⟩
    go_wp2
    go_ret
    exact ⟨rfl, bt hb06 hb7⟩

theorem law_same (a b m : Int) (h0 : 0 ≤ a) (h1 : a < 18446744073709551616) (g0 : 0 ≤ b) (g1 : b < 18446744073709551616) (w : World) (hL : Laid w) :
    Calls Tryd.prog 6 #[.int .u64 a, .int .u64 b, .int .i64 m] w fun e w' => e = .returned (.bool true) ∧ Below w.heap.size w w' :=
  law_same_aux a b m _ h0 h1 g0 g1 rfl (by rw [Bool.eq_iff_iff, beq_iff_eq, beq_iff_eq]; exact eq_comm) w hL

set_option maxHeartbeats 1000000 in
set_option maxRecDepth 100000 in
theorem law_with_yes (h m : Int) (h0 : 0 ≤ h) (h1 : h < 18446744073709551616) (b3 : 0 ≤ m) (b4 : m ≤ 3) (w : World) (hL : Laid w) :
    Calls Tryd.prog 5 #[.int .u64 h, .int .i64 m] w fun e w' => e = .returned (.bool true) ∧ Below w.heap.size w w' := by
  have hm := Lib.hid (may_marks h m h0 h1 b3 b4)
  have hm0 := Lib.hid (may_marks h 0 h0 h1 (by omega) (by omega))
  have x0 : 0 ≤ h % 4194304 + m * 4194304 + h / 16777216 * 16777216 := by omega
  have x1 : h % 4194304 + m * 4194304 + h / 16777216 * 16777216 < 18446744073709551616 := by omega
  have e1 : (h % 4194304 + h / 16777216 * 16777216 == h % 4194304 + 0 * 4194304 + h / 16777216 * 16777216) = true := by rw [beq_iff_eq]; omega
  have e2 : ((h % 4194304 + m * 4194304 + h / 16777216 * 16777216) % 4194304 + (h % 4194304 + m * 4194304 + h / 16777216 * 16777216) / 16777216 * 16777216 == h % 4194304 + h / 16777216 * 16777216) = true := by rw [beq_iff_eq]; omega
  go_enter Tryd.func5, Tryd.ntmps5
  go_wp2_with fail
  refine (with_yes _ _ h0 h1 b3 b4 _).mono ?_
  rintro e w1 ⟨rfl, hb1⟩
  go_wp2_with fail
  refine (clean_any _ h0 h1 _).mono ?_
  rintro e w2 ⟨rfl, hb2⟩
  go_wp2_with fail
  refine (refindex_any _ h0 h1 _).mono ?_
  rintro e w3 ⟨rfl, rfl⟩
  go_wp2_with fail
  refine (reftag_any _ h0 h1 _).mono ?_
  rintro e w3 ⟨rfl, rfl⟩
  go_wp2_with fail
  refine (refpack_any _ _ _ hm.out (by omega) _).mono ?_
  rintro e w3 ⟨rfl, rfl⟩
  go_wp2_with fail
  refine (refindex_any _ h0 h1 _).mono ?_
  rintro e w3 ⟨rfl, rfl⟩
  go_wp2_with fail
  refine (reftag_any _ h0 h1 _).mono ?_
  rintro e w3 ⟨rfl, rfl⟩
  go_wp2_with fail
  refine (refpack_any _ _ _ hm0.out (by omega) _).mono ?_
  rintro e w3 ⟨rfl, rfl⟩
  go_wp2_with fail
  refine (clean_any _ x0 x1 _).mono ?_
  rintro e w3 ⟨rfl, hb3⟩
  have hb03 := bt (bt hb1 hb2) hb3
  have hL3 := hL.next hb03
  go_wp2_with fail
  refine (known_any _ hL3).mono ?_
  rintro e w4 ⟨rfl, hb4⟩
  go_wp2
  go_ret
  exact ⟨rfl, bt hb03 hb4⟩

set_option maxHeartbeats 1000000 in
set_option maxRecDepth 100000 in
theorem law_with_no (h m : Int) (h0 : 0 ≤ h) (h1 : h < 18446744073709551616) (hmm : m < 0 ∨ 3 < m) (w : World) (hL : Laid w) :
    Calls Tryd.prog 5 #[.int .u64 h, .int .i64 m] w fun e w' => e = .returned (.bool true) ∧ Below w.heap.size w w' := by
  have hm0 := Lib.hid (may_marks h 0 h0 h1 (by omega) (by omega))
  have e1 : (h % 4194304 + h / 16777216 * 16777216 == h % 4194304 + 0 * 4194304 + h / 16777216 * 16777216) = true := by rw [beq_iff_eq]; omega
  have HMM := Lib.hid hmm
  rcases hmm with b3 | b4
  all_goals
    go_enter Tryd.func5, Tryd.ntmps5
    go_wp2_with fail
    refine (with_no _ _ h0 h1 HMM.out _).mono ?_
    rintro e w1 ⟨rfl, hb1⟩
    go_wp2_with fail
    refine (clean_any _ h0 h1 _).mono ?_
    rintro e w2 ⟨rfl, hb2⟩
    go_wp2_with fail
    all_goals
      refine (refindex_any _ h0 h1 _).mono ?_
      rintro e w3 ⟨rfl, rfl⟩
      go_wp2_with fail
      refine (reftag_any _ h0 h1 _).mono ?_
      rintro e w3 ⟨rfl, rfl⟩
      go_wp2_with fail
      refine (refpack_any _ _ _ hm0.out (by omega) _).mono ?_
      rintro e w3 ⟨rfl, rfl⟩
      go_wp2_with fail
      refine (clean_any _ h0 h1 _).mono ?_
      rintro e w3 ⟨rfl, hb3⟩
      have hb03 := bt (bt hb1 hb2) hb3
      have hL3 := hL.next hb03
      go_wp2_with fail
      refine (known_any _ hL3).mono ?_
      rintro e w4 ⟨rfl, hb4⟩
      go_wp2
      go_ret
      exact ⟨rfl, bt hb03 hb4⟩

theorem law_with (h m : Int) (h0 : 0 ≤ h) (h1 : h < 18446744073709551616) (w : World) (hL : Laid w) :
    Calls Tryd.prog 5 #[.int .u64 h, .int .i64 m] w fun e w' => e = .returned (.bool true) ∧ Below w.heap.size w w' := by
  by_cases hm : 0 ≤ m ∧ m ≤ 3
  · exact law_with_yes h m h0 h1 hm.1 hm.2 w hL
  · exact law_with_no h m h0 h1 (by omega) w hL

set_option maxHeartbeats 1000000 in
set_option maxRecDepth 100000 in
theorem law_parts (h : Int) (h0 : 0 ≤ h) (h1 : h < 18446744073709551616) (w : World) (hL : Laid w) :
    Calls Tryd.prog 4 #[.int .u64 h] w fun e w' => e = .returned (.bool true) ∧ Below w.heap.size w w' := by
  have hm := may_marks h (h / 4194304 % 4) h0 h1 (by omega) (by omega)
  have HM := Lib.hid hm
  have e1 : (h % 4194304 + h / 4194304 % 4 * 4194304 + h / 16777216 * 16777216 == h) = true := by rw [beq_iff_eq]; omega
  go_enter Tryd.func4, Tryd.ntmps4
  go_wp2_with fail
  refine (index_any _ h0 h1 _).mono ?_
  rintro e w1 ⟨rfl, hb1⟩
  go_wp2_with fail
  refine (marks_any _ h0 h1 _).mono ?_
  rintro e w2 ⟨rfl, hb2⟩
  go_wp2_with fail
  refine (tag_any _ h0 h1 _).mono ?_
  rintro e w3 ⟨rfl, hb3⟩
  go_wp2_with fail
  refine (refindex_any _ h0 h1 _).mono ?_
  rintro e w4 ⟨rfl, rfl⟩
  go_wp2_with fail
  refine (refmarks_any _ h0 h1 _).mono ?_
  rintro e w4 ⟨rfl, rfl⟩
  go_wp2_with fail
  refine (reftag_any _ h0 h1 _).mono ?_
  rintro e w4 ⟨rfl, rfl⟩
  go_wp2_with fail
  refine (pack_yes _ _ _ HM.out (by omega) _).mono ?_
  rintro e w4 ⟨rfl, rfl⟩
  go_wp2_with fail
  refine (may_any _ _ _ _).mono ?_
  rintro e w4 ⟨rfl, rfl⟩
  have hb03 := bt (bt hb1 hb2) hb3
  have hL3 := hL.next hb03
  go_wp2_with fail
  refine (known_any _ hL3).mono ?_
  rintro e w4 ⟨rfl, hb4⟩
  go_wp2
  go_ret
  exact ⟨rfl, bt hb03 hb4⟩

set_option maxHeartbeats 1000000 in
set_option maxRecDepth 100000 in
theorem law_packs_no (i m t : Int) (h : mayB i m t = false) (w : World) (hL : Laid w) :
    Calls Tryd.prog 3 #[.int .i64 i, .int .i64 m, .int .u64 t] w fun e w' => e = .returned (.bool true) ∧ Below w.heap.size w w' := by
  have HM := Lib.hid h
  go_enter Tryd.func3, Tryd.ntmps3
  go_wp2_with fail
  refine (pack_no _ _ _ HM.out _).mono ?_
  rintro e w4 ⟨rfl, rfl⟩
  go_wp2_with fail
  refine (refmay_any _ _ _ _).mono ?_
  rintro e w4 ⟨rfl, rfl⟩
  go_wp2_with fail
  refine (may_any _ _ _ _).mono ?_
  rintro e w4 ⟨rfl, rfl⟩
  go_wp2_with fail
  refine (known_any _ hL).mono ?_
  rintro e w4 ⟨rfl, hb4⟩
  go_wp2
  go_ret
  exact ⟨rfl, hb4⟩

set_option maxHeartbeats 1000000 in
set_option maxRecDepth 100000 in
theorem law_packs_yes (i m t : Int) (h : mayB i m t = true) (ht : 0 ≤ t) (w : World) (hL : Laid w) :
    Calls Tryd.prog 3 #[.int .i64 i, .int .i64 m, .int .u64 t] w fun e w' => e = .returned (.bool true) ∧ Below w.heap.size w w' := by
  have HM := Lib.hid h
  have hb : 0 ≤ i ∧ i ≤ 4194303 ∧ 0 ≤ m ∧ m ≤ 3 ∧ t ≤ 1099511627775 := by have h' := h; unfold mayB at h'; simp at h'; omega
  obtain ⟨b1, b2, b3, b4, b5⟩ := hb
  have x0 : 0 ≤ i + m * 4194304 + t * 16777216 := by omega
  have x1 : i + m * 4194304 + t * 16777216 < 18446744073709551616 := by omega
  have e1 : ((i + m * 4194304 + t * 16777216) % 4194304 == i) = true := by rw [beq_iff_eq]; omega
  have e2 : ((i + m * 4194304 + t * 16777216) / 4194304 % 4 == m) = true := by rw [beq_iff_eq]; omega
  have e3 : ((i + m * 4194304 + t * 16777216) / 16777216 == t) = true := by rw [beq_iff_eq]; omega
  go_enter Tryd.func3, Tryd.ntmps3
  go_wp2_with fail
  refine (pack_yes _ _ _ HM.out ht _).mono ?_
  rintro e w4 ⟨rfl, rfl⟩
  go_wp2_with fail
  refine (refmay_any _ _ _ _).mono ?_
  rintro e w4 ⟨rfl, rfl⟩
  go_wp2_with fail
  refine (may_any _ _ _ _).mono ?_
  rintro e w4 ⟨rfl, rfl⟩
  go_wp2_with fail
  refine (refpack_any _ _ _ HM.out ht _).mono ?_
  rintro e w4 ⟨rfl, rfl⟩
  go_wp2_with fail
  refine (index_any _ x0 x1 _).mono ?_
  rintro e w1 ⟨rfl, hb1⟩
  go_wp2_with fail
  refine (marks_any _ x0 x1 _).mono ?_
  rintro e w2 ⟨rfl, hb2⟩
  go_wp2_with fail
  refine (tag_any _ x0 x1 _).mono ?_
  rintro e w3 ⟨rfl, hb3⟩
  have hb03 := bt (bt hb1 hb2) hb3
  have hL3 := hL.next hb03
  go_wp2_with fail
  refine (known_any _ hL3).mono ?_
  rintro e w4 ⟨rfl, hb4⟩
  go_wp2
  go_ret
  exact ⟨rfl, bt hb03 hb4⟩

theorem law_packs (i m t : Int) (ht : 0 ≤ t) (w : World) (hL : Laid w) :
    Calls Tryd.prog 3 #[.int .i64 i, .int .i64 m, .int .u64 t] w fun e w' => e = .returned (.bool true) ∧ Below w.heap.size w w' := by
  cases h : mayB i m t
  · exact law_packs_no i m t h w hL
  · exact law_packs_yes i m t h ht w hL
end Go.Proofs.YtglllofmmdjljaaDoor
