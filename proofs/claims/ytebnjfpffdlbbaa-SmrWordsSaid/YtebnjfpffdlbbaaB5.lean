/- The law SmrWords: how many words a base has, and where each one stands. -/
import Derived.Test.YtebnjfpffdlbbaaC3
import Derived.Test.YtebnjfpffdlbbaaB3
namespace Go.Proofs.Ytebnjfpffdlbbaa
open Go.RowKit
set_option linter.unusedVariables false
set_option linter.unusedSimpArgs false

set_option maxRecDepth 100000 in
set_option maxHeartbeats 4000000 in
theorem words_few (t at_ th k : Int) (h : t < 1 ∨ 16 < t) (w : World) :
    Calls Try.prog 5 #[.int .i64 t, .int .i64 at_, .int .i64 th, .int .i64 k] w fun e w' => e = .returned (.bool true) ∧ Below w.heap.size w w' := by
  have HW := Lib.hid (words_v t 0 (if_neg (by omega)))
  by_cases h0 : t < 1
  · clear h
    go_enter Try.func5, Try.ntmps5
    go_wp2_with fail
    refine (HW.out _).mono ?_
    rintro e w1 ⟨rfl, rfl⟩
    go_wp2_with fail
    refine (known_any _).mono ?_
    rintro e w1 ⟨rfl, hb1⟩
    go_wp2
    go_returns
    exact ⟨rfl, hb1⟩
  · have h0' : decide (t < 1) = false := by simpa using h0
    have h1 : 16 < t := by omega
    clear h h0
    go_enter Try.func5, Try.ntmps5
    go_wp2_with fail
    refine (HW.out _).mono ?_
    rintro e w1 ⟨rfl, rfl⟩
    go_wp2_with fail
    refine (known_any _).mono ?_
    rintro e w1 ⟨rfl, hb1⟩
    go_wp2
    go_returns
    exact ⟨rfl, hb1⟩

set_option maxRecDepth 100000 in
set_option maxHeartbeats 4000000 in
theorem words_far (T : Nat) (at_ th k : Int) (hT : 1 ≤ T ∧ T ≤ 16) (h : at_ < 0 ∨ 1000000 < at_) (w : World) :
    Calls Try.prog 5 #[.int .i64 T, .int .i64 at_, .int .i64 th, .int .i64 k] w fun e w' => e = .returned (.bool true) ∧ Below w.heap.size w w' := by
  have HW := Lib.hid (words_v T (14 * T + 15) (if_pos (by omega)))
  have t0 : (1 : Int) ≤ T := by omega
  have t1 : (T : Int) ≤ 16 := by omega
  by_cases h0 : at_ < 0
  · clear h
    go_enter Try.func5, Try.ntmps5
    go_wp2_with fail
    refine (HW.out _).mono ?_
    rintro e w1 ⟨rfl, rfl⟩
    go_wp2_with fail
    refine (known_any _).mono ?_
    rintro e w1 ⟨rfl, hb1⟩
    go_wp2
    go_returns
    exact ⟨rfl, hb1⟩
  · have h0' : decide (at_ < 0) = false := by simpa using h0
    have h1 : 1000000 < at_ := by omega
    clear h h0
    go_enter Try.func5, Try.ntmps5
    go_wp2_with fail
    refine (HW.out _).mono ?_
    rintro e w1 ⟨rfl, rfl⟩
    go_wp2_with fail
    refine (known_any _).mono ?_
    rintro e w1 ⟨rfl, hb1⟩
    go_wp2
    go_returns
    exact ⟨rfl, hb1⟩

/-- What the law wants of Word. -/
def wantW (T at_ th k : Int) : Int := if 0 ≤ th ∧ th ≤ T ∧ 0 ≤ k ∧ k < 14 then at_ + 14 * th + k else -1

theorem Bs.word {B T : Nat} {wo : Option Addr} {at_ : Int} {g c : Nat} {Ls : Nat → Nat} {w : World} (h : Bs B T wo at_ g c Ls w) (ha : 0 ≤ at_ ∧ at_ ≤ 1000000) (t k : Int) :
    Calls Try.prog 20 #[.pointer (some ⟨B, 0, none⟩), .int .i64 t, .int .i64 k] w fun e w' => e = .returned (.int .i64 (wantW T at_ t k)) ∧ w = w' := by
  unfold wantW
  split
  · rename_i hc
    obtain ⟨n, rfl⟩ := Int.eq_ofNat_of_zero_le hc.1
    exact h.word_in ha n (by omega) k ⟨hc.2.2.1, hc.2.2.2⟩
  · exact h.word_out t k (by omega)

theorem clampr_v (T : Nat) (hT : 1 ≤ T ∧ T ≤ 16) (w : World) : Calls Try.prog 10 #[.agg #[.int .i64 T, .int .i64 0, .int .i64 0, .int .i64 0, .int .i64 0, .int .i64 0, .int .u64 0]] w fun e w' => e = .returned (.agg #[.int .i64 T, .int .i64 0, .int .i64 0, .int .i64 1, .int .i64 0, .int .i64 1, .int .u64 1]) ∧ Below w.heap.size w w' := by
  have := clampr_ex T 0 0 0 0 0 0 w
  rw [cfgC_T T hT] at this
  exact this.mono fun e w' ⟨h, o1, o2, o3, hw⟩ => ⟨h, by rw [hw]; go_grown⟩

set_option maxRecDepth 100000 in
set_option maxHeartbeats 8000000 in
theorem words_in (T : Nat) (at_ th k : Int) (hT : 1 ≤ T ∧ T ≤ 16) (h : 0 ≤ at_ ∧ at_ ≤ 1000000) (c0 : 0 ≤ th) (c1 : th ≤ (T : Int)) (c2 : 0 ≤ k) (c3 : k < 14) (w : World) :
    Calls Try.prog 5 #[.int .i64 T, .int .i64 at_, .int .i64 th, .int .i64 k] w fun e w' => e = .returned (.bool true) ∧ Below w.heap.size w w' := by
  have HW := Lib.hid (words_v T (14 * T + 15) (if_pos (by omega)))
  have WV := Lib.hid (show wantW T at_ th k = at_ + 14 * th + k from if_pos ⟨c0, c1, c2, c3⟩)
  have t0 : (1 : Int) ≤ T := by omega
  have t1 : (T : Int) ≤ 16 := by omega
  have HT := Lib.hid hT
  have HA := Lib.hid h
  obtain ⟨a0, a1⟩ := h
  have q := eq22'
  clear hT
  go_enter Try.func5, Try.ntmps5
  go_wp2_with fail
  refine (HW.out _).mono ?_
  rintro e w1 ⟨rfl, rfl⟩
  go_wp2_with fail
  refine (sNew_l T HT.out none at_ _).mono ?_
  rintro e w1 ⟨B, v, ys, Ls, w0, rfl, hM, hb0, hB, hbc⟩
  obtain ⟨g, c, rfl, hg, hbs⟩ := bs_of HT.out hM hbc
  have HB := Lib.hid hbs
  have HB1 := Lib.hid (hM.grown hb0 hB)
  clear hM hb0 hB hbc hg hbs
  go_wp2_with fail
  refine (HB.out.word HA.out _ _).mono ?_
  rw [WV.out]
  rintro e w2 ⟨rfl, rfl⟩
  go_wp2_with fail
  refine (HB.out.global HA.out).mono ?_
  rintro e w2 ⟨rfl, hb2⟩
  have HBS2 := Lib.hid (HB.out.below hb2)
  have HB2 := Lib.hid (below_then HB1.out hb2)
  clear hb2
  go_wp2_with fail
  refine HBS2.out.config.mono ?_
  rintro e w3 ⟨rfl, hb3⟩
  have HB3 := Lib.hid (below_then HB2.out hb3)
  clear hb3
  go_wp2_with fail
  refine (clampr_v T HT.out _).mono ?_
  rintro e w4 ⟨rfl, hb4⟩
  have HB4 := Lib.hid (below_then HB3.out hb4)
  clear hb4
  go_wp2_with fail
  refine (known_any _).mono ?_
  rintro e w5 ⟨rfl, hb5⟩
  go_wp2
  go_returns
  exact ⟨rfl, below_then HB4.out hb5⟩

set_option maxRecDepth 100000 in
set_option maxHeartbeats 8000000 in
theorem words_tlo (T : Nat) (at_ th k : Int) (hT : 1 ≤ T ∧ T ≤ 16) (h : 0 ≤ at_ ∧ at_ ≤ 1000000) (c0 : th < 0) (w : World) :
    Calls Try.prog 5 #[.int .i64 T, .int .i64 at_, .int .i64 th, .int .i64 k] w fun e w' => e = .returned (.bool true) ∧ Below w.heap.size w w' := by
  have HW := Lib.hid (words_v T (14 * T + 15) (if_pos (by omega)))
  have WV := Lib.hid (show wantW T at_ th k = -1 from if_neg (by omega))
  have t0 : (1 : Int) ≤ T := by omega
  have t1 : (T : Int) ≤ 16 := by omega
  have HT := Lib.hid hT
  have HA := Lib.hid h
  obtain ⟨a0, a1⟩ := h
  have q := eq22'
  clear hT
  have d0 : decide (0 ≤ th) = false := by simp; omega
  clear c0
  go_enter Try.func5, Try.ntmps5
  go_wp2_with fail
  refine (HW.out _).mono ?_
  rintro e w1 ⟨rfl, rfl⟩
  go_wp2_with fail
  refine (sNew_l T HT.out none at_ _).mono ?_
  rintro e w1 ⟨B, v, ys, Ls, w0, rfl, hM, hb0, hB, hbc⟩
  obtain ⟨g, c, rfl, hg, hbs⟩ := bs_of HT.out hM hbc
  have HB := Lib.hid hbs
  have HB1 := Lib.hid (hM.grown hb0 hB)
  clear hM hb0 hB hbc hg hbs
  go_wp2_with fail
  refine (HB.out.word HA.out _ _).mono ?_
  rw [WV.out]
  rintro e w2 ⟨rfl, rfl⟩
  go_wp2_with fail
  refine (HB.out.global HA.out).mono ?_
  rintro e w2 ⟨rfl, hb2⟩
  have HBS2 := Lib.hid (HB.out.below hb2)
  have HB2 := Lib.hid (below_then HB1.out hb2)
  clear hb2
  go_wp2_with fail
  refine HBS2.out.config.mono ?_
  rintro e w3 ⟨rfl, hb3⟩
  have HB3 := Lib.hid (below_then HB2.out hb3)
  clear hb3
  go_wp2_with fail
  refine (clampr_v T HT.out _).mono ?_
  rintro e w4 ⟨rfl, hb4⟩
  have HB4 := Lib.hid (below_then HB3.out hb4)
  clear hb4
  go_wp2_with fail
  refine (known_any _).mono ?_
  rintro e w5 ⟨rfl, hb5⟩
  go_wp2
  go_returns
  exact ⟨rfl, below_then HB4.out hb5⟩

set_option maxRecDepth 100000 in
set_option maxHeartbeats 8000000 in
theorem words_thi (T : Nat) (at_ th k : Int) (hT : 1 ≤ T ∧ T ≤ 16) (h : 0 ≤ at_ ∧ at_ ≤ 1000000) (c0 : 0 ≤ th) (c1 : (T : Int) < th) (w : World) :
    Calls Try.prog 5 #[.int .i64 T, .int .i64 at_, .int .i64 th, .int .i64 k] w fun e w' => e = .returned (.bool true) ∧ Below w.heap.size w w' := by
  have HW := Lib.hid (words_v T (14 * T + 15) (if_pos (by omega)))
  have WV := Lib.hid (show wantW T at_ th k = -1 from if_neg (by omega))
  have t0 : (1 : Int) ≤ T := by omega
  have t1 : (T : Int) ≤ 16 := by omega
  have HT := Lib.hid hT
  have HA := Lib.hid h
  obtain ⟨a0, a1⟩ := h
  have q := eq22'
  clear hT
  have d1 : decide (th ≤ (T : Int)) = false := by simp; omega
  clear c1
  go_enter Try.func5, Try.ntmps5
  go_wp2_with fail
  refine (HW.out _).mono ?_
  rintro e w1 ⟨rfl, rfl⟩
  go_wp2_with fail
  refine (sNew_l T HT.out none at_ _).mono ?_
  rintro e w1 ⟨B, v, ys, Ls, w0, rfl, hM, hb0, hB, hbc⟩
  obtain ⟨g, c, rfl, hg, hbs⟩ := bs_of HT.out hM hbc
  have HB := Lib.hid hbs
  have HB1 := Lib.hid (hM.grown hb0 hB)
  clear hM hb0 hB hbc hg hbs
  go_wp2_with fail
  refine (HB.out.word HA.out _ _).mono ?_
  rw [WV.out]
  rintro e w2 ⟨rfl, rfl⟩
  go_wp2_with fail
  refine (HB.out.global HA.out).mono ?_
  rintro e w2 ⟨rfl, hb2⟩
  have HBS2 := Lib.hid (HB.out.below hb2)
  have HB2 := Lib.hid (below_then HB1.out hb2)
  clear hb2
  go_wp2_with fail
  refine HBS2.out.config.mono ?_
  rintro e w3 ⟨rfl, hb3⟩
  have HB3 := Lib.hid (below_then HB2.out hb3)
  clear hb3
  go_wp2_with fail
  refine (clampr_v T HT.out _).mono ?_
  rintro e w4 ⟨rfl, hb4⟩
  have HB4 := Lib.hid (below_then HB3.out hb4)
  clear hb4
  go_wp2_with fail
  refine (known_any _).mono ?_
  rintro e w5 ⟨rfl, hb5⟩
  go_wp2
  go_returns
  exact ⟨rfl, below_then HB4.out hb5⟩

set_option maxRecDepth 100000 in
set_option maxHeartbeats 8000000 in
theorem words_klo (T : Nat) (at_ th k : Int) (hT : 1 ≤ T ∧ T ≤ 16) (h : 0 ≤ at_ ∧ at_ ≤ 1000000) (c0 : 0 ≤ th) (c1 : th ≤ (T : Int)) (c2 : k < 0) (w : World) :
    Calls Try.prog 5 #[.int .i64 T, .int .i64 at_, .int .i64 th, .int .i64 k] w fun e w' => e = .returned (.bool true) ∧ Below w.heap.size w w' := by
  have HW := Lib.hid (words_v T (14 * T + 15) (if_pos (by omega)))
  have WV := Lib.hid (show wantW T at_ th k = -1 from if_neg (by omega))
  have t0 : (1 : Int) ≤ T := by omega
  have t1 : (T : Int) ≤ 16 := by omega
  have HT := Lib.hid hT
  have HA := Lib.hid h
  obtain ⟨a0, a1⟩ := h
  have q := eq22'
  clear hT
  have d2 : decide (0 ≤ k) = false := by simp; omega
  clear c2
  go_enter Try.func5, Try.ntmps5
  go_wp2_with fail
  refine (HW.out _).mono ?_
  rintro e w1 ⟨rfl, rfl⟩
  go_wp2_with fail
  refine (sNew_l T HT.out none at_ _).mono ?_
  rintro e w1 ⟨B, v, ys, Ls, w0, rfl, hM, hb0, hB, hbc⟩
  obtain ⟨g, c, rfl, hg, hbs⟩ := bs_of HT.out hM hbc
  have HB := Lib.hid hbs
  have HB1 := Lib.hid (hM.grown hb0 hB)
  clear hM hb0 hB hbc hg hbs
  go_wp2_with fail
  refine (HB.out.word HA.out _ _).mono ?_
  rw [WV.out]
  rintro e w2 ⟨rfl, rfl⟩
  go_wp2_with fail
  refine (HB.out.global HA.out).mono ?_
  rintro e w2 ⟨rfl, hb2⟩
  have HBS2 := Lib.hid (HB.out.below hb2)
  have HB2 := Lib.hid (below_then HB1.out hb2)
  clear hb2
  go_wp2_with fail
  refine HBS2.out.config.mono ?_
  rintro e w3 ⟨rfl, hb3⟩
  have HB3 := Lib.hid (below_then HB2.out hb3)
  clear hb3
  go_wp2_with fail
  refine (clampr_v T HT.out _).mono ?_
  rintro e w4 ⟨rfl, hb4⟩
  have HB4 := Lib.hid (below_then HB3.out hb4)
  clear hb4
  go_wp2_with fail
  refine (known_any _).mono ?_
  rintro e w5 ⟨rfl, hb5⟩
  go_wp2
  go_returns
  exact ⟨rfl, below_then HB4.out hb5⟩

set_option maxRecDepth 100000 in
set_option maxHeartbeats 8000000 in
theorem words_khi (T : Nat) (at_ th k : Int) (hT : 1 ≤ T ∧ T ≤ 16) (h : 0 ≤ at_ ∧ at_ ≤ 1000000) (c0 : 0 ≤ th) (c1 : th ≤ (T : Int)) (c2 : 0 ≤ k) (c3 : 14 ≤ k) (w : World) :
    Calls Try.prog 5 #[.int .i64 T, .int .i64 at_, .int .i64 th, .int .i64 k] w fun e w' => e = .returned (.bool true) ∧ Below w.heap.size w w' := by
  have HW := Lib.hid (words_v T (14 * T + 15) (if_pos (by omega)))
  have WV := Lib.hid (show wantW T at_ th k = -1 from if_neg (by omega))
  have t0 : (1 : Int) ≤ T := by omega
  have t1 : (T : Int) ≤ 16 := by omega
  have HT := Lib.hid hT
  have HA := Lib.hid h
  obtain ⟨a0, a1⟩ := h
  have q := eq22'
  clear hT
  have d3 : decide (k < 14) = false := by simp; omega
  clear c3
  go_enter Try.func5, Try.ntmps5
  go_wp2_with fail
  refine (HW.out _).mono ?_
  rintro e w1 ⟨rfl, rfl⟩
  go_wp2_with fail
  refine (sNew_l T HT.out none at_ _).mono ?_
  rintro e w1 ⟨B, v, ys, Ls, w0, rfl, hM, hb0, hB, hbc⟩
  obtain ⟨g, c, rfl, hg, hbs⟩ := bs_of HT.out hM hbc
  have HB := Lib.hid hbs
  have HB1 := Lib.hid (hM.grown hb0 hB)
  clear hM hb0 hB hbc hg hbs
  go_wp2_with fail
  refine (HB.out.word HA.out _ _).mono ?_
  rw [WV.out]
  rintro e w2 ⟨rfl, rfl⟩
  go_wp2_with fail
  refine (HB.out.global HA.out).mono ?_
  rintro e w2 ⟨rfl, hb2⟩
  have HBS2 := Lib.hid (HB.out.below hb2)
  have HB2 := Lib.hid (below_then HB1.out hb2)
  clear hb2
  go_wp2_with fail
  refine HBS2.out.config.mono ?_
  rintro e w3 ⟨rfl, hb3⟩
  have HB3 := Lib.hid (below_then HB2.out hb3)
  clear hb3
  go_wp2_with fail
  refine (clampr_v T HT.out _).mono ?_
  rintro e w4 ⟨rfl, hb4⟩
  have HB4 := Lib.hid (below_then HB3.out hb4)
  clear hb4
  go_wp2_with fail
  refine (known_any _).mono ?_
  rintro e w5 ⟨rfl, hb5⟩
  go_wp2
  go_returns
  exact ⟨rfl, below_then HB4.out hb5⟩

theorem law_words (t at_ th k : Int) (ht : -9223372036854775808 ≤ t ∧ t < 9223372036854775808) (ha : -9223372036854775808 ≤ at_ ∧ at_ < 9223372036854775808) (hth : -9223372036854775808 ≤ th ∧ th < 9223372036854775808) (hk : -9223372036854775808 ≤ k ∧ k < 9223372036854775808) (w : World) :
    Calls Try.prog 5 #[.int .i64 t, .int .i64 at_, .int .i64 th, .int .i64 k] w fun e w' => e = .returned (.bool true) ∧ Below w.heap.size w w' := by
  by_cases h : t < 1 ∨ 16 < t
  · exact words_few t at_ th k h w
  · obtain ⟨T, rfl⟩ := Int.eq_ofNat_of_zero_le (show 0 ≤ t by omega)
    have hT : 1 ≤ T ∧ T ≤ 16 := by omega
    by_cases h2 : at_ < 0 ∨ 1000000 < at_
    · exact words_far T at_ th k hT h2 w
    · have hA : 0 ≤ at_ ∧ at_ ≤ 1000000 := by omega
      by_cases c0 : th < 0
      · exact words_tlo T at_ th k hT hA c0 w
      · by_cases c1 : (T : Int) < th
        · exact words_thi T at_ th k hT hA (by omega) c1 w
        · by_cases c2 : k < 0
          · exact words_klo T at_ th k hT hA (by omega) (by omega) c2 w
          · by_cases c3 : 14 ≤ k
            · exact words_khi T at_ th k hT hA (by omega) (by omega) (by omega) c3 w
            · exact words_in T at_ th k hT hA (by omega) (by omega) (by omega) (by omega) w
end Go.Proofs.Ytebnjfpffdlbbaa
