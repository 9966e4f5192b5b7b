/- The law ArenaPlaces answers true in whatever world; the table must read as the program lays it. -/
import Derived.Test.YtmolccpihmbniaaDoorG1
namespace Go.Proofs.YtmolccpihmbniaaDoor
open Go.RowKit
set_option linter.unusedVariables false

theorem nameI_k {k : Int} (h : 0 ≤ k) : nameI (2 + k) = k := by unfold nameI; rw [if_neg (by omega), if_neg (by omega)]; omega
theorem Fnd.le {a n : Nat} {i k x : Int} (h : Fnd a n i k x) (hn : n ≤ 10000) : x ≤ 100000 := by
  rcases h with ⟨rfl, _⟩ | ⟨p, hp, rfl, _⟩ <;> omega
theorem plc_neg (r : Ar) (n k : Int) (h : k < 0) : plc r n 2 k = -1 := by
  unfold plc
  have hk6 : ¬ (0 ≤ k ∧ k < 6 - 2) := by omega
  have hk10 : ¬ (0 ≤ k ∧ k < 10 - 2) := by omega
  simp only [hk6, hk10, if_false, ite_self]
theorem beq_self_int (x : Int) : (x == x) = true := by simp

set_option maxHeartbeats 16000000 in
set_option maxRecDepth 100000 in
theorem law_places (base a b index k : Int) (w : World) (hs : Sz w) :
    Calls Tryd.prog 3 #[.int .i64 base, .int .i64 a, .int .i64 b, .int .i64 index, .int .i64 k] w fun e w' => e = .returned (.bool true) ∧ Below w.heap.size w w' := by
  cases hf : fewB a b
  · have HF := Lib.hid hf
    clear hf
    go_enter Tryd.func3, Tryd.ntmps3
    go_wp2_with fail
    refine (few_any a b _).mono ?_
    rintro e w1 ⟨rfl, rfl⟩
    rw [HF.out]
    go_wp2_with fail
    refine (known_any _ hs).mono ?_
    rintro e wk ⟨rfl, hbk⟩
    have HBK := Lib.hid (hbk)
    clear hbk
    go_wp2
    go_returns
    exact ⟨rfl, HBK.out⟩
  · obtain ⟨ha, hb⟩ := few_yes hf
    have HF := Lib.hid hf
    clear hf
    by_cases hbase : base < 0 ∨ 1000 < base
    · rcases hbase with hbase | hbase
      all_goals
        go_enter Tryd.func3, Tryd.ntmps3
        go_wp2_with fail
        refine (few_any a b _).mono ?_
        rintro e w1 ⟨rfl, rfl⟩
        rw [HF.out]
        go_wp2_with fail
        refine (known_any _ hs).mono ?_
        rintro e wk ⟨rfl, hbk⟩
        have HBK := Lib.hid (hbk)
        clear hbk
        go_wp2
        go_returns
        exact ⟨rfl, HBK.out⟩
    · have hb0 : 0 ≤ base ∧ base ≤ 1000 := by omega
      clear hbase
      obtain ⟨a, rfl⟩ := Int.eq_ofNat_of_zero_le ha.1
      obtain ⟨b, rfl⟩ := Int.eq_ofNat_of_zero_le hb.1
      have hix : ∃ c d t, fnd index (ar base a b 0).i0 (ar base a b 0).i1 (ar base a b 0).i2 = (c, d, t) ∧ ((index < 1 ∧ t = false) ∨ (1 ≤ index ∧ index ≤ (a : Int) ∧ t = true ∧ c = 0) ∨ ((a : Int) < index ∧ 1 ≤ index ∧ index ≤ (a : Int) + b ∧ t = true ∧ c = 1) ∨ ((a : Int) + b < index ∧ 1 ≤ index ∧ t = false)) := by
        rcases fnd_cases index (ar base a b 0).i0 (ar base a b 0).i1 (ar base a b 0).i2 with ⟨x1, x2, x3⟩ | ⟨x1, x2, x3, x4⟩ | ⟨x1, x2, x3⟩
        · simp only [ar] at x1 x2; exact ⟨_, _, _, x3, by simp; omega⟩
        · simp only [ar] at x1 x2 x3; exact ⟨_, _, _, x4, by simp; omega⟩
        · simp only [ar] at x1 x2; exact ⟨_, _, _, x3, by simp; omega⟩
      obtain ⟨c, d, t, hfnd, hix⟩ := hix
      have HFN := Lib.hid hfnd
      clear hfnd
      rcases hix with ⟨i1, rfl⟩ | ⟨i1, i2, rfl, rfl⟩ | ⟨i1, i2, i3, rfl, rfl⟩ | ⟨i1, i2, rfl⟩
      all_goals
        have hkc : k < 0 ∨ k = 0 ∨ k = 1 ∨ 2 ≤ k := by omega
        rcases hkc with hk | rfl | rfl | hk
        · have hk0 : (k == 0) = false := by rw [beq_eq_false_iff_ne]; omega
          have hk1 : (k == 1) = false := by rw [beq_eq_false_iff_ne]; omega
          go_enter Tryd.func3, Tryd.ntmps3
          go_wp2_with fail
          refine (few_any a b _).mono ?_
          rintro e w1 ⟨rfl, rfl⟩
          rw [HF.out]
          go_wp2_with fail
          refine (refWords_any a b (by omega) (by omega) _).mono ?_
          rintro e w1 ⟨rfl, rfl⟩
          go_wp2_with fail
          refine (begin_any (base + (6 * (a : Int) + 10 * (b : Int))) base a b (by omega) (by omega) (by omega) (by omega) (by omega) _ hs).mono ?_
          rintro e w1 ⟨A, L, rfl, hN, hb1⟩
          have HO1 := Lib.hid (On.mk (hs.below hb1) (ar_eq hN) hb1)
          have HSM := Lib.hid (ar_sm (L := L) hb0 (show a ≤ 40 by omega) (show b ≤ 40 by omega))
          clear hN hb1
          go_wp2_with fail
          refine (lay_any a b (by omega) (by omega) _).mono ?_
          rintro e w3 ⟨v, rfl, hown, hb3⟩
          have HO3 := Lib.hid (HO1.out.next hb3)
          rw [upto_all] at hown
          obtain ⟨ad, cap, rfl, hlies⟩ := lies_of hown
          have HLI := Lib.hid hlies
          clear hb3 HO1 hown hlies
          go_wp2_with fail
          refine (find_ref a _ (by omega) index (-1) ad cap _ HLI.out).mono ?_
          rintro e w4 ⟨⟨x1, rfl, hx1⟩, rfl⟩
          have hx1le := hx1.le (by omega)
          have HX1 := Lib.hid (fnd_plc base a b L index 0 0 x1 (by omega) (by omega) (by omega) (by omega) hx1)
          clear hx1
          go_wp2_with fail
          refine (find_ref a _ (by omega) index (-2) ad cap _ HLI.out).mono ?_
          rintro e w4 ⟨⟨x2, rfl, hx2⟩, rfl⟩
          have hx2le := hx2.le (by omega)
          have HX2 := Lib.hid (fnd_plc base a b L index 1 0 x2 (by omega) (by omega) (by omega) (by omega) hx2)
          clear hx2
          go_wp2_with fail
          refine (at_any A (ar base a b L) HSM.out index _ _ HO3.out.z HO3.out.a).mono ?_
          rintro e w5 ⟨rfl, hb5⟩
          have HO5 := Lib.hid (HO3.out.next hb5)
          clear hb5 HO3
          rw [plc_neg _ _ _ hk]
          go_wp2_with fail
          refine (from_any base (-1) (by omega) hb0 _).mono ?_
          rintro e w6 ⟨rfl, rfl⟩
          rw [show fromI base (-1) = -1 from rfl]
          go_wp2_with fail
          refine (link_any A (ar base a b L) HSM.out index _ HO5.out.z HO5.out.a).mono ?_
          rintro e w6 ⟨rfl, hb6⟩
          have HO6 := Lib.hid (HO5.out.next hb6)
          clear hb6 HO5
          go_wp2_with fail
          refine (from_any base x1 hx1le hb0 _).mono ?_
          rintro e w7 ⟨rfl, rfl⟩
          rw [HX1.out]
          generalize plc (ar base a b L) index 0 0 = P1
          have hP1 := beq_self_int P1
          go_wp2_with fail
          refine (birth_any A (ar base a b L) HSM.out index _ HO6.out.z HO6.out.a).mono ?_
          rintro e w7 ⟨rfl, hb7⟩
          have HO7 := Lib.hid (HO6.out.next hb7)
          clear hb7 HO6
          go_wp2_with fail
          refine (from_any base x2 hx2le hb0 _).mono ?_
          rintro e w8 ⟨rfl, rfl⟩
          rw [HX2.out]
          generalize plc (ar base a b L) index 1 0 = P2
          have hP2 := beq_self_int P2
          go_wp2_with fail
          refine (class_any A (ar base a b L) HSM.out index _ HO7.out.a HFN.out).mono ?_
          rintro e w8 ⟨rfl, hb8⟩
          have HO8 := Lib.hid (HO7.out.next hb8)
          clear hb8 HO7
          simp only [clsOf]
          go_wp2_with fail
          refine (cap_out A (ar base a b L) k (inB_not.2 (by omega)) _).mono ?_
          rintro e w9 ⟨rfl, hb9⟩
          have HO9 := Lib.hid (HO8.out.next hb9)
          clear hb9 HO8
          go_wp2_with fail
          refine (known_any _ HO9.out.z).mono ?_
          rintro e wk ⟨rfl, hbk⟩
          have HBK := Lib.hid ((HO9.out.next hbk).b)
          clear hbk
          go_wp2
          go_returns
          exact ⟨rfl, HBK.out⟩
        · go_enter Tryd.func3, Tryd.ntmps3
          go_wp2_with fail
          refine (few_any a b _).mono ?_
          rintro e w1 ⟨rfl, rfl⟩
          rw [HF.out]
          go_wp2_with fail
          refine (refWords_any a b (by omega) (by omega) _).mono ?_
          rintro e w1 ⟨rfl, rfl⟩
          go_wp2_with fail
          refine (begin_any (base + (6 * (a : Int) + 10 * (b : Int))) base a b (by omega) (by omega) (by omega) (by omega) (by omega) _ hs).mono ?_
          rintro e w1 ⟨A, L, rfl, hN, hb1⟩
          have HO1 := Lib.hid (On.mk (hs.below hb1) (ar_eq hN) hb1)
          have HSM := Lib.hid (ar_sm (L := L) hb0 (show a ≤ 40 by omega) (show b ≤ 40 by omega))
          clear hN hb1
          go_wp2_with fail
          refine (lay_any a b (by omega) (by omega) _).mono ?_
          rintro e w3 ⟨v, rfl, hown, hb3⟩
          have HO3 := Lib.hid (HO1.out.next hb3)
          rw [upto_all] at hown
          obtain ⟨ad, cap, rfl, hlies⟩ := lies_of hown
          have HLI := Lib.hid hlies
          clear hb3 HO1 hown hlies
          go_wp2_with fail
          refine (find_ref a _ (by omega) index (-1) ad cap _ HLI.out).mono ?_
          rintro e w4 ⟨⟨x1, rfl, hx1⟩, rfl⟩
          have hx1le := hx1.le (by omega)
          have HX1 := Lib.hid (fnd_plc base a b L index 0 0 x1 (by omega) (by omega) (by omega) (by omega) hx1)
          clear hx1
          go_wp2_with fail
          refine (find_ref a _ (by omega) index (-2) ad cap _ HLI.out).mono ?_
          rintro e w4 ⟨⟨x2, rfl, hx2⟩, rfl⟩
          have hx2le := hx2.le (by omega)
          have HX2 := Lib.hid (fnd_plc base a b L index 1 0 x2 (by omega) (by omega) (by omega) (by omega) hx2)
          clear hx2
          go_wp2_with fail
          refine (find_ref a _ (by omega) index 0 ad cap _ HLI.out).mono ?_
          rintro e w4 ⟨⟨x3, rfl, hx3⟩, rfl⟩
          have hx3le := hx3.le (by omega)
          have HX3 := Lib.hid (fnd_plc base a b L index 2 0 x3 (by omega) (by omega) (by omega) (by omega) (by rw [nameI_k (by omega)]; exact hx3))
          clear hx3
          go_wp2_with fail
          refine (at_any A (ar base a b L) HSM.out index _ _ HO3.out.z HO3.out.a).mono ?_
          rintro e w5 ⟨rfl, hb5⟩
          have HO5 := Lib.hid (HO3.out.next hb5)
          clear hb5 HO3
          go_wp2_with fail
          refine (from_any base x3 hx3le hb0 _).mono ?_
          rintro e w6 ⟨rfl, rfl⟩
          rw [HX3.out]
          generalize plc (ar base a b L) index 2 0 = P3
          have hP3 := beq_self_int P3
          go_wp2_with fail
          refine (link_any A (ar base a b L) HSM.out index _ HO5.out.z HO5.out.a).mono ?_
          rintro e w6 ⟨rfl, hb6⟩
          have HO6 := Lib.hid (HO5.out.next hb6)
          clear hb6 HO5
          go_wp2_with fail
          refine (from_any base x1 hx1le hb0 _).mono ?_
          rintro e w7 ⟨rfl, rfl⟩
          rw [HX1.out]
          generalize plc (ar base a b L) index 0 0 = P1
          have hP1 := beq_self_int P1
          go_wp2_with fail
          refine (birth_any A (ar base a b L) HSM.out index _ HO6.out.z HO6.out.a).mono ?_
          rintro e w7 ⟨rfl, hb7⟩
          have HO7 := Lib.hid (HO6.out.next hb7)
          clear hb7 HO6
          go_wp2_with fail
          refine (from_any base x2 hx2le hb0 _).mono ?_
          rintro e w8 ⟨rfl, rfl⟩
          rw [HX2.out]
          generalize plc (ar base a b L) index 1 0 = P2
          have hP2 := beq_self_int P2
          go_wp2_with fail
          refine (class_any A (ar base a b L) HSM.out index _ HO7.out.a HFN.out).mono ?_
          rintro e w8 ⟨rfl, hb8⟩
          have HO8 := Lib.hid (HO7.out.next hb8)
          clear hb8 HO7
          simp only [clsOf]
          go_wp2_with fail
          refine (known_any _ HO8.out.z).mono ?_
          rintro e wk ⟨rfl, hbk⟩
          have HBK := Lib.hid ((HO8.out.next hbk).b)
          clear hbk
          go_wp2
          go_returns
          exact ⟨rfl, HBK.out⟩
        · go_enter Tryd.func3, Tryd.ntmps3
          go_wp2_with fail
          refine (few_any a b _).mono ?_
          rintro e w1 ⟨rfl, rfl⟩
          rw [HF.out]
          go_wp2_with fail
          refine (refWords_any a b (by omega) (by omega) _).mono ?_
          rintro e w1 ⟨rfl, rfl⟩
          go_wp2_with fail
          refine (begin_any (base + (6 * (a : Int) + 10 * (b : Int))) base a b (by omega) (by omega) (by omega) (by omega) (by omega) _ hs).mono ?_
          rintro e w1 ⟨A, L, rfl, hN, hb1⟩
          have HO1 := Lib.hid (On.mk (hs.below hb1) (ar_eq hN) hb1)
          have HSM := Lib.hid (ar_sm (L := L) hb0 (show a ≤ 40 by omega) (show b ≤ 40 by omega))
          clear hN hb1
          go_wp2_with fail
          refine (lay_any a b (by omega) (by omega) _).mono ?_
          rintro e w3 ⟨v, rfl, hown, hb3⟩
          have HO3 := Lib.hid (HO1.out.next hb3)
          rw [upto_all] at hown
          obtain ⟨ad, cap, rfl, hlies⟩ := lies_of hown
          have HLI := Lib.hid hlies
          clear hb3 HO1 hown hlies
          go_wp2_with fail
          refine (find_ref a _ (by omega) index (-1) ad cap _ HLI.out).mono ?_
          rintro e w4 ⟨⟨x1, rfl, hx1⟩, rfl⟩
          have hx1le := hx1.le (by omega)
          have HX1 := Lib.hid (fnd_plc base a b L index 0 0 x1 (by omega) (by omega) (by omega) (by omega) hx1)
          clear hx1
          go_wp2_with fail
          refine (find_ref a _ (by omega) index (-2) ad cap _ HLI.out).mono ?_
          rintro e w4 ⟨⟨x2, rfl, hx2⟩, rfl⟩
          have hx2le := hx2.le (by omega)
          have HX2 := Lib.hid (fnd_plc base a b L index 1 0 x2 (by omega) (by omega) (by omega) (by omega) hx2)
          clear hx2
          go_wp2_with fail
          refine (find_ref a _ (by omega) index 1 ad cap _ HLI.out).mono ?_
          rintro e w4 ⟨⟨x3, rfl, hx3⟩, rfl⟩
          have hx3le := hx3.le (by omega)
          have HX3 := Lib.hid (fnd_plc base a b L index 2 1 x3 (by omega) (by omega) (by omega) (by omega) (by rw [nameI_k (by omega)]; exact hx3))
          clear hx3
          go_wp2_with fail
          refine (at_any A (ar base a b L) HSM.out index _ _ HO3.out.z HO3.out.a).mono ?_
          rintro e w5 ⟨rfl, hb5⟩
          have HO5 := Lib.hid (HO3.out.next hb5)
          clear hb5 HO3
          go_wp2_with fail
          refine (from_any base x3 hx3le hb0 _).mono ?_
          rintro e w6 ⟨rfl, rfl⟩
          rw [HX3.out]
          generalize plc (ar base a b L) index 2 1 = P3
          have hP3 := beq_self_int P3
          go_wp2_with fail
          refine (link_any A (ar base a b L) HSM.out index _ HO5.out.z HO5.out.a).mono ?_
          rintro e w6 ⟨rfl, hb6⟩
          have HO6 := Lib.hid (HO5.out.next hb6)
          clear hb6 HO5
          go_wp2_with fail
          refine (from_any base x1 hx1le hb0 _).mono ?_
          rintro e w7 ⟨rfl, rfl⟩
          rw [HX1.out]
          generalize plc (ar base a b L) index 0 0 = P1
          have hP1 := beq_self_int P1
          go_wp2_with fail
          refine (birth_any A (ar base a b L) HSM.out index _ HO6.out.z HO6.out.a).mono ?_
          rintro e w7 ⟨rfl, hb7⟩
          have HO7 := Lib.hid (HO6.out.next hb7)
          clear hb7 HO6
          go_wp2_with fail
          refine (from_any base x2 hx2le hb0 _).mono ?_
          rintro e w8 ⟨rfl, rfl⟩
          rw [HX2.out]
          generalize plc (ar base a b L) index 1 0 = P2
          have hP2 := beq_self_int P2
          go_wp2_with fail
          refine (class_any A (ar base a b L) HSM.out index _ HO7.out.a HFN.out).mono ?_
          rintro e w8 ⟨rfl, hb8⟩
          have HO8 := Lib.hid (HO7.out.next hb8)
          clear hb8 HO7
          simp only [clsOf]
          go_wp2_with fail
          refine (known_any _ HO8.out.z).mono ?_
          rintro e wk ⟨rfl, hbk⟩
          have HBK := Lib.hid ((HO8.out.next hbk).b)
          clear hbk
          go_wp2
          go_returns
          exact ⟨rfl, HBK.out⟩
        · have hk0 : (k == 0) = false := by rw [beq_eq_false_iff_ne]; omega
          have hk1 : (k == 1) = false := by rw [beq_eq_false_iff_ne]; omega
          go_enter Tryd.func3, Tryd.ntmps3
          go_wp2_with fail
          refine (few_any a b _).mono ?_
          rintro e w1 ⟨rfl, rfl⟩
          rw [HF.out]
          go_wp2_with fail
          refine (refWords_any a b (by omega) (by omega) _).mono ?_
          rintro e w1 ⟨rfl, rfl⟩
          go_wp2_with fail
          refine (begin_any (base + (6 * (a : Int) + 10 * (b : Int))) base a b (by omega) (by omega) (by omega) (by omega) (by omega) _ hs).mono ?_
          rintro e w1 ⟨A, L, rfl, hN, hb1⟩
          have HO1 := Lib.hid (On.mk (hs.below hb1) (ar_eq hN) hb1)
          have HSM := Lib.hid (ar_sm (L := L) hb0 (show a ≤ 40 by omega) (show b ≤ 40 by omega))
          clear hN hb1
          go_wp2_with fail
          refine (lay_any a b (by omega) (by omega) _).mono ?_
          rintro e w3 ⟨v, rfl, hown, hb3⟩
          have HO3 := Lib.hid (HO1.out.next hb3)
          rw [upto_all] at hown
          obtain ⟨ad, cap, rfl, hlies⟩ := lies_of hown
          have HLI := Lib.hid hlies
          clear hb3 HO1 hown hlies
          go_wp2_with fail
          refine (find_ref a _ (by omega) index (-1) ad cap _ HLI.out).mono ?_
          rintro e w4 ⟨⟨x1, rfl, hx1⟩, rfl⟩
          have hx1le := hx1.le (by omega)
          have HX1 := Lib.hid (fnd_plc base a b L index 0 0 x1 (by omega) (by omega) (by omega) (by omega) hx1)
          clear hx1
          go_wp2_with fail
          refine (find_ref a _ (by omega) index (-2) ad cap _ HLI.out).mono ?_
          rintro e w4 ⟨⟨x2, rfl, hx2⟩, rfl⟩
          have hx2le := hx2.le (by omega)
          have HX2 := Lib.hid (fnd_plc base a b L index 1 0 x2 (by omega) (by omega) (by omega) (by omega) hx2)
          clear hx2
          go_wp2_with fail
          refine (find_ref a _ (by omega) index k ad cap _ HLI.out).mono ?_
          rintro e w4 ⟨⟨x3, rfl, hx3⟩, rfl⟩
          have hx3le := hx3.le (by omega)
          have HX3 := Lib.hid (fnd_plc base a b L index 2 k x3 (by omega) (by omega) (by omega) (by omega) (by rw [nameI_k (by omega)]; exact hx3))
          clear hx3
          go_wp2_with fail
          refine (at_any A (ar base a b L) HSM.out index _ _ HO3.out.z HO3.out.a).mono ?_
          rintro e w5 ⟨rfl, hb5⟩
          have HO5 := Lib.hid (HO3.out.next hb5)
          clear hb5 HO3
          go_wp2_with fail
          refine (from_any base x3 hx3le hb0 _).mono ?_
          rintro e w6 ⟨rfl, rfl⟩
          rw [HX3.out]
          generalize plc (ar base a b L) index 2 k = P3
          have hP3 := beq_self_int P3
          go_wp2_with fail
          refine (link_any A (ar base a b L) HSM.out index _ HO5.out.z HO5.out.a).mono ?_
          rintro e w6 ⟨rfl, hb6⟩
          have HO6 := Lib.hid (HO5.out.next hb6)
          clear hb6 HO5
          go_wp2_with fail
          refine (from_any base x1 hx1le hb0 _).mono ?_
          rintro e w7 ⟨rfl, rfl⟩
          rw [HX1.out]
          generalize plc (ar base a b L) index 0 0 = P1
          have hP1 := beq_self_int P1
          go_wp2_with fail
          refine (birth_any A (ar base a b L) HSM.out index _ HO6.out.z HO6.out.a).mono ?_
          rintro e w7 ⟨rfl, hb7⟩
          have HO7 := Lib.hid (HO6.out.next hb7)
          clear hb7 HO6
          go_wp2_with fail
          refine (from_any base x2 hx2le hb0 _).mono ?_
          rintro e w8 ⟨rfl, rfl⟩
          rw [HX2.out]
          generalize plc (ar base a b L) index 1 0 = P2
          have hP2 := beq_self_int P2
          go_wp2_with fail
          refine (class_any A (ar base a b L) HSM.out index _ HO7.out.a HFN.out).mono ?_
          rintro e w8 ⟨rfl, hb8⟩
          have HO8 := Lib.hid (HO7.out.next hb8)
          clear hb8 HO7
          simp only [clsOf]
          go_wp2_with fail
          refine (cap_out A (ar base a b L) k (inB_not.2 (by omega)) _).mono ?_
          rintro e w9 ⟨rfl, hb9⟩
          have HO9 := Lib.hid (HO8.out.next hb9)
          clear hb9 HO8
          go_wp2_with fail
          refine (known_any _ HO9.out.z).mono ?_
          rintro e wk ⟨rfl, hbk⟩
          have HBK := Lib.hid ((HO9.out.next hbk).b)
          clear hbk
          go_wp2
          go_returns
          exact ⟨rfl, HBK.out⟩

end Go.Proofs.YtmolccpihmbniaaDoor
