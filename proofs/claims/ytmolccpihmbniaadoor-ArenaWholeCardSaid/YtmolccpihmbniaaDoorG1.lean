/- The laws ArenaOf and ArenaPlaces answer true in whatever world; the table must read as the program lays it. -/
import Derived.Test.YtmolccpihmbniaaDoorF1
namespace Go.Proofs.YtmolccpihmbniaaDoor
open Go.RowKit
set_option linter.unusedVariables false

set_option maxHeartbeats 400000 in
theorem refWords_any (a b : Nat) (ha : a ≤ 40) (hb : b ≤ 40) (w : World) :
    Calls Tryd.prog 12 #[.int .i64 a, .int .i64 b] w fun e w' => e = .returned (.int .i64 (6 * (a : Int) + 10 * (b : Int))) ∧ w = w' := by
  have h4 : (b : Int) ≤ 4096 := by omega
  have h5 : (a : Int) ≤ 4096 := by omega
  go_enter Tryd.func12, Tryd.ntmps12
  go_wp2
  all_goals go_returns
  all_goals exact ⟨rfl, rfl⟩

set_option maxHeartbeats 400000 in
theorem from_any (base x : Int) (hx : x ≤ 100000) (hb : 0 ≤ base ∧ base ≤ 1000) (w : World) :
    Calls Tryd.prog 16 #[.int .i64 base, .int .i64 x] w fun e w' => e = .returned (.int .i64 (fromI base x)) ∧ w = w' := by
  unfold fromI
  by_cases h : x < 0
  · rw [if_pos h]
    go_enter Tryd.func16, Tryd.ntmps16
    go_wp2
    go_returns
    exact ⟨rfl, rfl⟩
  · rw [if_neg h]
    have h' : 0 ≤ x := by omega
    clear h
    go_enter Tryd.func16, Tryd.ntmps16
    go_wp2
    go_returns
    exact ⟨rfl, rfl⟩

theorem ar_eq {base : Int} {a b : Nat} {A L : Nat} {lo : Nat} {w : World} (h : New lo base a b A L w) : At A (ar base a b L) w := h.at_

set_option maxHeartbeats 8000000 in
set_option maxRecDepth 100000 in
theorem law_of (base a b x : Int) (hx : x < 9223372036854775808) (w : World) (hs : Sz w) :
    Calls Tryd.prog 4 #[.int .i64 base, .int .i64 a, .int .i64 b, .int .i64 x] w fun e w' => e = .returned (.bool true) ∧ Below w.heap.size w w' := by
  cases hf : fewB a b
  · have HF := Lib.hid hf
    clear hf
    go_enter Tryd.func4, Tryd.ntmps4
    go_wp2_with fail
    refine (few_any a b _).mono ?_
    rintro e w1 ⟨rfl, rfl⟩
    rw [HF.out]
    go_wp2_with fail
    refine (known_any _ hs).mono ?_
    rintro e wk ⟨rfl, hbk⟩
    have HBK := Lib.hid (hbk)
    clear hbk
    go_wp2
    go_returns
    exact ⟨rfl, HBK.out⟩
  · obtain ⟨ha, hb⟩ := few_yes hf
    have HF := Lib.hid hf
    clear hf
    by_cases hbase : base < 0 ∨ 1000 < base
    · rcases hbase with hbase | hbase
      all_goals
        go_enter Tryd.func4, Tryd.ntmps4
        go_wp2_with fail
        refine (few_any a b _).mono ?_
        rintro e w1 ⟨rfl, rfl⟩
        rw [HF.out]
        go_wp2_with fail
        refine (known_any _ hs).mono ?_
        rintro e wk ⟨rfl, hbk⟩
        have HBK := Lib.hid (hbk)
        clear hbk
        go_wp2
        go_returns
        exact ⟨rfl, HBK.out⟩
    · have hb0 : 0 ≤ base ∧ base ≤ 1000 := by omega
      clear hbase
      obtain ⟨a, rfl⟩ := Int.eq_ofNat_of_zero_le ha.1
      obtain ⟨b, rfl⟩ := Int.eq_ofNat_of_zero_le hb.1
      have hcase : x < base ∨ (base ≤ x ∧ 6 * (a : Int) + 10 * b ≤ x - base) ∨ ∃ p : Nat, p < 6 * a + 10 * b ∧ x = base + p := by
        by_cases h1 : x < base
        · exact .inl h1
        · by_cases h2 : 6 * (a : Int) + 10 * b ≤ x - base
          · exact .inr (.inl ⟨by omega, h2⟩)
          · exact .inr (.inr ⟨(x - base).toNat, by omega, by omega⟩)
      rcases hcase with hc | hc | ⟨p, hp, rfl⟩
      · go_enter Tryd.func4, Tryd.ntmps4
        go_wp2_with fail
        refine (few_any a b _).mono ?_
        rintro e w1 ⟨rfl, rfl⟩
        rw [HF.out]
        go_wp2_with fail
        refine (refWords_any a b (by omega) (by omega) _).mono ?_
        rintro e w1 ⟨rfl, rfl⟩
        go_wp2_with fail
        refine (begin_any (base + (6 * (a : Int) + 10 * (b : Int))) base a b (by omega) (by omega) (by omega) (by omega) (by omega) _ hs).mono ?_
        rintro e w1 ⟨A, L, rfl, hN, hb1⟩
        have HO1 := Lib.hid (On.mk (hs.below hb1) (ar_eq hN) hb1)
        have HSM := Lib.hid (ar_sm (L := L) hb0 (show a ≤ 40 by omega) (show b ≤ 40 by omega))
        clear hN hb1
        go_wp2_with fail
        refine (of_any A (ar base a b L) HSM.out x _ HO1.out.z HO1.out.a).mono ?_
        rintro e w2 ⟨rfl, hb2⟩
        have HO2 := Lib.hid (HO1.out.next hb2)
        have hofs := of_out base a b L x (by omega)
        rw [hofs.1, hofs.2.1, hofs.2.2]
        clear hb2 HO1 hofs
        go_wp2_with fail
        refine (lay_any a b (by omega) (by omega) _).mono ?_
        rintro e w3 ⟨v, rfl, hown, hb3⟩
        have HO3 := Lib.hid (HO2.out.next hb3)
        rw [upto_all] at hown
        obtain ⟨ad, cap, rfl, hlies⟩ := lies_of hown
        clear hb3 HO2 hown
        go_wp2_with fail
        refine (known_any _ HO3.out.z).mono ?_
        rintro e wk ⟨rfl, hbk⟩
        have HBK := Lib.hid ((HO3.out.next hbk).b)
        clear hbk
        go_wp2
        go_returns
        exact ⟨rfl, HBK.out⟩
      · obtain ⟨hc1, hc2⟩ := hc
        go_enter Tryd.func4, Tryd.ntmps4
        go_wp2_with fail
        refine (few_any a b _).mono ?_
        rintro e w1 ⟨rfl, rfl⟩
        rw [HF.out]
        go_wp2_with fail
        refine (refWords_any a b (by omega) (by omega) _).mono ?_
        rintro e w1 ⟨rfl, rfl⟩
        go_wp2_with fail
        refine (begin_any (base + (6 * (a : Int) + 10 * (b : Int))) base a b (by omega) (by omega) (by omega) (by omega) (by omega) _ hs).mono ?_
        rintro e w1 ⟨A, L, rfl, hN, hb1⟩
        have HO1 := Lib.hid (On.mk (hs.below hb1) (ar_eq hN) hb1)
        have HSM := Lib.hid (ar_sm (L := L) hb0 (show a ≤ 40 by omega) (show b ≤ 40 by omega))
        clear hN hb1
        go_wp2_with fail
        refine (of_any A (ar base a b L) HSM.out x _ HO1.out.z HO1.out.a).mono ?_
        rintro e w2 ⟨rfl, hb2⟩
        have HO2 := Lib.hid (HO1.out.next hb2)
        have hofs := of_out base a b L x (by omega)
        rw [hofs.1, hofs.2.1, hofs.2.2]
        clear hb2 HO1 hofs
        go_wp2_with fail
        refine (lay_any a b (by omega) (by omega) _).mono ?_
        rintro e w3 ⟨v, rfl, hown, hb3⟩
        have HO3 := Lib.hid (HO2.out.next hb3)
        rw [upto_all] at hown
        obtain ⟨ad, cap, rfl, hlies⟩ := lies_of hown
        clear hb3 HO2 hown
        go_wp2_with fail
        refine (known_any _ HO3.out.z).mono ?_
        rintro e wk ⟨rfl, hbk⟩
        have HBK := Lib.hid ((HO3.out.next hbk).b)
        clear hbk
        go_wp2
        go_returns
        exact ⟨rfl, HBK.out⟩
      · go_enter Tryd.func4, Tryd.ntmps4
        go_wp2_with fail
        refine (few_any a b _).mono ?_
        rintro e w1 ⟨rfl, rfl⟩
        rw [HF.out]
        go_wp2_with fail
        refine (refWords_any a b (by omega) (by omega) _).mono ?_
        rintro e w1 ⟨rfl, rfl⟩
        go_wp2_with fail
        refine (begin_any (base + (6 * (a : Int) + 10 * (b : Int))) base a b (by omega) (by omega) (by omega) (by omega) (by omega) _ hs).mono ?_
        rintro e w1 ⟨A, L, rfl, hN, hb1⟩
        have HO1 := Lib.hid (On.mk (hs.below hb1) (ar_eq hN) hb1)
        have HSM := Lib.hid (ar_sm (L := L) hb0 (show a ≤ 40 by omega) (show b ≤ 40 by omega))
        clear hN hb1
        go_wp2_with fail
        refine (of_any A (ar base a b L) HSM.out _ _ HO1.out.z HO1.out.a).mono ?_
        rintro e w2 ⟨rfl, hb2⟩
        have HO2 := Lib.hid (HO1.out.next hb2)
        have hofs := of_in base a b L p hp
        rw [hofs.1, hofs.2.1, hofs.2.2]
        clear hb2 HO1 hofs
        go_wp2_with fail
        refine (lay_any a b (by omega) (by omega) _).mono ?_
        rintro e w3 ⟨v, rfl, hown, hb3⟩
        have HO3 := Lib.hid (HO2.out.next hb3)
        rw [upto_all] at hown
        obtain ⟨ad, cap, rfl, hlies⟩ := lies_of hown
        clear hb3 HO2 hown
        obtain ⟨g, rfl, c0, c1⟩ := hlies.c p hp
        clear hlies
        have hsub : base + (p : Int) - base = p := by omega
        go_wp2_with fail
        refine (known_any _ HO3.out.z).mono ?_
        rintro e wk ⟨rfl, hbk⟩
        have HBK := Lib.hid ((HO3.out.next hbk).b)
        clear hbk
        go_wp2
        go_returns
        exact ⟨rfl, HBK.out⟩

end Go.Proofs.YtmolccpihmbniaaDoor
