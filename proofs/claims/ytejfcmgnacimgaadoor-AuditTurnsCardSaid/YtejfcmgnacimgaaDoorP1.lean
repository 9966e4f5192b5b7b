/- AuditPlaces answers true, in whatever world: the walk. -/
import Derived.Test.YtejfcmgnacimgaaDoorL1
import Derived.Test.YtejfcmgnacimgaaDoorN2
namespace Go.Proofs.YtejfcmgnacimgaaDoor
open Go.RowKit Go.ChangeMaps
set_option linter.unusedVariables false
set_option linter.unusedSimpArgs false

theorem WAt.below {W m : Nat} {B a b : Int} {w w' : World} (h : WAt W B a b m w) (hb : Below w.heap.size w w') : WAt W B a b m w' := by
  obtain ⟨ad, cap, c4⟩ := h.c4
  exact ⟨keep hb h.c1, keep hb h.c2, ⟨ad, cap, keep hb c4⟩, h.hB, h.ha, h.hb, h.hm⟩
theorem plc_lo {B a b i : Int} (h : i < 1) : plcS B a b i = -1 := by unfold plcS; rw [if_pos h]
theorem plc_hi {B a b i : Int} (ha : 0 ≤ a) (hb : 0 ≤ b) (h : a + b < i) : plcS B a b i = -1 := by unfold plcS; rw [if_neg (by omega), if_neg (by omega), if_neg (by omega)]
theorem plc_in {B a b i : Int} (h1 : 1 ≤ i) (h : i ≤ a + b) : plcS B a b i = begW B a i + 2 := by
  unfold plcS begW
  rw [if_neg (by omega)]
  split <;> split <;> (try split) <;> omega

set_option maxHeartbeats 8000000 in
set_option maxRecDepth 100000 in
theorem law_places (T B a b p i : Int) (hp : -9223372036854775808 ≤ p ∧ p ≤ 9223372036854775807) (hi : -9223372036854775808 ≤ i ∧ i ≤ 9223372036854775807) (w : World) (hz : Sz w) :
    Calls Tryd.prog 3 #[facts T B a b, .int .i64 p, .int .i64 i] w fun x w' => x = .returned (.bool true) ∧ Below w.heap.size w w' := by
  have hb0 : Below w.heap.size w (w.alloc (.cells #[.int .i64 T, .int .i64 B, .int .i64 a, .int .i64 b] 24)) := by go_grown
  have f0 : (w.alloc (.cells #[.int .i64 T, .int .i64 B, .int .i64 a, .int .i64 b] 24)).cell? ⟨w.heap.size, 0, none⟩ = some (.int .i64 T) := by simp [go_sem]
  have f1 : (w.alloc (.cells #[.int .i64 T, .int .i64 B, .int .i64 a, .int .i64 b] 24)).cell? ⟨w.heap.size, 1, none⟩ = some (.int .i64 B) := by simp [go_sem]
  have f2 : (w.alloc (.cells #[.int .i64 T, .int .i64 B, .int .i64 a, .int .i64 b] 24)).cell? ⟨w.heap.size, 2, none⟩ = some (.int .i64 a) := by simp [go_sem]
  have f3 : (w.alloc (.cells #[.int .i64 T, .int .i64 B, .int .i64 a, .int .i64 b] 24)).cell? ⟨w.heap.size, 3, none⟩ = some (.int .i64 b) := by simp [go_sem]
  have HSM := fun w => small_any T B a b w
  have HZ := Lib.hid hz
  have HB := Lib.hid hb0
  cases hs : smallB T B a b
  · have HS := Lib.hid hs
    clear hb0 hs hp hi
    unfold facts at HSM ⊢
    go_enter Tryd.func3, Tryd.ntmps3
    go_wp2_with fail
    refine (HSM _).mono ?_
    rintro x w1 ⟨rfl, hb1⟩
    rw [HS.out]
    have HB1 := Lib.hid (HB.out.trans (hb1.mono HB.out.size))
    clear hb1 HSM f0 f1 f2 f3
    go_wp2_with fail
    refine (known_any _ (HZ.out.below HB1.out)).mono ?_
    rintro x w2 ⟨rfl, hb2⟩
    have HB2 := Lib.hid (HB1.out.trans (hb2.mono HB1.out.size))
    clear hb2
    go_wp2
    go_returns
    exact ⟨rfl, HB2.out⟩
  · have HS := Lib.hid hs
    obtain ⟨hT, ha, hb, hB0, hB1⟩ := small_yes hs
    obtain ⟨x, hx⟩ : ∃ x, clamp a 4096 = x := ⟨_, rfl⟩
    obtain ⟨y, hy⟩ : ∃ y, clamp b 4096 = y := ⟨_, rfl⟩
    have hx0 : 0 ≤ x ∧ x ≤ 20 := by rcases clamp_two a ha with ⟨_, e⟩ | ⟨_, e⟩ <;> omega
    have hy0 : 0 ≤ y ∧ y ≤ 20 := by rcases clamp_two b hb with ⟨_, e⟩ | ⟨_, e⟩ <;> omega
    obtain ⟨m, hm⟩ : ∃ m : Nat, (m : Int) = x + y := ⟨(x + y).toNat, by omega⟩
    have HNW := fun w => refNew_any T B a b x y hT ⟨hB0, hB1⟩ ha hb hx hy m hm w
    have HSL := fun w hz => slot_any T B a b p ⟨hB0, hB1⟩ hp w hz
    have HPL := fun w hz => place_any T B a b i ⟨hB0, hB1⟩ hi w hz
    rw [hx, hy] at HSL HPL
    have HFD := fun W w h => find_any W B x y m p hp w h
    have HBG := fun W n hn w h => begin_any W B x y m n hn w h
    clear hb0 hs hp hx hy
    unfold facts at HSM HNW HSL HPL ⊢
    generalize (fndS B x y p).1 = q1 at HSL HFD
    generalize (fndS B x y p).2 = q2 at HSL HFD
    have hcase : i < 1 ∨ (m : Int) < i ∨ ∃ n : Nat, (n : Int) = i ∧ 1 ≤ n ∧ n ≤ m := by
      by_cases h1 : i < 1
      · exact Or.inl h1
      · by_cases h2 : (m : Int) < i
        · exact Or.inr (Or.inl h2)
        · exact Or.inr (Or.inr ⟨i.toNat, by omega, by omega, by omega⟩)
    rcases hcase with h1 | h2 | ⟨n, rfl, hn1, hn2⟩
    · rw [plc_lo h1] at HPL
      have d1 : decide (1 ≤ i) = false := by simp; omega
      clear h1 hm hx0 hy0 HBG hT ha hb hB0 hB1 hi
      go_enter Tryd.func3, Tryd.ntmps3
      go_wp2_with fail
      refine (HSM _).mono ?_
      rintro x w1 ⟨rfl, hb1⟩
      rw [HS.out]
      have g0 := keep hb1 f0
      have g1 := keep hb1 f1
      have g2 := keep hb1 f2
      have g3 := keep hb1 f3
      have HB1 := Lib.hid (HB.out.trans (hb1.mono HB.out.size))
      clear hb1 HSM f0 f1 f2 f3
      go_wp2_with fail
      refine (HNW _).mono ?_
      rintro x w2 ⟨W, rfl, hwa, hb2⟩
      have f0 := keep hb2 g0
      have f1 := keep hb2 g1
      have f2 := keep hb2 g2
      have f3 := keep hb2 g3
      have HB2 := Lib.hid (HB1.out.trans (hb2.mono HB1.out.size))
      have HWA := Lib.hid hwa
      clear hb2 HNW g0 g1 g2 g3 hwa
      go_wp2_with fail
      refine (HSL _ (HZ.out.below HB2.out)).mono ?_
      rintro x w3 ⟨rfl, hb3⟩
      have g0 := keep hb3 f0
      have g1 := keep hb3 f1
      have g2 := keep hb3 f2
      have g3 := keep hb3 f3
      have HB3 := Lib.hid (HB2.out.trans (hb3.mono HB2.out.size))
      have HWA3 := Lib.hid (HWA.out.below hb3)
      clear hb3 HSL f0 f1 f2 f3
      go_wp2_with fail
      refine (HFD W _ HWA3.out).mono ?_
      rintro x w4 ⟨rfl, rfl⟩
      go_wp2_with fail
      refine (HPL _ (HZ.out.below HB3.out)).mono ?_
      rintro x w5 ⟨rfl, hb5⟩
      have HB5 := Lib.hid (HB3.out.trans (hb5.mono HB3.out.size))
      clear hb5
      go_wp2_with fail
      refine (known_any _ (HZ.out.below HB5.out)).mono ?_
      rintro x w6 ⟨rfl, hb6⟩
      have HB6 := Lib.hid (HB5.out.trans (hb6.mono HB5.out.size))
      clear hb6
      go_wp2
      go_returns
      exact ⟨rfl, HB6.out⟩
    · rw [plc_hi hx0.1 hy0.1 (by omega)] at HPL
      have d1 : decide (1 ≤ i) = true := by simp; omega
      have d2 : decide (i ≤ (m : Int)) = false := by simp; omega
      have d3 : 1 ≤ i := by omega
      clear hm hx0 hy0 HBG hT ha hb hB0 hB1 hi
      go_enter Tryd.func3, Tryd.ntmps3
      go_wp2_with fail
      refine (HSM _).mono ?_
      rintro x w1 ⟨rfl, hb1⟩
      rw [HS.out]
      have g0 := keep hb1 f0
      have g1 := keep hb1 f1
      have g2 := keep hb1 f2
      have g3 := keep hb1 f3
      have HB1 := Lib.hid (HB.out.trans (hb1.mono HB.out.size))
      clear hb1 HSM f0 f1 f2 f3
      go_wp2_with fail
      refine (HNW _).mono ?_
      rintro x w2 ⟨W, rfl, hwa, hb2⟩
      have f0 := keep hb2 g0
      have f1 := keep hb2 g1
      have f2 := keep hb2 g2
      have f3 := keep hb2 g3
      have HB2 := Lib.hid (HB1.out.trans (hb2.mono HB1.out.size))
      have HWA := Lib.hid hwa
      clear hb2 HNW g0 g1 g2 g3 hwa
      go_wp2_with fail
      refine (HSL _ (HZ.out.below HB2.out)).mono ?_
      rintro x w3 ⟨rfl, hb3⟩
      have g0 := keep hb3 f0
      have g1 := keep hb3 f1
      have g2 := keep hb3 f2
      have g3 := keep hb3 f3
      have HB3 := Lib.hid (HB2.out.trans (hb3.mono HB2.out.size))
      have HWA3 := Lib.hid (HWA.out.below hb3)
      clear hb3 HSL f0 f1 f2 f3
      go_wp2_with fail
      refine (HFD W _ HWA3.out).mono ?_
      rintro x w4 ⟨rfl, rfl⟩
      obtain ⟨ad, cap, c4⟩ := HWA3.out.c4
      go_wp2_with fail
      refine (HPL _ (HZ.out.below HB3.out)).mono ?_
      rintro x w5 ⟨rfl, hb5⟩
      have HB5 := Lib.hid (HB3.out.trans (hb5.mono HB3.out.size))
      clear hb5
      go_wp2_with fail
      refine (known_any _ (HZ.out.below HB5.out)).mono ?_
      rintro x w6 ⟨rfl, hb6⟩
      have HB6 := Lib.hid (HB5.out.trans (hb6.mono HB5.out.size))
      clear hb6
      go_wp2
      go_returns
      exact ⟨rfl, HB6.out⟩
    · rw [plc_in (by omega) (by omega)] at HPL
      have d1 : decide (1 ≤ (n : Int)) = true := by simp; omega
      have d2 : decide ((n : Int) ≤ (m : Int)) = true := by simp; omega
      have d3 : 1 ≤ (n : Int) := by omega
      have d4 : (n : Int) ≤ (m : Int) := by omega
      obtain ⟨b0, b1⟩ := begW_bd (i := n) ⟨hB0, hB1⟩ hx0 (by omega)
      clear hm hx0 hy0 hT ha hb hB0 hB1 hi
      go_enter Tryd.func3, Tryd.ntmps3
      go_wp2_with fail
      refine (HSM _).mono ?_
      rintro x w1 ⟨rfl, hb1⟩
      rw [HS.out]
      have g0 := keep hb1 f0
      have g1 := keep hb1 f1
      have g2 := keep hb1 f2
      have g3 := keep hb1 f3
      have HB1 := Lib.hid (HB.out.trans (hb1.mono HB.out.size))
      clear hb1 HSM f0 f1 f2 f3
      go_wp2_with fail
      refine (HNW _).mono ?_
      rintro x w2 ⟨W, rfl, hwa, hb2⟩
      have f0 := keep hb2 g0
      have f1 := keep hb2 g1
      have f2 := keep hb2 g2
      have f3 := keep hb2 g3
      have HB2 := Lib.hid (HB1.out.trans (hb2.mono HB1.out.size))
      have HWA := Lib.hid hwa
      clear hb2 HNW g0 g1 g2 g3 hwa
      go_wp2_with fail
      refine (HSL _ (HZ.out.below HB2.out)).mono ?_
      rintro x w3 ⟨rfl, hb3⟩
      have g0 := keep hb3 f0
      have g1 := keep hb3 f1
      have g2 := keep hb3 f2
      have g3 := keep hb3 f3
      have HB3 := Lib.hid (HB2.out.trans (hb3.mono HB2.out.size))
      have HWA3 := Lib.hid (HWA.out.below hb3)
      clear hb3 HSL f0 f1 f2 f3
      go_wp2_with fail
      refine (HFD W _ HWA3.out).mono ?_
      rintro x w4 ⟨rfl, rfl⟩
      obtain ⟨ad, cap, c4⟩ := HWA3.out.c4
      go_wp2_with fail
      refine (HBG W n ⟨hn1, hn2⟩ _ HWA3.out).mono ?_
      rintro x w4b ⟨rfl, rfl⟩
      go_wp2_with fail
      refine (HPL _ (HZ.out.below HB3.out)).mono ?_
      rintro x w5 ⟨rfl, hb5⟩
      have HB5 := Lib.hid (HB3.out.trans (hb5.mono HB3.out.size))
      clear hb5
      go_wp2_with fail
      refine (known_any _ (HZ.out.below HB5.out)).mono ?_
      rintro x w6 ⟨rfl, hb6⟩
      have HB6 := Lib.hid (HB5.out.trans (hb6.mono HB5.out.size))
      clear hb6
      go_wp2
      go_returns
      exact ⟨rfl, HB6.out⟩
end Go.Proofs.YtejfcmgnacimgaaDoor
