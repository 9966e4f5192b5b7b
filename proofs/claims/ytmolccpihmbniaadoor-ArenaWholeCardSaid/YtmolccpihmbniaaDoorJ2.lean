/- The stage's theorem, walked: ArenaWhole answers true in whatever world; the table must read as the program lays it. -/
import Derived.Test.YtmolccpihmbniaaDoorJ1
namespace Go.Proofs.YtmolccpihmbniaaDoor
open Go.RowKit
set_option linter.unusedVariables false

theorem met_start (p own x : Nat) : decide (x < p) = metF p own (-2) x := by unfold metF; rw [decide_eq_decide]; omega
theorem met_a (p own x : Nat) : (if x = p + 1 then true else metF p own (-2) x) = metF p own (-1) x := by
  unfold metF; split
  · exact (decide_eq_true (by omega)).symm
  · rw [decide_eq_decide]; omega
theorem met_b (p own x : Nat) : (if x = p then true else metF p own (-1) x) = metF p own 0 x := by
  unfold metF; split
  · exact (decide_eq_true (by omega)).symm
  · rw [decide_eq_decide]; omega
theorem met_c (p own x : Nat) (z : Nat) (hz : z < own) : (if x = p + 2 + z then true else metF p own (z : Int) x) = metF p own ((z : Int) + 1) x := by
  unfold metF; split
  · exact (decide_eq_true (by omega)).symm
  · rw [decide_eq_decide]; omega
theorem met_d (p own x : Nat) (z : Int) (hz : (own : Int) ≤ z) : metF p own z x = metF p own (z + 1) x := by unfold metF; rw [decide_eq_decide]; omega
theorem met_end (p own x : Nat) (h : own ≤ 8) : metF p own 9 x = decide (x < p + 2 + own) := by unfold metF; rw [decide_eq_decide]; omega
theorem met_a0 (p own : Nat) : metF p own (-2) (p + 1) = false := by unfold metF; exact decide_eq_false (by omega)
theorem met_b0 (p own : Nat) : metF p own (-1) p = false := by unfold metF; exact decide_eq_false (by omega)
theorem met_c0 (p own z : Nat) : metF p own (z : Int) (p + 2 + z) = false := by unfold metF; exact decide_eq_false (by omega)

set_option maxHeartbeats 16000000 in
set_option maxRecDepth 100000 in
theorem law_whole (base a b : Int) (w : World) (hs : Sz w) :
    Calls Tryd.prog 5 #[.int .i64 base, .int .i64 a, .int .i64 b] w fun e w' => e = .returned (.bool true) ∧ Below w.heap.size w w' := by
  cases hf : fewB a b
  · have HF := Lib.hid hf
    clear hf
    go_enter Tryd.func5, Tryd.ntmps5
    go_wp2_with fail
    refine (few_any a b _).mono ?_
    rintro e w1 ⟨rfl, rfl⟩
    rw [HF.out]
    go_wp2_with fail
    refine (known_any _ hs).mono ?_
    rintro e wk ⟨rfl, hbk⟩
    have HBK := Lib.hid (hbk)
    clear hbk
    go_wp2
    go_returns
    exact ⟨rfl, HBK.out⟩
  · obtain ⟨ha, hb⟩ := few_yes hf
    have HF := Lib.hid hf
    clear hf
    by_cases hbase : base < 0 ∨ 1000 < base
    · rcases hbase with hbase | hbase
      all_goals
        go_enter Tryd.func5, Tryd.ntmps5
        go_wp2_with fail
        refine (few_any a b _).mono ?_
        rintro e w1 ⟨rfl, rfl⟩
        rw [HF.out]
        go_wp2_with fail
        refine (known_any _ hs).mono ?_
        rintro e wk ⟨rfl, hbk⟩
        have HBK := Lib.hid (hbk)
        clear hbk
        go_wp2
        go_returns
        exact ⟨rfl, HBK.out⟩
    · have hb0 : 0 ≤ base ∧ base ≤ 1000 := by omega
      clear hbase
      obtain ⟨a, rfl⟩ := Int.eq_ofNat_of_zero_le ha.1
      obtain ⟨b, rfl⟩ := Int.eq_ofNat_of_zero_le hb.1
      have hmk : ∀ w : World, (Instr.makeSlice 39 (.int .i64 (6 * (a : Int) + 10 * (b : Int))) (.int .i64 (6 * (a : Int) + 10 * (b : Int)))).run Tryd.prog w = .ok (.slice (some ⟨w.heap.size, 0, none⟩) (6 * a + 10 * b) (6 * a + 10 * b)) (w.alloc (.cells (madeCells #[.bool false] (6 * a + 10 * b)) 4)) := fun w => by
        have h := make_bools (6 * a + 10 * b) (by omega) w
        rw [show ((6 * a + 10 * b : Nat) : Int) = 6 * (a : Int) + 10 * (b : Int) by omega] at h
        exact h
      have hd0 : decide (base < 0) = false := by simp; omega
      have hd1 : decide ((1000 : Int) < base) = false := by simp; omega
      have h0w : 0 < w.heap.size := World.block_lt_of_cell? _ _ hs.1
      go_enter Tryd.func5, Tryd.ntmps5
      go_wp2_with fail
      refine (few_any a b _).mono ?_
      rintro e w1 ⟨rfl, rfl⟩
      rw [HF.out]
      go_wp2_with fail
      refine (refWords_any a b (by omega) (by omega) _).mono ?_
      rintro e w1 ⟨rfl, rfl⟩
      go_wp2_with fail
      refine (begin_any (base + (6 * (a : Int) + 10 * (b : Int))) base a b (by omega) (by omega) (by omega) (by omega) (by omega) _ hs).mono ?_
      rintro e w1 ⟨A, L, rfl, hN, hb1⟩
      have HM0 := Lib.hid (Mt.start (w := w) hN (hs.below hb1) hb1 (6 * a + 10 * b) h0w)
      have HSM := Lib.hid (ar_sm (L := L) hb0 (show a ≤ 40 by omega) (show b ≤ 40 by omega))
      clear hN hb1
      go_wp2_with fail
      clear hmk
      generalize w1.heap.size = M at HM0 ⊢
      generalize w1.alloc (.cells (madeCells #[.bool false] (6 * a + 10 * b)) 4) = w2 at HM0 ⊢
      go_loopw [11, 12] (fun cv iv wr => ∃ q : Nat, q ≤ a + b ∧ iv = .int .i64 ((q : Int) + 1) ∧ cv = .int .i64 ((upto a q : Nat) : Int) ∧ Hid (Mt w A (ar base a b L) M (6 * a + 10 * b) (fun x => decide (x < upto a q)) wr)) (fun _ iv _ => a + b + 1 - (intOf iv).toNat)
      case atStart => exact ⟨0, Nat.zero_le _, rfl, by simp [upto], Lib.hid (HM0.out.congr (fun x hx => by simp [upto]))⟩
      case round =>
        obtain ⟨q, hq, rfl, rfl, HQ⟩ := hrel
        by_cases hqt : q < a + b
        · have hqi : (q : Int) + 1 ≤ (a : Int) + (b : Int) := by omega
          have hup := upto_le a b q hqt
          have hol := own_le a (q + 1)
          have hog := own_ge a (q + 1)
          have HU := Lib.hid (upto_succ a q)
          generalize hO : ownOf a (q + 1) = own at hup hol hog HU
          generalize hP : upto a q = p at hup HU HQ ⊢
          have HO := Lib.hid hO
          have HP := Lib.hid hP
          clear hO hP
          go_wp2_with fail
          go_loopw [11, 13] (fun cv kv wr => ∃ z : Int, -2 ≤ z ∧ z ≤ 9 ∧ kv = .int .i64 z ∧ cv = .int .i64 ((p : Int) + min (z + 2) ((own : Int) + 2)) ∧ Hid (Mt w A (ar base a b L) M (6 * a + 10 * b) (metF p own z) wr)) (fun _ kv _ => (9 - intOf kv).toNat)
          case atStart => exact ⟨-2, by omega, by omega, rfl, by congr 1, Lib.hid (HQ.out.congr (fun x hx => met_start p own x))⟩
          case round =>
            obtain ⟨z, hz1, hz2, rfl, rfl, HZ⟩ := hrel
            generalize hcv : (p : Int) + min (z + 2) ((own : Int) + 2) = cv
            have hcb : 0 ≤ cv ∧ cv ≤ 1000 := by omega
            have HCV := Lib.hid hcv
            clear hcv
            have hzc : z = -2 ∨ z = -1 ∨ (0 ≤ z ∧ z < (own : Int)) ∨ ((own : Int) ≤ z ∧ z < 9) ∨ z = 9 := by omega
            rcases hzc with rfl | rfl | ⟨hz3, hz4⟩ | ⟨hz3, hz4⟩ | rfl
            · have HFA := Lib.hid (met_a0 p own)
              go_wp2_with fail
              refine (at_any A (ar base a b L) HSM.out _ _ _ HZ.out.on.z HZ.out.on.a).mono ?_
              rintro e w4 ⟨rfl, hb4⟩
              have HM4 := Lib.hid (HZ.out.below hb4)
              clear hb4 HZ
              rw [plc_neg _ _ _ (by omega)]
              go_wp2_with fail
              refine (birth_any A (ar base a b L) HSM.out _ _ HM4.out.on.z HM4.out.on.a).mono ?_
              rintro e w5 ⟨rfl, hb5⟩
              have HM := Lib.hid (HM4.out.below hb5)
              clear hb5 HM4
              rw [show plc (ar base a b L) ((q : Int) + 1) 1 0 = base + ((p + 1 : Nat) : Int) from by rw [plc_in base a b L q 1 0 hqt (by omega) (by omega) (by rw [HO.out]; omega), HP.out]; omega]
              have hyn : p + 1 < 6 * a + 10 * b := by omega
              have hof := of_at base a b L q 1 hqt (by rw [HO.out]; omega)
              rw [HP.out] at hof
              have HOF := Lib.hid hof
              clear hof
              generalize hy : p + 1 = y at HOF hyn HFA ⊢
              have HY := Lib.hid hy
              clear hy
              go_wp2_with fail
              refine (of_any A (ar base a b L) HSM.out (base + (y : Int)) _ HM.out.on.z HM.out.on.a).mono ?_
              rintro e w6 ⟨rfl, hb6⟩
              have HM6 := Lib.hid (HM.out.below hb6)
              clear hb6 HM
              rw [HOF.out.1, HOF.out.2.1, HOF.out.2.2, show nameI ((1 : Nat) : Int) = -2 from rfl]
              have cM := HM6.out.cell y hyn
              rw [HFA.out] at cM
              have fM := HM6.out.fr y
              have hsub : base + (y : Int) - base = y := by omega
              have hyb : ¬ (base + (y : Int) < base) := by omega
              have hyi : (y : Int) < 6 * (a : Int) + 10 * (b : Int) := by omega
              go_wp2_with fail
              have HM7 := HM6.out.set y hyn
              refine ⟨?_, ?_⟩
              · first
                  | exact ⟨-1, by omega, by omega, rfl, by have h := HCV.out; congr 1; omega, Lib.hid (HM7.congr (fun x hx => by rw [← HY.out]; exact met_a p own x))⟩
                  | ((repeat apply Exists.intro); refine ⟨?_, rfl⟩; exact ⟨-1, by omega, by omega, rfl, by have h := HCV.out; congr 1; omega, Lib.hid (HM7.congr (fun x hx => by rw [← HY.out]; exact met_a p own x))⟩)
              · first | (simp [intOf]; done) | (simp [intOf]; omega)
            · have HFA := Lib.hid (show metF p own (-1) (p + 0) = false from met_b0 p own)
              go_wp2_with fail
              refine (at_any A (ar base a b L) HSM.out _ _ _ HZ.out.on.z HZ.out.on.a).mono ?_
              rintro e w4 ⟨rfl, hb4⟩
              have HM4 := Lib.hid (HZ.out.below hb4)
              clear hb4 HZ
              rw [plc_neg _ _ _ (by omega)]
              go_wp2_with fail
              refine (link_any A (ar base a b L) HSM.out _ _ HM4.out.on.z HM4.out.on.a).mono ?_
              rintro e w5 ⟨rfl, hb5⟩
              have HM := Lib.hid (HM4.out.below hb5)
              clear hb5 HM4
              rw [show plc (ar base a b L) ((q : Int) + 1) 0 0 = base + ((p + 0 : Nat) : Int) from by rw [plc_in base a b L q 0 0 hqt (by omega) (by omega) (by rw [HO.out]; omega), HP.out]; omega]
              have hyn : p + 0 < 6 * a + 10 * b := by omega
              have hof := of_at base a b L q 0 hqt (by rw [HO.out]; omega)
              rw [HP.out] at hof
              have HOF := Lib.hid hof
              clear hof
              generalize hy : p + 0 = y at HOF hyn HFA ⊢
              have HY := Lib.hid hy
              clear hy
              go_wp2_with fail
              refine (of_any A (ar base a b L) HSM.out (base + (y : Int)) _ HM.out.on.z HM.out.on.a).mono ?_
              rintro e w6 ⟨rfl, hb6⟩
              have HM6 := Lib.hid (HM.out.below hb6)
              clear hb6 HM
              rw [HOF.out.1, HOF.out.2.1, HOF.out.2.2, show nameI ((0 : Nat) : Int) = -1 from rfl]
              have cM := HM6.out.cell y hyn
              rw [HFA.out] at cM
              have fM := HM6.out.fr y
              have hsub : base + (y : Int) - base = y := by omega
              have hyb : ¬ (base + (y : Int) < base) := by omega
              have hyi : (y : Int) < 6 * (a : Int) + 10 * (b : Int) := by omega
              go_wp2_with fail
              have HM7 := HM6.out.set y hyn
              refine ⟨?_, ?_⟩
              · first
                  | exact ⟨0, by omega, by omega, rfl, by have h := HCV.out; congr 1; omega, Lib.hid (HM7.congr (fun x hx => by rw [← HY.out]; exact met_b p own x))⟩
                  | ((repeat apply Exists.intro); refine ⟨?_, rfl⟩; exact ⟨0, by omega, by omega, rfl, by have h := HCV.out; congr 1; omega, Lib.hid (HM7.congr (fun x hx => by rw [← HY.out]; exact met_b p own x))⟩)
              · first | (simp [intOf]; done) | (simp [intOf]; omega)
            · obtain ⟨z, rfl⟩ := Int.eq_ofNat_of_zero_le hz3
              have HFA := Lib.hid (met_c0 p own z)
              have hzm1 : ((z : Int) == -1) = false := by rw [beq_eq_false_iff_ne]; omega
              have hzm2 : ((z : Int) == -2) = false := by rw [beq_eq_false_iff_ne]; omega
              have hz9 : (z : Int) < 9 := by omega
              go_wp2_with fail
              refine (at_any A (ar base a b L) HSM.out _ _ _ HZ.out.on.z HZ.out.on.a).mono ?_
              rintro e w4 ⟨rfl, hb4⟩
              have HM := Lib.hid (HZ.out.below hb4)
              clear hb4 HZ
              rw [show plc (ar base a b L) ((q : Int) + 1) 2 (z : Int) = base + ((p + 2 + z : Nat) : Int) from by rw [plc_in base a b L q 2 z hqt (by omega) (by omega) (by rw [HO.out]; omega), HP.out]; omega]
              have hyn : p + 2 + z < 6 * a + 10 * b := by omega
              have hof := of_at base a b L q (z + 2) hqt (by rw [HO.out]; omega)
              rw [HP.out, show p + (z + 2) = p + 2 + z by omega] at hof
              have HOF := Lib.hid hof
              clear hof
              generalize hy : p + 2 + z = y at HOF hyn HFA ⊢
              have HY := Lib.hid hy
              clear hy
              go_wp2_with fail
              refine (of_any A (ar base a b L) HSM.out (base + (y : Int)) _ HM.out.on.z HM.out.on.a).mono ?_
              rintro e w6 ⟨rfl, hb6⟩
              have HM6 := Lib.hid (HM.out.below hb6)
              clear hb6 HM
              rw [HOF.out.1, HOF.out.2.1, HOF.out.2.2, nameI_2]
              have cM := HM6.out.cell y hyn
              rw [HFA.out] at cM
              have fM := HM6.out.fr y
              have hsub : base + (y : Int) - base = y := by omega
              have hyb : ¬ (base + (y : Int) < base) := by omega
              have hyi : (y : Int) < 6 * (a : Int) + 10 * (b : Int) := by omega
              go_wp2_with fail
              have HM7 := HM6.out.set y hyn
              refine ⟨?_, ?_⟩
              · first
                  | exact ⟨(z : Int) + 1, by omega, by omega, rfl, by have h := HCV.out; congr 1; omega, Lib.hid (HM7.congr (fun x hx => by rw [← HY.out]; exact met_c p own x z (by omega)))⟩
                  | ((repeat apply Exists.intro); refine ⟨?_, rfl⟩; exact ⟨(z : Int) + 1, by omega, by omega, rfl, by have h := HCV.out; congr 1; omega, Lib.hid (HM7.congr (fun x hx => by rw [← HY.out]; exact met_c p own x z (by omega)))⟩)
              · first | (simp [intOf]; done) | (simp [intOf]; omega)
            · have hzm1 : (z == -1) = false := by rw [beq_eq_false_iff_ne]; omega
              have hzm2 : (z == -2) = false := by rw [beq_eq_false_iff_ne]; omega
              go_wp2_with fail
              refine (at_any A (ar base a b L) HSM.out _ _ _ HZ.out.on.z HZ.out.on.a).mono ?_
              rintro e w4 ⟨rfl, hb4⟩
              have HM := Lib.hid (HZ.out.below hb4)
              clear hb4 HZ
              rw [plc_far base a b L q z hqt (by rw [HO.out]; exact hz3)]
              go_wp2_with fail
              refine ⟨?_, ?_⟩
              · first
                  | exact ⟨z + 1, by omega, by omega, rfl, by have h := HCV.out; congr 1; omega, Lib.hid (HM.out.congr (fun x hx => met_d p own x z hz3))⟩
                  | ((repeat apply Exists.intro); refine ⟨?_, rfl⟩; exact ⟨z + 1, by omega, by omega, rfl, by have h := HCV.out; congr 1; omega, Lib.hid (HM.out.congr (fun x hx => met_d p own x z hz3))⟩)
              · first | (simp [intOf]; done) | (simp [intOf]; omega)
            · go_wp2_with fail
              refine ⟨?_, ?_⟩
              · first
                  | exact ⟨q + 1, by omega, by simp, by have h := HCV.out; rw [HU.out]; congr 1; omega, Lib.hid (HZ.out.congr (fun x hx => by rw [HU.out]; exact met_end p own x (by omega)))⟩
                  | ((repeat apply Exists.intro); refine ⟨?_, rfl⟩; exact ⟨q + 1, by omega, by simp, by have h := HCV.out; rw [HU.out]; congr 1; omega, Lib.hid (HZ.out.congr (fun x hx => by rw [HU.out]; exact met_end p own x (by omega)))⟩)
              · first | (simp [intOf]; done) | (simp [intOf]; omega)
        · have hqe : q = a + b := by omega
          subst hqe
          have hqd : decide (((a + b : Nat) : Int) + 1 ≤ (a : Int) + (b : Int)) = false := by simp; omega
          have hqn : ¬ (((a + b : Nat) : Int) + 1 ≤ (a : Int) + (b : Int)) := by omega
          rw [upto_all, show ((6 * a + 10 * b : Nat) : Int) = 6 * (a : Int) + 10 * (b : Int) by omega]
          go_wp2_with fail
          refine (known_any _ HQ.out.on.z).mono ?_
          rintro e wk ⟨rfl, hbk⟩
          have HBK := Lib.hid (HQ.out.on.next hbk).b
          clear hbk
          go_wp2
          go_returns
          exact ⟨rfl, HBK.out⟩

end Go.Proofs.YtmolccpihmbniaaDoor
