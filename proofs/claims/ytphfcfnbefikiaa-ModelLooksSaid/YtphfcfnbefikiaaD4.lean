/- Copy, Same; objects that are not there. -/
import Derived.Test.YtphfcfnbefikiaaD3
import Derived.Test.YtphfcfnbefikiaaS1
namespace Go.Proofs.Ytphfcfnbefikiaa
open Go.RowKit Go.Shelf
set_option linter.unusedVariables false
set_option linter.unusedSimpArgs false

set_option maxHeartbeats 4000000 in
theorem copy_any {X H : Nat} {v : Value} {c : Int} {L : List Th} (w : World) (hO : Ob w X H v c L) (hLn : L.length ≤ 1000) :
    Calls Try.prog 20 #[P X] w fun e w' => ∃ X', e = .returned (P X') ∧ Made w c L w' X' := by
  have MIS := Lib.hid (missing_at w hO.c1)
  obtain ⟨ad, cap, rfl, _⟩ := hO.sl.form
  obtain ⟨m, hL⟩ : ∃ m, L.length = m := ⟨_, rfl⟩
  have hsl := hO.sl
  have c0 := hO.c0
  have c1 := hO.c1
  have hv := hO.hv
  have hX := hO.ltX
  rw [hL] at hsl hv hLn
  have CLO := Lib.hid (clone_any w hsl hL hLn)
  have HL := Lib.hid hL
  clear hsl hL hO
  go_enter Try.func20, Try.ntmps20
  go_wp2_with fail
  refine MIS.out.mono ?_
  rintro e w1 ⟨rfl, rfl⟩
  go_wp2_with fail
  refine CLO.out.mono ?_
  rintro e w1 ⟨ad', cap', rfl, ho, hb⟩
  have d0 := keep hb c0
  have hX1 := World.block_lt_of_cell? _ _ d0
  have HO1 := Lib.hid ho
  have HB1 := Lib.hid hb
  clear ho hb
  go_wp2
  go_returns
  have hs := HB1.out.size
  have hb2 : Below w1.heap.size w1 ((w1.alloc (.cells #[.slice ad' m cap'] 22)).alloc (.cells #[i64 c, P w1.heap.size] 63)) := by go_grown
  refine ⟨w1.heap.size + 1, rfl, w1.heap.size, .slice ad' m cap', ⟨by simp [go_sem], by simp [go_sem], by simp [go_sem], by simp [go_sem], ?_, by omega, fun e => ?_, fun e => ?_⟩, HB1.out.trans (hb2.mono hs), by omega, by omega, HO1.out.2.2⟩
  · rw [HL.out]; exact HO1.out.2.1.below hb2
  · have := HO1.out.2.1.lt e; omega
  · have := HO1.out.2.1.lt e; omega

theorem thsIn_own {B n cap : Nat} {w : World} {ad : Option Addr} {L : List Th} (h : OwnSl B w (.slice ad n cap) n L) : ThsIn ad n L w := thsIn_of_sl h.2.1 h.1

set_option maxHeartbeats 4000000 in
theorem same_any {X H X2 H2 : Nat} {v v2 : Value} {c c2 : Int} {L L2 : List Th} (w : World) (hO : Ob w X H v c L) (hO2 : Ob w X2 H2 v2 c2 L2) (hn : L.length ≤ 1000) (hn2 : L2.length ≤ 1000) :
    Calls Try.prog 22 #[P X, P X2] w fun e w' => e = .returned (.bool (c == c2 && decide (tell c L = tell c2 L2))) ∧ Below w.heap.size w w' := by
  have C1 := Lib.hid (client_at hO)
  have C2 := Lib.hid (client_at hO2)
  have T1 := Lib.hid (things_any w hO hn)
  have T2 := Lib.hid (fun (W : World) (hb : Below w.heap.size w W) => things_any W (hO2.below hb) hn2)
  have hlen : (tell c L).length ≤ 1000 := by unfold tell; split <;> (try simp) <;> omega
  clear hO hO2 hn hn2
  by_cases hc : c = c2
  · have hc' : (c == c2) = true := by simp [hc]
    have HC := Lib.hid hc'
    clear hc
    go_enter Try.func22, Try.ntmps22
    go_wp2_with fail
    refine C1.out.mono ?_
    rintro e w1 ⟨rfl, rfl⟩
    go_wp2_with fail
    refine C2.out.mono ?_
    rintro e w1 ⟨rfl, rfl⟩
    go_wp2_with fail
    refine T1.out.mono ?_
    rintro e w1 ⟨ad1, cap1, m1, rfl, ho1, hb1⟩
    have HO1 := Lib.hid ho1
    have HB1 := Lib.hid hb1
    clear ho1 hb1
    go_wp2_with fail
    refine (T2.out _ HB1.out).mono ?_
    rintro e w2 ⟨ad2, cap2, m2, rfl, ho2, hb2⟩
    have HO2 := Lib.hid ho2
    have HB2 := Lib.hid hb2
    clear ho2 hb2
    go_wp2_with fail
    refine (equal_any w2 (thsIn_own (HO1.out.below HB2.out)) (thsIn_own HO2.out) (by have := HO1.out.1; omega)).mono ?_
    rintro e w3 ⟨rfl, hb3⟩
    have HB3 := Lib.hid hb3
    clear hb3
    go_wp2
    go_returns
    have hs1 := HB1.out.size
    have hs2 := HB2.out.size
    refine ⟨by rw [HC.out]; rfl, HB1.out.trans ((HB2.out.mono hs1).trans (HB3.out.mono (by omega)))⟩
  · have hc' : (c == c2) = false := by simp [hc]
    have HC := Lib.hid hc'
    clear hc
    go_enter Try.func22, Try.ntmps22
    go_wp2_with fail
    refine C1.out.mono ?_
    rintro e w1 ⟨rfl, rfl⟩
    go_wp2_with fail
    refine C2.out.mono ?_
    rintro e w1 ⟨rfl, rfl⟩
    go_wp2
    go_returns
    exact ⟨by rw [HC.out]; rfl, Below.refl _ _⟩
end Go.Proofs.Ytphfcfnbefikiaa
