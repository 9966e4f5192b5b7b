/- The law ModelMay: the walk. -/
import Derived.Test.YtphfcfnbefikiaaE3
namespace Go.Proofs.Ytphfcfnbefikiaa
open Go.RowKit
set_option linter.unusedVariables false
set_option linter.unusedSimpArgs false

theorem doI_code {c o : Int} (h1 : 1 ≤ c) (h2 : c ≤ 6) (k x : Int) (L : List Th) : (doI c o k x L).1.1 = if mayB c o then 0 else 2 := by
  have e3 : isMap c = true ↔ 3 ≤ c := by simp [isMap]; omega
  unfold doI mayB
  repeat' split
  all_goals rename_i hh
  all_goals simp_all [addI, popI, deqI, insI, remI, getI, yesA, no, bad]
  all_goals first | done | omega | (repeat' split) <;> first | rfl | omega | simp_all

theorem field40 (a r : Int) (q : Bool) (w : World) : (Instr.field 40 (.agg #[.int .i64 a, .bool q, .int .u64 r]) 0).run Try.prog w = .ok (.int .i64 a) w := by kernel_rfl

set_option maxHeartbeats 4000000 in
theorem law_may (c o : Int) (ho : (Lit.int .i64 o).wf = true) (w : World) : Calls Try.prog 4 #[i64 c, i64 o] w fun e w' => e = .returned (.bool true) ∧ Below w.heap.size w w' := by
  by_cases hc : 1 ≤ c ∧ c ≤ 6
  · obtain ⟨h1, h2⟩ := hc
    have t1 : decide (c < 1) = false := by simp; omega
    have t2 : decide (6 < c) = false := by simp; omega
    have CODE := Lib.hid (fun L => doI_code (o := o) h1 h2 1 2 L)
    have NEW := Lib.hid (new_any (cap := 0) c h1 h2 (by decide) w (nothing_in w))
    have MAY := Lib.hid (fun W => may_in c o h1 h2 ho W)
    have RMAY := Lib.hid (fun W => rmay_any c o W)
    have DO := Lib.hid (fun (X H : Nat) (v : Value) (W : World) (h : Ob W X H v c []) => do_any h1 h2 o 1 2 ho W h (by decide) (fun _ => List.Pairwise.nil))
    clear h1 h2 ho
    go_enter Try.func4, Try.ntmps4
    go_wp2_with fail
    refine NEW.out.mono ?_
    rintro e w1 ⟨X, rfl, m⟩
    have M := Lib.hid (show Made w c [] w1 X from m)
    clear m NEW
    go_wp2_with fail
    refine (MAY.out _).mono ?_
    rintro e w2 ⟨rfl, hb2⟩
    go_wp2_with fail
    refine (RMAY.out _).mono ?_
    rintro e w3 ⟨rfl, rfl⟩
    have HB2 := Lib.hid hb2
    clear hb2
    generalize mayB c o = m at *
    cases m
    · go_wp2_with fail
      obtain ⟨H, v, hO, hb, hX, hH, hv⟩ := M.out
      refine (DO.out X H v _ (hO.below HB2.out)).mono ?_
      rintro e w4 ⟨rfl, hd⟩
      have code := CODE.out []
      simp only [Bool.false_eq_true, if_false] at code
      obtain ⟨⟨p, q, r⟩, L', hdo⟩ : ∃ a L', doI c o 1 2 [] = (a, L') := ⟨_, _, rfl⟩
      rw [hdo] at code hd ⊢
      obtain rfl : p = 2 := code
      have hb4 : Below w.heap.size w w4 := by
        obtain ⟨v', g1, g2, g3⟩ := hd
        have hbw : Below w.heap.size w w2 := hb.trans (HB2.out.mono hb.size)
        exact hbw.trans (g2.below hbw.size (fun k e => by cases e; exact hH) (fun k e => hv k e))
      have HB4 := Lib.hid hb4
      clear hd hb4 hO hb hX hH hv hdo
      unfold ansV
      have FI := field40
      go_wp2_with fail
      refine (RMAY.out _).mono ?_
      rintro e w5 ⟨rfl, rfl⟩
      go_wp2_with fail
      refine (known_any _).mono ?_
      rintro e w6 ⟨rfl, hb6⟩
      go_wp2
      go_returns
      exact ⟨rfl, HB4.out.trans (hb6.mono HB4.out.size)⟩
    · go_wp2_with fail
      obtain ⟨H, v, hO, hb, hX, hH, hv⟩ := M.out
      refine (DO.out X H v _ (hO.below HB2.out)).mono ?_
      rintro e w4 ⟨rfl, hd⟩
      have code := CODE.out []
      simp only [if_true] at code
      obtain ⟨⟨p, q, r⟩, L', hdo⟩ : ∃ a L', doI c o 1 2 [] = (a, L') := ⟨_, _, rfl⟩
      rw [hdo] at code hd ⊢
      obtain rfl : p = 0 := code
      have hb4 : Below w.heap.size w w4 := by
        obtain ⟨v', g1, g2, g3⟩ := hd
        have hbw : Below w.heap.size w w2 := hb.trans (HB2.out.mono hb.size)
        exact hbw.trans (g2.below hbw.size (fun k e => by cases e; exact hH) (fun k e => hv k e))
      have HB4 := Lib.hid hb4
      clear hd hb4 hO hb hX hH hv hdo
      unfold ansV
      have FI := field40
      go_wp2_with fail
      refine (RMAY.out _).mono ?_
      rintro e w5 ⟨rfl, rfl⟩
      go_wp2_with fail
      refine (known_any _).mono ?_
      rintro e w6 ⟨rfl, hb6⟩
      go_wp2
      go_returns
      exact ⟨rfl, HB4.out.trans (hb6.mono HB4.out.size)⟩
  · have NEW := Lib.hid (new_bad c (by omega) (.slice none 0 0) w)
    have MAY := Lib.hid (fun W => may_out c o ho (by omega) W)
    by_cases h1 : c < 1
    · go_enter Try.func4, Try.ntmps4
      have t1 : decide (c < 1) = true := by simp; omega
      clear hc h1
      go_wp2_with fail
      refine NEW.out.mono ?_
      rintro e w1 ⟨rfl, hb1⟩
      go_wp2_with fail
      refine (MAY.out _).mono ?_
      rintro e w2 ⟨rfl, hb2⟩
      go_wp2_with fail
      refine (known_any _).mono ?_
      rintro e w6 ⟨rfl, hb6⟩
      go_wp2
      go_returns
      exact ⟨rfl, hb1.trans ((hb2.trans (hb6.mono hb2.size)).mono hb1.size)⟩
    · have t1 : decide (c < 1) = false := by simp; omega
      have t2 : decide (6 < c) = true := by simp; omega
      clear hc h1
      go_enter Try.func4, Try.ntmps4
      go_wp2_with fail
      refine NEW.out.mono ?_
      rintro e w1 ⟨rfl, hb1⟩
      go_wp2_with fail
      refine (MAY.out _).mono ?_
      rintro e w2 ⟨rfl, hb2⟩
      go_wp2_with fail
      refine (known_any _).mono ?_
      rintro e w6 ⟨rfl, hb6⟩
      go_wp2
      go_returns
      exact ⟨rfl, hb1.trans ((hb2.trans (hb6.mono hb2.size)).mono hb1.size)⟩
end Go.Proofs.Ytphfcfnbefikiaa
