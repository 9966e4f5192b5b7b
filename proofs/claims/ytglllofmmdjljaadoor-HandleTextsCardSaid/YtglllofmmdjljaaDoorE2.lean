/- What the reference's Text answers for any word: the same text as the program's; no condition. -/
import Derived.Test.YtglllofmmdjljaaDoorE1
namespace Go.Proofs.YtglllofmmdjljaaDoor
open Go.RowKit Go.Sort Go.Lib

theorem refmarks_lit (h : Int) (h0 : 0 ≤ h) (h1 : h < 18446744073709551616) (m : Int) (hm : h / 4194304 % 4 = m) (w : World) :
    Calls Tryd.prog 18 #[.int .u64 h] w fun e w' => e = .returned (.int .i64 m) ∧ w = w' := by
  subst hm; exact refmarks_any h h0 h1 w

set_option maxHeartbeats 1000000 in
set_option maxRecDepth 100000 in
theorem reftext_0 (h : Nat) (h1 : h < 18446744073709551616) (hm : (h : Int) / 4194304 % 4 = 0) (w : World) :
    Calls Tryd.prog 25 #[.int .u64 h] w fun e w' => e = .returned (.string ⟨(textOf h).toArray⟩) ∧ w = w' := by
  have hi : h % 4194304 < 18446744073709551616 := by omega
  have g0 : (0 : Int) ≤ h := by omega
  have g1 : (h : Int) < 18446744073709551616 := by omega
  have HM := Lib.hid hm
  clear hm
  go_enter Tryd.func25, Tryd.ntmps25
  go_wp2_with fail
  refine (refindex_any _ g0 g1 _).mono ?_
  rintro e w1 ⟨rfl, rfl⟩
  go_wp2_with fail
  rw [show ((h : Int) % 4194304) = ((h % 4194304 : Nat) : Int) by omega]
  refine (num_any _ hi _).mono ?_
  rintro e w2 ⟨rfl, rfl⟩
  have hDl := dec_len (h % 4194304) (by omega)
  have htx : textOf h = decDigits (h % 4194304) ++ [] ++ [] ++ (if h / 16777216 = 0 then [] else [64] ++ decDigits (h / 16777216)) := by
    have hq : h / 4194304 % 4 = 0 := by have := HM.out; omega
    simp [textOf, hq]
  have HX := Lib.hid htx
  clear htx
  generalize decDigits (h % 4194304) = D at *
  go_wp2_with fail
  refine (refmarks_lit _ g0 g1 _ HM.out _).mono ?_
  rintro e w2 ⟨rfl, rfl⟩
  go_wp2_with fail
  refine (refmarks_lit _ g0 g1 _ HM.out _).mono ?_
  rintro e w2 ⟨rfl, rfl⟩
  go_wp2_with fail
  refine (reftag_any _ g0 g1 _).mono ?_
  rintro e w5 ⟨rfl, rfl⟩
  by_cases ht : h / 16777216 = 0
  · have ht' : (h : Int) / 16777216 = 0 := by omega
    rw [ht']
    rw [if_pos ht] at HX
    clear ht ht'
    go_wp2
    go_ret
    exact ⟨ret_str (by rw [HX.out]; simp), rfl⟩
  · have ht' : (h : Int) / 16777216 = ((h / 16777216 : Nat) : Int) := by omega
    rw [if_neg ht] at HX
    have hTl := dec_len (h / 16777216) (by omega)
    have htb : h / 16777216 < 18446744073709551616 := by omega
    have hne : decide ((0 : Int) < (h : Int) / 16777216) = true := by simp; omega
    have HT := Lib.hid ht'
    clear ht' ht
    have q1 : ∀ w : World, (Op.stringOp .add ⟨(D).toArray⟩ ⟨#[64]⟩).run Tryd.prog w = .ok (.string ⟨(D ++ [64]).toArray⟩) w := fun w => run_string_add_lists w _ [64] (by (try simp); omega) (by simp)
    have q2 : ∀ w : World, (Op.stringOp .add ⟨(D ++ [64]).toArray⟩ ⟨(decDigits (h / 16777216)).toArray⟩).run Tryd.prog w = .ok (.string ⟨(D ++ [64] ++ decDigits (h / 16777216)).toArray⟩) w := fun w => run_string_add_lists w _ _ (by (try simp); omega) (by omega)
    go_wp2_with fail
    refine (reftag_any _ g0 g1 _).mono ?_
    rintro e w6 ⟨rfl, rfl⟩
    go_wp2_with fail
    rw [HT.out]
    refine (num_any _ htb _).mono ?_
    rintro e w6 ⟨rfl, rfl⟩
    go_wp2
    go_ret
    exact ⟨ret_str (by rw [HX.out]; simp), rfl⟩

set_option maxHeartbeats 1000000 in
set_option maxRecDepth 100000 in
theorem reftext_1 (h : Nat) (h1 : h < 18446744073709551616) (hm : (h : Int) / 4194304 % 4 = 1) (w : World) :
    Calls Tryd.prog 25 #[.int .u64 h] w fun e w' => e = .returned (.string ⟨(textOf h).toArray⟩) ∧ w = w' := by
  have hi : h % 4194304 < 18446744073709551616 := by omega
  have g0 : (0 : Int) ≤ h := by omega
  have g1 : (h : Int) < 18446744073709551616 := by omega
  have HM := Lib.hid hm
  clear hm
  go_enter Tryd.func25, Tryd.ntmps25
  go_wp2_with fail
  refine (refindex_any _ g0 g1 _).mono ?_
  rintro e w1 ⟨rfl, rfl⟩
  go_wp2_with fail
  rw [show ((h : Int) % 4194304) = ((h % 4194304 : Nat) : Int) by omega]
  refine (num_any _ hi _).mono ?_
  rintro e w2 ⟨rfl, rfl⟩
  have hDl := dec_len (h % 4194304) (by omega)
  have htx : textOf h = decDigits (h % 4194304) ++ [226, 128, 178] ++ [] ++ (if h / 16777216 = 0 then [] else [64] ++ decDigits (h / 16777216)) := by
    have hq : h / 4194304 % 4 = 1 := by have := HM.out; omega
    simp [textOf, hq]
  have HX := Lib.hid htx
  clear htx
  generalize decDigits (h % 4194304) = D at *
  have k1 : ∀ w : World, (Op.stringOp .add ⟨D.toArray⟩ ⟨#[226, 128, 178]⟩).run Tryd.prog w = .ok (.string ⟨(D ++ [226, 128, 178]).toArray⟩) w := fun w => run_string_add_lists w D [226, 128, 178] (by omega) (by simp)
  go_wp2_with fail
  refine (refmarks_lit _ g0 g1 _ HM.out _).mono ?_
  rintro e w2 ⟨rfl, rfl⟩
  go_wp2_with fail
  refine (refmarks_lit _ g0 g1 _ HM.out _).mono ?_
  rintro e w2 ⟨rfl, rfl⟩
  go_wp2_with fail
  refine (reftag_any _ g0 g1 _).mono ?_
  rintro e w5 ⟨rfl, rfl⟩
  by_cases ht : h / 16777216 = 0
  · have ht' : (h : Int) / 16777216 = 0 := by omega
    rw [ht']
    rw [if_pos ht] at HX
    clear ht ht'
    go_wp2
    go_ret
    exact ⟨ret_str (by rw [HX.out]; simp), rfl⟩
  · have ht' : (h : Int) / 16777216 = ((h / 16777216 : Nat) : Int) := by omega
    rw [if_neg ht] at HX
    have hTl := dec_len (h / 16777216) (by omega)
    have htb : h / 16777216 < 18446744073709551616 := by omega
    have hne : decide ((0 : Int) < (h : Int) / 16777216) = true := by simp; omega
    have HT := Lib.hid ht'
    clear ht' ht
    have q1 : ∀ w : World, (Op.stringOp .add ⟨(D ++ [226, 128, 178]).toArray⟩ ⟨#[64]⟩).run Tryd.prog w = .ok (.string ⟨(D ++ [226, 128, 178] ++ [64]).toArray⟩) w := fun w => run_string_add_lists w _ [64] (by (try simp); omega) (by simp)
    have q2 : ∀ w : World, (Op.stringOp .add ⟨(D ++ [226, 128, 178] ++ [64]).toArray⟩ ⟨(decDigits (h / 16777216)).toArray⟩).run Tryd.prog w = .ok (.string ⟨(D ++ [226, 128, 178] ++ [64] ++ decDigits (h / 16777216)).toArray⟩) w := fun w => run_string_add_lists w _ _ (by (try simp); omega) (by omega)
    go_wp2_with fail
    refine (reftag_any _ g0 g1 _).mono ?_
    rintro e w6 ⟨rfl, rfl⟩
    go_wp2_with fail
    rw [HT.out]
    refine (num_any _ htb _).mono ?_
    rintro e w6 ⟨rfl, rfl⟩
    go_wp2
    go_ret
    exact ⟨ret_str (by rw [HX.out]; simp), rfl⟩

set_option maxHeartbeats 1000000 in
set_option maxRecDepth 100000 in
theorem reftext_2 (h : Nat) (h1 : h < 18446744073709551616) (hm : (h : Int) / 4194304 % 4 = 2) (w : World) :
    Calls Tryd.prog 25 #[.int .u64 h] w fun e w' => e = .returned (.string ⟨(textOf h).toArray⟩) ∧ w = w' := by
  have hi : h % 4194304 < 18446744073709551616 := by omega
  have g0 : (0 : Int) ≤ h := by omega
  have g1 : (h : Int) < 18446744073709551616 := by omega
  have HM := Lib.hid hm
  clear hm
  go_enter Tryd.func25, Tryd.ntmps25
  go_wp2_with fail
  refine (refindex_any _ g0 g1 _).mono ?_
  rintro e w1 ⟨rfl, rfl⟩
  go_wp2_with fail
  rw [show ((h : Int) % 4194304) = ((h % 4194304 : Nat) : Int) by omega]
  refine (num_any _ hi _).mono ?_
  rintro e w2 ⟨rfl, rfl⟩
  have hDl := dec_len (h % 4194304) (by omega)
  have htx : textOf h = decDigits (h % 4194304) ++ [] ++ [226, 128, 179] ++ (if h / 16777216 = 0 then [] else [64] ++ decDigits (h / 16777216)) := by
    have hq : h / 4194304 % 4 = 2 := by have := HM.out; omega
    simp [textOf, hq]
  have HX := Lib.hid htx
  clear htx
  generalize decDigits (h % 4194304) = D at *
  have k2 : ∀ w : World, (Op.stringOp .add ⟨(D).toArray⟩ ⟨#[226, 128, 179]⟩).run Tryd.prog w = .ok (.string ⟨(D ++ [226, 128, 179]).toArray⟩) w := fun w => run_string_add_lists w _ [226, 128, 179] (by (try simp); omega) (by simp)
  go_wp2_with fail
  refine (refmarks_lit _ g0 g1 _ HM.out _).mono ?_
  rintro e w2 ⟨rfl, rfl⟩
  go_wp2_with fail
  refine (refmarks_lit _ g0 g1 _ HM.out _).mono ?_
  rintro e w2 ⟨rfl, rfl⟩
  go_wp2_with fail
  refine (reftag_any _ g0 g1 _).mono ?_
  rintro e w5 ⟨rfl, rfl⟩
  by_cases ht : h / 16777216 = 0
  · have ht' : (h : Int) / 16777216 = 0 := by omega
    rw [ht']
    rw [if_pos ht] at HX
    clear ht ht'
    go_wp2
    go_ret
    exact ⟨ret_str (by rw [HX.out]; simp), rfl⟩
  · have ht' : (h : Int) / 16777216 = ((h / 16777216 : Nat) : Int) := by omega
    rw [if_neg ht] at HX
    have hTl := dec_len (h / 16777216) (by omega)
    have htb : h / 16777216 < 18446744073709551616 := by omega
    have hne : decide ((0 : Int) < (h : Int) / 16777216) = true := by simp; omega
    have HT := Lib.hid ht'
    clear ht' ht
    have q1 : ∀ w : World, (Op.stringOp .add ⟨(D ++ [226, 128, 179]).toArray⟩ ⟨#[64]⟩).run Tryd.prog w = .ok (.string ⟨(D ++ [226, 128, 179] ++ [64]).toArray⟩) w := fun w => run_string_add_lists w _ [64] (by (try simp); omega) (by simp)
    have q2 : ∀ w : World, (Op.stringOp .add ⟨(D ++ [226, 128, 179] ++ [64]).toArray⟩ ⟨(decDigits (h / 16777216)).toArray⟩).run Tryd.prog w = .ok (.string ⟨(D ++ [226, 128, 179] ++ [64] ++ decDigits (h / 16777216)).toArray⟩) w := fun w => run_string_add_lists w _ _ (by (try simp); omega) (by omega)
    go_wp2_with fail
    refine (reftag_any _ g0 g1 _).mono ?_
    rintro e w6 ⟨rfl, rfl⟩
    go_wp2_with fail
    rw [HT.out]
    refine (num_any _ htb _).mono ?_
    rintro e w6 ⟨rfl, rfl⟩
    go_wp2
    go_ret
    exact ⟨ret_str (by rw [HX.out]; simp), rfl⟩

set_option maxHeartbeats 1000000 in
set_option maxRecDepth 100000 in
theorem reftext_3 (h : Nat) (h1 : h < 18446744073709551616) (hm : (h : Int) / 4194304 % 4 = 3) (w : World) :
    Calls Tryd.prog 25 #[.int .u64 h] w fun e w' => e = .returned (.string ⟨(textOf h).toArray⟩) ∧ w = w' := by
  have hi : h % 4194304 < 18446744073709551616 := by omega
  have g0 : (0 : Int) ≤ h := by omega
  have g1 : (h : Int) < 18446744073709551616 := by omega
  have HM := Lib.hid hm
  clear hm
  go_enter Tryd.func25, Tryd.ntmps25
  go_wp2_with fail
  refine (refindex_any _ g0 g1 _).mono ?_
  rintro e w1 ⟨rfl, rfl⟩
  go_wp2_with fail
  rw [show ((h : Int) % 4194304) = ((h % 4194304 : Nat) : Int) by omega]
  refine (num_any _ hi _).mono ?_
  rintro e w2 ⟨rfl, rfl⟩
  have hDl := dec_len (h % 4194304) (by omega)
  have htx : textOf h = decDigits (h % 4194304) ++ [226, 128, 178] ++ [226, 128, 179] ++ (if h / 16777216 = 0 then [] else [64] ++ decDigits (h / 16777216)) := by
    have hq : h / 4194304 % 4 = 3 := by have := HM.out; omega
    simp [textOf, hq]
  have HX := Lib.hid htx
  clear htx
  generalize decDigits (h % 4194304) = D at *
  have k1 : ∀ w : World, (Op.stringOp .add ⟨D.toArray⟩ ⟨#[226, 128, 178]⟩).run Tryd.prog w = .ok (.string ⟨(D ++ [226, 128, 178]).toArray⟩) w := fun w => run_string_add_lists w D [226, 128, 178] (by omega) (by simp)
  have k2 : ∀ w : World, (Op.stringOp .add ⟨(D ++ [226, 128, 178]).toArray⟩ ⟨#[226, 128, 179]⟩).run Tryd.prog w = .ok (.string ⟨(D ++ [226, 128, 178] ++ [226, 128, 179]).toArray⟩) w := fun w => run_string_add_lists w _ [226, 128, 179] (by (try simp); omega) (by simp)
  go_wp2_with fail
  refine (refmarks_lit _ g0 g1 _ HM.out _).mono ?_
  rintro e w2 ⟨rfl, rfl⟩
  go_wp2_with fail
  refine (refmarks_lit _ g0 g1 _ HM.out _).mono ?_
  rintro e w2 ⟨rfl, rfl⟩
  go_wp2_with fail
  refine (reftag_any _ g0 g1 _).mono ?_
  rintro e w5 ⟨rfl, rfl⟩
  by_cases ht : h / 16777216 = 0
  · have ht' : (h : Int) / 16777216 = 0 := by omega
    rw [ht']
    rw [if_pos ht] at HX
    clear ht ht'
    go_wp2
    go_ret
    exact ⟨ret_str (by rw [HX.out]; simp), rfl⟩
  · have ht' : (h : Int) / 16777216 = ((h / 16777216 : Nat) : Int) := by omega
    rw [if_neg ht] at HX
    have hTl := dec_len (h / 16777216) (by omega)
    have htb : h / 16777216 < 18446744073709551616 := by omega
    have hne : decide ((0 : Int) < (h : Int) / 16777216) = true := by simp; omega
    have HT := Lib.hid ht'
    clear ht' ht
    have q1 : ∀ w : World, (Op.stringOp .add ⟨(D ++ [226, 128, 178] ++ [226, 128, 179]).toArray⟩ ⟨#[64]⟩).run Tryd.prog w = .ok (.string ⟨(D ++ [226, 128, 178] ++ [226, 128, 179] ++ [64]).toArray⟩) w := fun w => run_string_add_lists w _ [64] (by (try simp); omega) (by simp)
    have q2 : ∀ w : World, (Op.stringOp .add ⟨(D ++ [226, 128, 178] ++ [226, 128, 179] ++ [64]).toArray⟩ ⟨(decDigits (h / 16777216)).toArray⟩).run Tryd.prog w = .ok (.string ⟨(D ++ [226, 128, 178] ++ [226, 128, 179] ++ [64] ++ decDigits (h / 16777216)).toArray⟩) w := fun w => run_string_add_lists w _ _ (by (try simp); omega) (by omega)
    go_wp2_with fail
    refine (reftag_any _ g0 g1 _).mono ?_
    rintro e w6 ⟨rfl, rfl⟩
    go_wp2_with fail
    rw [HT.out]
    refine (num_any _ htb _).mono ?_
    rintro e w6 ⟨rfl, rfl⟩
    go_wp2
    go_ret
    exact ⟨ret_str (by rw [HX.out]; simp), rfl⟩

theorem reftext_any (h : Nat) (h1 : h < 18446744073709551616) (w : World) :
    Calls Tryd.prog 25 #[.int .u64 h] w fun e w' => e = .returned (.string ⟨(textOf h).toArray⟩) ∧ w = w' := by
  have hq : (h : Int) / 4194304 % 4 = 0 ∨ (h : Int) / 4194304 % 4 = 1 ∨ (h : Int) / 4194304 % 4 = 2 ∨ (h : Int) / 4194304 % 4 = 3 := by omega
  rcases hq with hq | hq | hq | hq
  · exact reftext_0 h h1 hq w
  · exact reftext_1 h h1 hq w
  · exact reftext_2 h h1 hq w
  · exact reftext_3 h h1 hq w
end Go.Proofs.YtglllofmmdjljaaDoor
