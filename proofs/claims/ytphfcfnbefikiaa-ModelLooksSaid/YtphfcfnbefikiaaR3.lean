/- The document's Do, in all. -/
import Derived.Test.YtphfcfnbefikiaaR2
namespace Go.Proofs.Ytphfcfnbefikiaa
open Go.RowKit
set_option linter.unusedVariables false
set_option linter.unusedSimpArgs false

set_option maxHeartbeats 4000000 in
theorem rdo_5no {Y : Nat} {u : Value} {c : Int} {Q : List Pu} (k x : Int) (w : World) (h : Re w Y u c Q) (hn : Q.length ≤ 1000) (hm : mayB c 5 = true) (hf : 0 ≤ findR k Q 0) :
    Calls Try.prog 26 #[P Y, i64 5, u64 k, u64 x] w fun e w' => e = .returned (ansV no) ∧ Rid w Y u c Q w' := by
  have HO := Lib.hid h
  have hY := h.ltY
  have c0 := h.c0
  have hb0 : Below w.heap.size w (w.alloc (.cells #[.int .i64 0, .bool false, .int .u64 0] 40)) := by go_grown
  have HB0 := Lib.hid hb0
  have HRE := Lib.hid (h.below hb0)
  have MAY := Lib.hid (fun W => rmay_any c 5 W)
  have HM := Lib.hid hm
  clear hb0 hm
  have FIND := Lib.hid (rfind_any k _ HRE.out hn)
  obtain ⟨f, hff⟩ : ∃ f, findR k Q 0 = f := ⟨_, rfl⟩
  rw [hff] at FIND hf
  clear h hff
  go_enter Try.func26, Try.ntmps26
  go_wp2_with fail
  refine (MAY.out _).mono ?_
  rintro e w1 ⟨rfl, rfl⟩
  rw [HM.out]
  go_wp2_with fail
  refine FIND.out.mono ?_
  rintro e w1 ⟨rfl, rfl⟩
  go_wp2
  go_returns
  exact ⟨rfl, rid_not HO.out (by go_grown)⟩

set_option maxHeartbeats 4000000 in
theorem rdo_5yes {Y : Nat} {u : Value} {c : Int} {Q : List Pu} (k x : Int) (w : World) (h : Re w Y u c Q) (hn : Q.length ≤ 1000) (hm : mayB c 5 = true) (hf : findR k Q 0 < 0) :
    Calls Try.prog 26 #[P Y, i64 5, u64 k, u64 x] w fun e w' => e = .returned (ansV (yesA 0)) ∧ Rid w Y u c (Q ++ [((k, x), false)]) w' := by
  obtain ⟨ad, cap, rfl, _⟩ := h.sl.form
  obtain ⟨n, hQ⟩ : ∃ n, Q.length = n := ⟨_, rfl⟩
  have hn0 := hn
  rw [hQ] at h hn ⊢
  have HO := Lib.hid h
  have hY := h.ltY
  have c0 := h.c0
  have hb0 : Below w.heap.size w (w.alloc (.cells #[.int .i64 0, .bool false, .int .u64 0] 40)) := by go_grown
  have HB0 := Lib.hid hb0
  have HRE := Lib.hid (h.below hb0)
  have MAY := Lib.hid (fun W => rmay_any c 5 W)
  have HM := Lib.hid hm
  clear hb0 hm
  have FIND := Lib.hid (rfind_any k _ HRE.out hn0)
  obtain ⟨f, hff⟩ : ∃ f, findR k Q 0 = f := ⟨_, rfl⟩
  rw [hff] at FIND hf
  have hv := h.hv
  have hz := h.fz
  have RUN := Lib.hid (radd_run h hQ hn (k, x))
  clear h hQ hff hn0
  go_enter Try.func26, Try.ntmps26
  go_wp2_with fail
  refine (MAY.out _).mono ?_
  rintro e w1 ⟨rfl, rfl⟩
  rw [HM.out]
  go_wp2_with fail
  refine FIND.out.mono ?_
  rintro e w1 ⟨rfl, rfl⟩
  go_wp2_with (first
    | (at_builtin
       refine wpList_app rfl (.tmp 81) (.tmp 86) 73 73 rfl rfl rfl (RUN.out _ (by go_grown) (by exact alloc1_heap w _ _) (w.heap.size + 1) (by exact alloc2_heap w _ _) _) ?_
       rintro ad4 cap4 w4 H
       have H4 := Lib.hid H
       have k2 := H4.out.2.hv
       have k3 := H4.out.2.fz
       have k4 := H4.out.2.sz
       obtain ⟨b1, b2, b3, b4⟩ := box_cell H4.out.2.bx
       clear H))
  obtain ⟨f0, f1, f2⟩ := rbox_set (v := .slice ad4 (n + 1) cap4) H4.out.2.bx (show Y ≠ w.heap.size by omega)
  refine bodyPost_ret (v := ansV (yesA 0)) (by simp [results, Try.results26, go_sem, f0, f1, f2, ansV, yesA]) rfl ?_
  exact ⟨rfl, rid_add HO.out H4.out.1 H4.out.2 (box3 _ _ _ _ _)⟩

set_option maxHeartbeats 4000000 in
theorem rdo_7no {Y : Nat} {u : Value} {c : Int} {Q : List Pu} (k x : Int) (w : World) (h : Re w Y u c Q) (hn : Q.length ≤ 1000) (hm : mayB c 7 = true) (hf : findR k Q 0 < 0) :
    Calls Try.prog 26 #[P Y, i64 7, u64 k, u64 x] w fun e w' => e = .returned (ansV no) ∧ Rid w Y u c Q w' := by
  have HO := Lib.hid h
  have hY := h.ltY
  have c0 := h.c0
  have hb0 : Below w.heap.size w (w.alloc (.cells #[.int .i64 0, .bool false, .int .u64 0] 40)) := by go_grown
  have HB0 := Lib.hid hb0
  have HRE := Lib.hid (h.below hb0)
  have MAY := Lib.hid (fun W => rmay_any c 7 W)
  have HM := Lib.hid hm
  clear hb0 hm
  have FIND := Lib.hid (rfind_any k _ HRE.out hn)
  obtain ⟨f, hff⟩ : ∃ f, findR k Q 0 = f := ⟨_, rfl⟩
  rw [hff] at FIND hf
  clear h hff
  go_enter Try.func26, Try.ntmps26
  go_wp2_with fail
  refine (MAY.out _).mono ?_
  rintro e w1 ⟨rfl, rfl⟩
  rw [HM.out]
  go_wp2_with fail
  refine FIND.out.mono ?_
  rintro e w1 ⟨rfl, rfl⟩
  go_wp2
  go_returns
  exact ⟨rfl, rid_not HO.out (by go_grown)⟩

set_option maxHeartbeats 4000000 in
theorem rdo_7yes {Y j : Nat} {u : Value} {c : Int} {Q : List Pu} {p : Pu} (k x : Int) (w : World) (h : Re w Y u c Q) (hn : Q.length ≤ 1000) (hm : mayB c 7 = true) (hf : findR k Q 0 = j) (hp : Q[j]? = some p) :
    Calls Try.prog 26 #[P Y, i64 7, u64 k, u64 x] w fun e w' => e = .returned (ansV (yesA p.1.2)) ∧ Rid w Y u c Q w' := by
  have HO := Lib.hid h
  have hY := h.ltY
  have c0 := h.c0
  have hb0 : Below w.heap.size w (w.alloc (.cells #[.int .i64 0, .bool false, .int .u64 0] 40)) := by go_grown
  have HB0 := Lib.hid hb0
  have HRE := Lib.hid (h.below hb0)
  have MAY := Lib.hid (fun W => rmay_any c 7 W)
  have HM := Lib.hid hm
  clear hb0 hm
  have FIND := Lib.hid (rfind_any k _ HRE.out hn)
  obtain ⟨ad, cap, rfl, _⟩ := h.sl.form
  obtain ⟨n, hQ⟩ : ∃ n, Q.length = n := ⟨_, rfl⟩
  have hi := (List.getElem?_eq_some_iff.1 hp).1
  have hsl := h.sl
  have hv := h.hv
  rw [hQ] at hi hsl hv hn
  obtain ⟨b, off, rfl, hbl, x1, x2, x3, x4⟩ := put_cells hsl hQ hp
  rw [hf] at FIND
  have hlt : (j : Int) < (n : Int) := by omega
  clear h hf hp hsl hQ
  go_enter Try.func26, Try.ntmps26
  go_wp2_with fail
  refine (MAY.out _).mono ?_
  rintro e w1 ⟨rfl, rfl⟩
  rw [HM.out]
  go_wp2_with fail
  refine FIND.out.mono ?_
  rintro e w1 ⟨rfl, rfl⟩
  go_wp2
  go_returns
  exact ⟨rfl, rid_not HO.out (by go_grown)⟩

/-- The document's Do. -/
theorem rdo_any {Y : Nat} {u : Value} {c : Int} {Q : List Pu} (o k x : Int) (w : World) (h : Re w Y u c Q) (hn : Q.length ≤ 1000) :
    Calls Try.prog 26 #[P Y, i64 o, u64 k, u64 x] w fun e w' => e = .returned (ansV (doR c o k x Q).1) ∧ Rid w Y u c (doR c o k x Q).2 w' := by
  unfold doR
  cases hm : mayB c o with
  | false => rw [if_pos rfl]; exact rdo_bad o k x w h hm
  | true =>
    rw [if_neg (by simp)]
    have ho : 1 ≤ o ∧ o ≤ 7 := by
      unfold mayB at hm
      simp at hm
      omega
    by_cases h1 : o = 1
    · subst h1; rw [if_pos (.inl rfl)]; exact rdo_1 k x w h hn hm
    by_cases h3 : o = 3
    · subst h3; rw [if_pos (.inr rfl)]; exact rdo_3 k x w h hn hm
    rw [if_neg (by omega)]
    by_cases h2 : o = 2
    · subst h2; rw [if_pos rfl]; exact rdo_2 k x w h hn hm
    rw [if_neg h2]
    by_cases h4 : o = 4
    · subst h4; rw [if_pos rfl]; exact rdo_4 k x w h hn hm
    rw [if_neg h4]
    by_cases h6 : o = 6
    · subst h6; rw [if_pos rfl]; exact rdo_6 k x w h hn hm
    rw [if_neg h6]
    by_cases h7 : o = 7
    · subst h7
      rw [if_pos rfl]
      unfold getR
      rcases spec_6 k Q with hf | ⟨j, p, hf, hp⟩
      · rw [if_pos hf]; exact rdo_7no k x w h hn hm hf
      · rw [if_neg (by omega), hf, Int.toNat_natCast, hp]; exact rdo_7yes k x w h hn hm hf hp
    rw [if_neg h7]
    obtain rfl : o = 5 := by omega
    by_cases hf : 0 ≤ findR k Q 0
    · rw [if_pos hf]; exact rdo_5no k x w h hn hm hf
    · rw [if_neg hf]; exact rdo_5yes k x w h hn hm (by omega)

end Go.Proofs.Ytphfcfnbefikiaa
