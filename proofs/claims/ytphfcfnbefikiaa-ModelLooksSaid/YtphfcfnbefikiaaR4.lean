/- The document's New and Copy. -/
import Derived.Test.YtphfcfnbefikiaaR3
import Derived.Test.YtphfcfnbefikiaaC1
namespace Go.Proofs.Ytphfcfnbefikiaa
open Go.RowKit
set_option linter.unusedVariables false
set_option linter.unusedSimpArgs false

def newR (c : Int) (l : List Th) (Q : List Pu) : List Pu := l.foldl (fun Q t => (doR c (putOf c) t.1 t.2 Q).2) Q
theorem newR_snoc (c : Int) (l : List Th) (t : Th) (Q : List Pu) : newR c (l ++ [t]) Q = (doR c (putOf c) t.1 t.2 (newR c l Q)).2 := by unfold newR; rw [List.foldl_append]; rfl
theorem outR_len (i : Int) (Q : List Pu) : (outR i Q).2.length = Q.length := by
  unfold outR
  split
  · rfl
  · split
    · simp
    · rfl
theorem getR_len (i : Int) (Q : List Pu) : (getR i Q).2.length = Q.length := by
  unfold getR
  split
  · rfl
  · split <;> rfl
theorem doR_len (c o k x : Int) (Q : List Pu) : (doR c o k x Q).2.length ≤ Q.length + 1 := by
  unfold doR
  repeat' split
  all_goals (first | (unfold addR; simp) | (rw [outR_len]; omega) | (rw [getR_len]; omega) | simp)
theorem newR_len (c : Int) (l : List Th) : ∀ Q, (newR c l Q).length ≤ Q.length + l.length := by
  induction l with
  | nil => intro L; simp [newR]
  | cons t l ih =>
    intro Q
    have := ih (doR c (putOf c) t.1 t.2 Q).2
    have h2 := doR_len c (putOf c) t.1 t.2 Q
    show (newR c l (doR c (putOf c) t.1 t.2 Q).2).length ≤ _
    simp only [List.length_cons]; omega
theorem sim_new (c : Int) (l : List Th) : ∀ L Q, Sim c L Q → Sim c (newI c l L) (newR c l Q) := by
  induction l with
  | nil => intro L Q h; exact h
  | cons t l ih => intro L Q h; exact ih _ _ (sim_do (putOf c) t.1 t.2 h).2

/-- a new object of the document's, and all that was there as it was -/
def RMade (w : World) (c : Int) (Q : List Pu) (w' : World) (Y : Nat) : Prop :=
  ∃ u, Re w' Y u c Q ∧ Below w.heap.size w w' ∧ w.heap.size ≤ Y ∧ ∀ b, u.ownBlock = some b → w.heap.size ≤ b

set_option maxHeartbeats 4000000 in
theorem rnew_1 {n cap : Nat} {ad : Option Addr} {l : List Th}  (hn : n ≤ 200) (w : World) (hl : ThsIn ad n l w) :
    Calls Try.prog 28 #[i64 1, .slice ad n cap] w fun e w' => ∃ Y, e = .returned (P Y) ∧ RMade w 1 (newR 1 l []) w' Y := by
  have HL := Lib.hid hl
  have DO := Lib.hid (fun (Q : List Pu) (t : Th) (Y : Nat) (u : Value) (W : World) (hO : Re W Y u 1 Q) (hln : Q.length ≤ 1000) => rdo_any (c := 1) 1 0 t.2 W hO hln)
  have HO0 := Lib.hid (show Re (w.alloc (.cells #[i64 1, .slice none 0 0] 75)) w.heap.size (.slice none 0 0) 1 (newR 1 (l.take 0) []) from
    ⟨by simp [go_sem], by simp [go_sem], by simp [go_sem], Sl.nil _ _ _, by simp [Value.ownBlock]⟩)
  have HB0 := Lib.hid (show Below w.heap.size w (w.alloc (.cells #[i64 1, .slice none 0 0] 75)) by go_grown)
  clear hl
  go_enter Try.func28, Try.ntmps28
  go_wp2_with fail
  go_loopw [6] (fun a wr => ∃ (i : Nat) (u : Value), a = i64 i ∧ i ≤ n ∧ Re wr w.heap.size u 1 (newR 1 (l.take i) []) ∧ Below w.heap.size w wr ∧ ∀ b, u.ownBlock = some b → w.heap.size ≤ b) (fun a _ => n - (intOf a).toNat)
  case atStart => exact ⟨0, _, rfl, by omega, HO0.out, HB0.out, fun b hb => by cases hb⟩
  case round =>
    obtain ⟨i, u, rfl, hi, hO, hbr, hv⟩ := hrel
    have HO := Lib.hid hO
    have HBR := Lib.hid hbr
    have HV := Lib.hid hv
    clear hO hbr hv
    by_cases hlt : i < n
    · have hlt' : (i : Int) < (n : Int) := by omega
      obtain ⟨t, ht⟩ : ∃ t, l[i]? = some t := ⟨_, List.getElem?_eq_getElem (by rw [HL.out.1]; exact hlt)⟩
      obtain ⟨b, off, rfl, x1, x2⟩ := HL.out.2 i t ht
      have y1 : wr.cell? ⟨b, off + i * 2, none⟩ = some (.int .u64 t.1) := keep HBR.out x1
      have y2 : wr.cell? ⟨b, off + i * 2 + 1, none⟩ = some (.int .u64 t.2) := keep HBR.out x2
      have HT := Lib.hid ht
      have hlen := newR_len 1 (l.take i) []
      simp only [List.length_nil, List.length_take, Nat.zero_add] at hlen
      have CALL := Lib.hid (fun j => DO.out _ t _ _ _ (HO.out.below (below_drewN wr.heap.size wr j)) (by omega))
      clear ht x1 x2 hlen
      go_wp2_with fail
      refine (CALL.out 0).mono ?_
      rintro e w4 ⟨rfl, v', k1, k2, k3⟩
      have K1 := Lib.hid k1
      have K2 := Lib.hid k2
      have K3 := Lib.hid k3
      clear k1 k2 k3
      go_wp2
      go_roundw
      case rel =>
        have hge : ∀ k, v'.ownBlock = some k → w.heap.size ≤ k := fun k hk => by
          rcases K3.out k hk with e | e
          · exact HV.out k e
          · have h1 := HBR.out.size
            have h2 : wr.heap.size ≤ k := e
            omega
        refine ⟨i + 1, v', by first | rfl | simp, by omega, ?_, ?_, hge⟩
        · rw [take_snoc HT.out, newR_snoc]; exact K1.out
        · refine HBR.out.trans ((below_drewN _ wr _).trans (K2.out.below ?_ ?_ HV.out))
          · exact HBR.out.size
          · intro k hk; simp only [Option.some.injEq] at hk; omega
      case measure => simp [intOf]; omega
    · have hge : (n : Int) ≤ (i : Int) := by omega
      obtain rfl : i = n := by omega
      go_wp2
      go_returns
      refine ⟨w.heap.size, rfl, u, ?_, HBR.out, Nat.le_refl _, HV.out⟩
      have := HO.out
      rwa [List.take_of_length_le (by rw [HL.out.1]; omega)] at this

set_option maxHeartbeats 4000000 in
theorem rnew_2 {n cap : Nat} {ad : Option Addr} {l : List Th}  (hn : n ≤ 200) (w : World) (hl : ThsIn ad n l w) :
    Calls Try.prog 28 #[i64 2, .slice ad n cap] w fun e w' => ∃ Y, e = .returned (P Y) ∧ RMade w 2 (newR 2 l []) w' Y := by
  have HL := Lib.hid hl
  have DO := Lib.hid (fun (Q : List Pu) (t : Th) (Y : Nat) (u : Value) (W : World) (hO : Re W Y u 2 Q) (hln : Q.length ≤ 1000) => rdo_any (c := 2) 3 0 t.2 W hO hln)
  have HO0 := Lib.hid (show Re (w.alloc (.cells #[i64 2, .slice none 0 0] 75)) w.heap.size (.slice none 0 0) 2 (newR 2 (l.take 0) []) from
    ⟨by simp [go_sem], by simp [go_sem], by simp [go_sem], Sl.nil _ _ _, by simp [Value.ownBlock]⟩)
  have HB0 := Lib.hid (show Below w.heap.size w (w.alloc (.cells #[i64 2, .slice none 0 0] 75)) by go_grown)
  clear hl
  go_enter Try.func28, Try.ntmps28
  go_wp2_with fail
  go_loopw [6] (fun a wr => ∃ (i : Nat) (u : Value), a = i64 i ∧ i ≤ n ∧ Re wr w.heap.size u 2 (newR 2 (l.take i) []) ∧ Below w.heap.size w wr ∧ ∀ b, u.ownBlock = some b → w.heap.size ≤ b) (fun a _ => n - (intOf a).toNat)
  case atStart => exact ⟨0, _, rfl, by omega, HO0.out, HB0.out, fun b hb => by cases hb⟩
  case round =>
    obtain ⟨i, u, rfl, hi, hO, hbr, hv⟩ := hrel
    have HO := Lib.hid hO
    have HBR := Lib.hid hbr
    have HV := Lib.hid hv
    clear hO hbr hv
    by_cases hlt : i < n
    · have hlt' : (i : Int) < (n : Int) := by omega
      obtain ⟨t, ht⟩ : ∃ t, l[i]? = some t := ⟨_, List.getElem?_eq_getElem (by rw [HL.out.1]; exact hlt)⟩
      obtain ⟨b, off, rfl, x1, x2⟩ := HL.out.2 i t ht
      have y1 : wr.cell? ⟨b, off + i * 2, none⟩ = some (.int .u64 t.1) := keep HBR.out x1
      have y2 : wr.cell? ⟨b, off + i * 2 + 1, none⟩ = some (.int .u64 t.2) := keep HBR.out x2
      have HT := Lib.hid ht
      have hlen := newR_len 2 (l.take i) []
      simp only [List.length_nil, List.length_take, Nat.zero_add] at hlen
      have CALL := Lib.hid (fun j => DO.out _ t _ _ _ (HO.out.below (below_drewN wr.heap.size wr j)) (by omega))
      clear ht x1 x2 hlen
      go_wp2_with fail
      refine (CALL.out 0).mono ?_
      rintro e w4 ⟨rfl, v', k1, k2, k3⟩
      have K1 := Lib.hid k1
      have K2 := Lib.hid k2
      have K3 := Lib.hid k3
      clear k1 k2 k3
      go_wp2
      go_roundw
      case rel =>
        have hge : ∀ k, v'.ownBlock = some k → w.heap.size ≤ k := fun k hk => by
          rcases K3.out k hk with e | e
          · exact HV.out k e
          · have h1 := HBR.out.size
            have h2 : wr.heap.size ≤ k := e
            omega
        refine ⟨i + 1, v', by first | rfl | simp, by omega, ?_, ?_, hge⟩
        · rw [take_snoc HT.out, newR_snoc]; exact K1.out
        · refine HBR.out.trans ((below_drewN _ wr _).trans (K2.out.below ?_ ?_ HV.out))
          · exact HBR.out.size
          · intro k hk; simp only [Option.some.injEq] at hk; omega
      case measure => simp [intOf]; omega
    · have hge : (n : Int) ≤ (i : Int) := by omega
      obtain rfl : i = n := by omega
      go_wp2
      go_returns
      refine ⟨w.heap.size, rfl, u, ?_, HBR.out, Nat.le_refl _, HV.out⟩
      have := HO.out
      rwa [List.take_of_length_le (by rw [HL.out.1]; omega)] at this

set_option maxHeartbeats 4000000 in
theorem rnew_map {n cap : Nat} {ad : Option Addr} {l : List Th} {c : Int} (hm : isMap c = true) (hn : n ≤ 200) (w : World) (hl : ThsIn ad n l w) :
    Calls Try.prog 28 #[i64 c, .slice ad n cap] w fun e w' => ∃ Y, e = .returned (P Y) ∧ RMade w c (newR c l []) w' Y := by
  have HL := Lib.hid hl
  have hc : 3 ≤ c ∧ c ≤ 6 := by unfold isMap at hm; simpa using hm
  have e1 : (c == 1) = false := by simp; omega
  have e2 : (c == 2) = false := by simp; omega
  have hput : putOf c = 5 := by unfold putOf; rw [if_neg (by omega), if_neg (by omega)]
  have HPUT := Lib.hid hput
  clear hm hc hput
  have DO := Lib.hid (fun (Q : List Pu) (t : Th) (Y : Nat) (u : Value) (W : World) (hO : Re W Y u c Q) (hln : Q.length ≤ 1000) => rdo_any (c := c) 5 t.1 t.2 W hO hln)
  have HO0 := Lib.hid (show Re (w.alloc (.cells #[i64 c, .slice none 0 0] 75)) w.heap.size (.slice none 0 0) c (newR c (l.take 0) []) from
    ⟨by simp [go_sem], by simp [go_sem], by simp [go_sem], Sl.nil _ _ _, by simp [Value.ownBlock]⟩)
  have HB0 := Lib.hid (show Below w.heap.size w (w.alloc (.cells #[i64 c, .slice none 0 0] 75)) by go_grown)
  clear hl
  go_enter Try.func28, Try.ntmps28
  go_wp2_with fail
  go_loopw [6] (fun a wr => ∃ (i : Nat) (u : Value), a = i64 i ∧ i ≤ n ∧ Re wr w.heap.size u c (newR c (l.take i) []) ∧ Below w.heap.size w wr ∧ ∀ b, u.ownBlock = some b → w.heap.size ≤ b) (fun a _ => n - (intOf a).toNat)
  case atStart => exact ⟨0, _, rfl, by omega, HO0.out, HB0.out, fun b hb => by cases hb⟩
  case round =>
    obtain ⟨i, u, rfl, hi, hO, hbr, hv⟩ := hrel
    have HO := Lib.hid hO
    have HBR := Lib.hid hbr
    have HV := Lib.hid hv
    clear hO hbr hv
    by_cases hlt : i < n
    · have hlt' : (i : Int) < (n : Int) := by omega
      obtain ⟨t, ht⟩ : ∃ t, l[i]? = some t := ⟨_, List.getElem?_eq_getElem (by rw [HL.out.1]; exact hlt)⟩
      obtain ⟨b, off, rfl, x1, x2⟩ := HL.out.2 i t ht
      have y1 : wr.cell? ⟨b, off + i * 2, none⟩ = some (.int .u64 t.1) := keep HBR.out x1
      have y2 : wr.cell? ⟨b, off + i * 2 + 1, none⟩ = some (.int .u64 t.2) := keep HBR.out x2
      have HT := Lib.hid ht
      have hlen := newR_len c (l.take i) []
      simp only [List.length_nil, List.length_take, Nat.zero_add] at hlen
      have CALL := Lib.hid (fun j => DO.out _ t _ _ _ (HO.out.below (below_drewN wr.heap.size wr j)) (by omega))
      clear ht x1 x2 hlen
      go_wp2_with fail
      go_region_with (go_at_call 26; refine (CALL.out 1).mono ?_; rintro e w4 ⟨rfl, v', k1, k2, k3⟩)
      all_goals
        have K1 := Lib.hid k1
        have K2 := Lib.hid k2
        have K3 := Lib.hid k3
        clear k1 k2 k3
        go_wp2
        go_roundw
        case rel =>
          have hge : ∀ k, v'.ownBlock = some k → w.heap.size ≤ k := fun k hk => by
            rcases K3.out k hk with e | e
            · exact HV.out k e
            · have h1 := HBR.out.size
              have h2 : wr.heap.size ≤ k := e
              omega
          refine ⟨i + 1, v', by first | rfl | simp, by omega, ?_, ?_, hge⟩
          · rw [take_snoc HT.out, newR_snoc, HPUT.out]; exact K1.out
          · refine HBR.out.trans ((below_drewN _ wr _).trans (K2.out.below ?_ ?_ HV.out))
            · exact HBR.out.size
            · intro k hk; simp only [Option.some.injEq] at hk; omega
        case measure => simp [intOf]; omega
    · have hge : (n : Int) ≤ (i : Int) := by omega
      obtain rfl : i = n := by omega
      go_wp2
      go_returns
      refine ⟨w.heap.size, rfl, u, ?_, HBR.out, Nat.le_refl _, HV.out⟩
      have := HO.out
      rwa [List.take_of_length_le (by rw [HL.out.1]; omega)] at this

theorem rnew_any {n cap : Nat} {ad : Option Addr} {l : List Th} (c : Int) (h1 : 1 ≤ c) (h2 : c ≤ 6) (hn : n ≤ 200) (w : World) (hl : ThsIn ad n l w) :
    Calls Try.prog 28 #[i64 c, .slice ad n cap] w fun e w' => ∃ Y, e = .returned (P Y) ∧ RMade w c (newR c l []) w' Y := by
  by_cases hc1 : c = 1
  · subst hc1; exact rnew_1 hn w hl
  by_cases hc2 : c = 2
  · subst hc2; exact rnew_2 hn w hl
  exact rnew_map (by unfold isMap; simp; omega) hn w hl

set_option maxHeartbeats 4000000 in
theorem rcopy_any {Y : Nat} {u : Value} {c : Int} {Q : List Pu} (w : World) (h : Re w Y u c Q) (hn : Q.length ≤ 1000) :
    Calls Try.prog 21 #[P Y] w fun e w' => ∃ Y', e = .returned (P Y') ∧ RMade w c Q w' Y' := by
  obtain ⟨i, z, hi, hz, hzc, hs, h8⟩ := info77p
  obtain ⟨ad, cap, rfl, _⟩ := h.sl.form
  obtain ⟨n, hQ⟩ : ∃ n, Q.length = n := ⟨_, rfl⟩
  have c0 := h.c0
  have hv := h.hv
  have hsl := h.sl
  have hY := h.ltY
  rw [hQ] at hn hsl hv
  have RUN : ∀ W : World, Below w.heap.size w W → ∀ ty, ∃ ad4 cap4 w4, (Builtin.append_ #[73, 73] ty #[.slice none 0 0, .slice ad n cap]).run Try.prog W = .ok (.slice ad4 n cap4) w4 ∧
      (Sl w4 77 3 (.slice ad4 n cap4) n (cells3 Q) ∧ Below w.heap.size w w4 ∧ ∀ b, (Value.slice ad4 n cap4).ownBlock = some b → w.heap.size ≤ b) := fun W hW ty => by
    have hs' := hsl.below hW
    have hsrc : Src Try.prog 3 73 (.slice ad n cap) n (cells3 Q) W := ⟨.inl ⟨77, Try.underlying73⟩, fun w' => by simp [Builtin.lenOf], firstCells_sl _ hs', firstCells_sl _ (hs'.kept (w' := W.drew) fun _ _ => rfl), hs'.1, hs'.2.1⟩
    obtain ⟨v', w', h1, h2, h3, h4⟩ := (Sl.nil W 77 3).append (P := Try.prog) 73 73 ty i z 24 Try.underlying73 hi hz hs h8 hzc (.slice ad n cap) n (cells3 Q) hsrc (by unfold maxLen; omega) (by omega)
    rw [Nat.zero_add, List.nil_append] at h2
    obtain ⟨ad4, cap4, rfl, _⟩ := h2.form
    refine ⟨ad4, cap4, w', h1, h2, hW.grown h3 hW.size (fun k e => by cases e), fun b hb => ?_⟩
    rcases h4 b hb with e | e
    · cases e
    · have := hW.size; omega
  have HRUN := Lib.hid RUN
  have HQ := Lib.hid hQ
  clear h hsl hQ RUN hi hz hzc hs h8
  go_enter Try.func21, Try.ntmps21
  go_wp2_with fail
  go_region_law (first
    | ((with_reducible show (if Region.wanted (Oper.mk _ (Op.call { callee := Callee.builtin Builtin.append, args := _, argTypes := _ }) _ _ _ _) _ = true then _ else _))
       refine step_app rfl (.const (.slice none 0 0)) (.tmp 10) 73 73 rfl (v := .slice none 0 0) (u := .slice ad n cap) (by simp [Act.eval, Act.put]) (by simp [Act.eval, Act.put]) (HRUN.out _ (by go_grown) _) ?_
       rintro ad4 cap4 w4 H
       have k1 := (H.2.1.cell (p := ⟨Y, 0, none⟩) hY).trans c0
       have H4 := Lib.hid H
       clear H))
  all_goals
    go_wp2
    go_returns
    obtain ⟨s4, b4, o4⟩ := H4.out
    have hsz4 := b4.size
    refine ⟨w4.heap.size, rfl, .slice ad4 n cap4, ⟨by simp [go_sem], by simp [go_sem], by simp [go_sem], ?_, fun e => by have := s4.lt e; omega⟩, b4.trans (Below.mono (by go_grown) hsz4), hsz4, o4⟩
    rw [HQ.out]
    exact s4.below (by go_grown)

end Go.Proofs.Ytphfcfnbefikiaa
