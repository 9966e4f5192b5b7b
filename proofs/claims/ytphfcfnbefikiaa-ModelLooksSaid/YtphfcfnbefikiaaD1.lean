/- slices.Clone, slices.Reverse. -/
import Derived.Test.YtphfcfnbefikiaaS2
import Derived.Test.YtphfcfnbefikiaaR2
namespace Go.Proofs.Ytphfcfnbefikiaa
open Go.RowKit
set_option linter.unusedVariables false
set_option linter.unusedSimpArgs false

theorem eqlS (b off n cap : Nat) (w : World) : (binOp .eql 22 (.slice (some ⟨b, off, none⟩) n cap) (.slice none 0 0)).run Try.prog w = .ok (.bool false) w := by kernel_rfl
theorem eqlN (w : World) : (binOp .eql 22 (.slice none 0 0) (.slice none 0 0)).run Try.prog w = .ok (.bool true) w := by kernel_rfl

set_option maxHeartbeats 4000000 in
theorem clone_any {n cap : Nat} {ad : Option Addr} {L : List Th} (w : World) (h : Sl w 51 2 (.slice ad n cap) n (cells2 L)) (hL : L.length = n) (hn : n ≤ 1000) :
    Calls Try.prog 33 #[.slice ad n cap] w fun e w' => ∃ ad' cap', e = .returned (.slice ad' n cap') ∧ OwnSl w.heap.size w' (.slice ad' n cap') n L ∧ Below w.heap.size w w' := by
  rcases h.2.2 with ⟨hv, rfl⟩ | ⟨b, off, cap', cur, hv, hh, h1, h2, h3, h4⟩
  · simp only [Value.slice.injEq] at hv
    obtain ⟨rfl, -, rfl⟩ := hv
    have HL := Lib.hid (show L = [] by simpa using hL)
    have EN := eqlN
    clear h hL
    go_enter Try.func33, Try.ntmps33
    go_wp2
    go_returns
    refine ⟨none, 0, rfl, ?_, Below.refl _ _⟩
    rw [HL.out]
    exact ⟨rfl, Sl.nil _ _ _, fun b hb => by cases hb⟩
  · simp only [Value.slice.injEq] at hv
    obtain ⟨rfl, -, rfl⟩ := hv
    have HS := Lib.hid h
    have HL := Lib.hid hL
    have ES := eqlS
    clear h hL hh h2 h3 h4
    go_enter Try.func33, Try.ntmps33
    have RUN := Lib.hid (show ∀ ty, ∃ ad4 cap4 w4, (Builtin.append_ #[22, 22] ty #[.slice (some ⟨w.heap.size, 0, none⟩) 0 0, .slice (some ⟨b, off, none⟩) n cap]).run Try.prog (w.alloc (.cells #[] 51)) = .ok (.slice ad4 n cap4) w4 ∧ (OwnSl w.heap.size w4 (.slice ad4 n cap4) n ([] ++ L) ∧ Below w.heap.size w w4) from fun ty => by
      have hb : Below w.heap.size w (w.alloc (.cells #[] 51)) := by go_grown
      exact app_own (n := 0) (m := n) (k := n) hb (Nat.le_refl _) (L := []) ⟨rfl, ⟨rfl, fun u hu => (by cases hu), .inr ⟨w.heap.size, 0, 0, #[], rfl, heap_alloc_new w _, by omega, by unfold maxLen; omega, by simp, fun j hj => by omega⟩⟩, fun k hk => by simp only [Value.ownBlock, Option.some.injEq] at hk; omega⟩ (HS.out.below hb) HL.out (by omega) ty (by omega))
    go_wp2_with ((with_reducible show wpList _ _ _ (Oper.mk _ (Op.call { callee := Callee.builtin Builtin.append, args := _, argTypes := _ }) _ _ _ _ :: _) _ _); refine wpList_app rfl (.tmp 5) (.tmp 6) 22 22 rfl rfl rfl (RUN.out _) ?_; rintro ad4 cap4 w4 H; have H4 := Lib.hid H; clear H)
    go_returns
    exact ⟨ad4, cap4, rfl, by simpa using H4.out.1, H4.out.2⟩

theorem cells2_set {M : List Th} {i : Nat} (t : Th) (hi : i < M.length) : cells2 (M.set i t) = ((cells2 M).set (i * 2) (.int .u64 t.1)).set (i * 2 + 1) (.int .u64 t.2) := by
  induction M generalizing i with
  | nil => simp at hi
  | cons a M ih =>
    cases i with
    | zero => rfl
    | succ i =>
      rw [show (i + 1) * 2 = (i * 2) + 1 + 1 by omega, show i * 2 + 1 + 1 + 1 = (i * 2 + 1) + 1 + 1 by omega]
      simp only [List.set_cons_succ, cells2]
      rw [ih (by simpa using hi)]

theorem Sl.set2 {w : World} {n cap b off i : Nat} {M : List Th} (h : Sl w 51 2 (.slice (some ⟨b, off, none⟩) n cap) n (cells2 M)) (hM : M.length = n) (hi : i < n) (t : Th) :
    Sl ((w.setCell ⟨b, off + i * 2, none⟩ (.int .u64 t.1)).setCell ⟨b, off + i * 2 + 1, none⟩ (.int .u64 t.2)) 51 2 (.slice (some ⟨b, off, none⟩) n cap) n (cells2 (M.set i t)) := by
  rw [cells2_set t (by omega), Nat.add_assoc off]
  exact (h.set _ rfl (by omega)).set _ rfl (by omega)

/-- the list when the places up to i and from j on have been exchanged -/
def revAt (L : List Th) (i : Nat) (k : Nat) : Option Th := if k < i ∨ L.length - i ≤ k then L[L.length - 1 - k]? else L[k]?

set_option maxHeartbeats 8000000 in
theorem reverse_any {n cap b off : Nat} {L : List Th} (w : World) (h : Sl w 51 2 (.slice (some ⟨b, off, none⟩) n cap) n (cells2 L)) (hL : L.length = n) (hn : n ≤ 1000) :
    Calls Try.prog 36 #[.slice (some ⟨b, off, none⟩) n cap] w fun e w' => e = .returned (.tuple #[]) ∧ Sl w' 51 2 (.slice (some ⟨b, off, none⟩) n cap) n (cells2 L.reverse) ∧ w.grownBy w' (some b) := by
  have HS := Lib.hid h
  have HL := Lib.hid hL
  clear h hL
  go_enter Try.func36, Try.ntmps36
  go_wp2_with fail
  go_loopw [2, 3] (fun x y wr => ∃ (i : Nat) (M : List Th), x = i64 i ∧ y = i64 ((n : Int) - 1 - i) ∧ 2 * i ≤ n ∧ M.length = n ∧ (∀ k, k < n → M[k]? = revAt L i k) ∧ Sl wr 51 2 (.slice (some ⟨b, off, none⟩) n cap) n (cells2 M) ∧ w.grownBy wr (some b)) (fun x y _ => ((intOf y) - (intOf x) + 1).toNat)
  case atStart => exact ⟨0, L, rfl, by simp, by omega, HL.out, fun k hk => by unfold revAt; rw [if_neg (by rw [HL.out]; omega)], HS.out, ⟨rfl, rfl, rfl, Nat.le_refl _, fun _ _ _ => rfl⟩⟩
  case round =>
    obtain ⟨i, M, rfl, rfl, hi, hM, hrev, hsl, hg⟩ := hrel
    have HREV := Lib.hid hrev
    have HSL := Lib.hid hsl
    have HG := Lib.hid hg
    have HM := Lib.hid hM
    clear hrev hg hM
    by_cases hlt : 2 * i + 1 < n
    · obtain ⟨j, hj⟩ : ∃ j : Nat, j = n - 1 - i := ⟨_, rfl⟩
      have hji : (n : Int) - 1 - (i : Int) = (j : Int) := by omega
      have hij : (i : Int) < (j : Int) := by omega
      have hin : (i : Int) < (n : Int) := by omega
      have hjn : (j : Int) < (n : Int) := by omega
      have hi0 : (0 : Int) ≤ (i : Int) := by omega
      have hj0 : (0 : Int) ≤ (j : Int) := by omega
      obtain ⟨s, hs⟩ : ∃ s, M[i]? = some s := ⟨_, List.getElem?_eq_getElem (by rw [HM.out]; omega)⟩
      obtain ⟨t, ht⟩ : ∃ t, M[j]? = some t := ⟨_, List.getElem?_eq_getElem (by rw [HM.out]; omega)⟩
      obtain ⟨b', off', cap', hv', hbl, _, _, hfz, hc, _⟩ := hsl.at (by omega)
      simp only [Value.slice.injEq, Option.some.injEq, Addr.mk.injEq, and_true, true_and] at hv'
      obtain ⟨⟨rfl, rfl⟩, rfl⟩ := hv'
      have x1 : wr.cell? ⟨b, off + i * 2, none⟩ = some (.int .u64 s.1) := (hc _ (by omega)).trans (cells2_0 hs)
      have x2 : wr.cell? ⟨b, off + i * 2 + 1, none⟩ = some (.int .u64 s.2) := (hc (i * 2 + 1) (by omega)).trans (cells2_1 hs)
      have y1 : wr.cell? ⟨b, off + j * 2, none⟩ = some (.int .u64 t.1) := (hc _ (by omega)).trans (cells2_0 ht)
      have y2 : wr.cell? ⟨b, off + j * 2 + 1, none⟩ = some (.int .u64 t.2) := (hc (j * 2 + 1) (by omega)).trans (cells2_1 ht)
      have HSS := Lib.hid hs
      have HTT := Lib.hid ht
      have HJ := Lib.hid hj
      have n1 : ¬ (off + i * 2 = off + j * 2) := by omega
      have n2 : ¬ (off + i * 2 = off + j * 2 + 1) := by omega
      have n3 : ¬ (off + i * 2 + 1 = off + j * 2) := by omega
      clear hc hs ht hsl hj
      simp only [hji]
      clear hji
      go_wp2_with fail
      go_region_law (fail)
      all_goals
        go_wp2
        go_roundw
        case rel =>
          have s2 := (HSL.out.set2 HM.out (show i < n by omega) t).set2 (M := M.set i t) (by rw [List.length_set]; exact HM.out) (show j < n by omega) s
          refine ⟨i + 1, (M.set i t).set j s, by first | rfl | simp, by have := HJ.out; first | (congr 1; omega) | simp; omega, by omega, by simp [HM.out], fun k hk => ?_, s2.kept fun _ _ => rfl, ?_⟩
          · have hJ := HJ.out
            have hR := HREV.out k hk
            have hRi := HREV.out i (by omega)
            have hRj := HREV.out j (by omega)
            rw [HSS.out] at hRi
            rw [HTT.out] at hRj
            unfold revAt at hR hRi hRj ⊢
            rw [HL.out] at hR hRi hRj ⊢
            rw [if_neg (by omega)] at hRi hRj
            by_cases hkj : k = j
            · subst hkj
              rw [List.getElem?_set_self (by rw [List.length_set, HM.out]; omega), if_pos (by omega), hRi]
              first | rfl | (congr 1; done) | (congr 1; omega)
            · rw [List.getElem?_set_ne (by omega)]
              by_cases hki : k = i
              · subst hki
                rw [List.getElem?_set_self (by rw [HM.out]; omega), if_pos (by omega), hRj]
                first | rfl | (congr 1; done) | (congr 1; omega)
              · rw [List.getElem?_set_ne (by omega), hR]
                by_cases hc : k < i ∨ n - i ≤ k
                · rw [if_pos hc, if_pos (by omega)]
                · rw [if_neg hc, if_neg (by omega)]
          · have g1 := HG.out
            refine ⟨g1.os, g1.tape, g1.output, by simpa using g1.size, fun k hk hne => ?_⟩
            have hkb : k ≠ b := fun e => hne (by rw [e])
            show ((((wr.setCell _ _).setCell _ _).setCell _ _).setCell _ _).heap[k]? = _
            rw [Below.heap_setCell _ _ _ _ hkb, Below.heap_setCell _ _ _ _ hkb, Below.heap_setCell _ _ _ _ hkb, Below.heap_setCell _ _ _ _ hkb]
            exact g1.block k hk hne
        case measure => simp [intOf]; omega
    · have hge : (n : Int) - 1 - (i : Int) ≤ (i : Int) := by omega
      have HR := Lib.hid (show cells2 M = cells2 L.reverse by
        congr 1
        apply List.ext_getElem?
        intro k
        by_cases hk : k < n
        · rw [HREV.out k hk, List.getElem?_reverse (by rw [HL.out]; exact hk)]
          unfold revAt
          rw [HL.out]
          by_cases hc : k < i ∨ n - i ≤ k
          · rw [if_pos hc]
          · rw [if_neg hc]
            congr 1; omega
        · rw [List.getElem?_eq_none (by rw [HM.out]; omega), List.getElem?_eq_none (by rw [List.length_reverse, HL.out]; omega)])
      clear hsl
      go_wp2
      go_returns
      rw [← HR.out]
      exact ⟨rfl, HSL.out, HG.out⟩
theorem reverse_nil (w : World) : Calls Try.prog 36 #[.slice none 0 0] w fun e w' => e = .returned (.tuple #[]) ∧ w = w' := by
  go_enter Try.func36, Try.ntmps36
  go_wp2_with fail
  go_loopw [2, 3] (fun x y wr => x = i64 0 ∧ y = i64 (-1) ∧ wr = w) (fun x y _ => 0)
  case atStart => exact ⟨rfl, rfl, rfl⟩
  case round =>
    obtain ⟨rfl, rfl, rfl⟩ := hrel
    go_wp2
    go_returns
    exact ⟨rfl, rfl⟩
end Go.Proofs.Ytphfcfnbefikiaa
