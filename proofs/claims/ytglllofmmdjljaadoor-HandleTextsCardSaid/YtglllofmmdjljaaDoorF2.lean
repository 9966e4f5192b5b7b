/- Plain facts: the reference's Read accepts a list of bytes just if it is some word's text, and then answers that word; no condition. -/
import Derived.Test.YtglllofmmdjljaaDoorF1
namespace Go.Proofs.YtglllofmmdjljaaDoor
open Go.RowKit Go.Sort Go.Lib

def sg (m : Nat) : List UInt8 := (if m = 1 ∨ m = 3 then [226, 128, 178] else []) ++ (if m = 2 ∨ m = 3 then [226, 128, 179] else [])
def tgt (t : Nat) : List UInt8 := if t = 0 then [] else [64] ++ decDigits t

theorem textOf_eq (h : Nat) : textOf h = decDigits (h % 4194304) ++ (sg (h / 4194304 % 4) ++ tgt (h / 16777216)) := by
  unfold textOf sg tgt; simp

theorem textOf_pack (n m t : Nat) (hn : n < 4194304) (hm : m ≤ 3) : textOf (packN n m t) = decDigits n ++ (sg m ++ tgt t) := by
  rw [textOf_eq]
  unfold packN
  rw [show (n + m * 4194304 + t * 16777216) % 4194304 = n by omega, show (n + m * 4194304 + t * 16777216) / 4194304 % 4 = m by omega, show (n + m * 4194304 + t * 16777216) / 16777216 = t by omega]

theorem pack_parts (h : Nat) : packN (h % 4194304) (h / 4194304 % 4) (h / 16777216) = h := by unfold packN; omega

theorem tgt_head (t : Nat) : ∀ c r, tgt t = c :: r → c = 64 := by
  intro c r h
  unfold tgt at h
  split at h
  · cases h
  · simp at h; exact h.1.symm

theorem sg_tgt_head (m t : Nat) : ∀ c r, sg m ++ tgt t = c :: r → isDig c = false := by
  intro c r h
  have h2 := tgt_head t
  unfold sg at h
  by_cases a : m = 1 ∨ m = 3
  · rw [if_pos a] at h; simp at h; rw [← h.1]; rfl
  · rw [if_neg a] at h
    by_cases b : m = 2 ∨ m = 3
    · rw [if_pos b] at h; simp at h; rw [← h.1]; rfl
    · rw [if_neg b] at h
      simp at h
      rw [h2 c r h]; rfl

theorem tk_at (l : List UInt8) (p q : List UInt8) (a : Nat) (t : List UInt8) (hl : l = p ++ q) (ha : a = p.length) : tk l a t = decide (q.take 3 = t) := by
  subst hl; subst ha; unfold tk; rw [List.drop_left]

theorem take3 (x y z : UInt8) (q t : List UInt8) : decide (([x, y, z] ++ q).take 3 = t) = decide ([x, y, z] = t) := by
  rw [show ([x, y, z] ++ q).take 3 = [x, y, z] from rfl]

theorem refTail_at (l p : List UInt8) (n m k t : Nat) (hl : l = p ++ tgt t) (hk : k = p.length) (ht : t < 1099511627776) : refTail l n m k = some (packN n m t) := by
  unfold refTail
  by_cases h0 : t = 0
  · subst h0
    rw [if_pos (by rw [hl, hk]; simp [tgt])]
  · have htg : tgt t = [64] ++ decDigits t := by unfold tgt; rw [if_neg h0]
    have hlen : l.length = k + 1 + (decDigits t).length := by rw [hl, htg, hk]; simp; omega
    rw [if_neg (by rw [hlen]; omega)]
    have hg : l[k]? = some 64 := by rw [hl, htg, hk]; simp
    rw [if_neg (by rw [hg]; simp)]
    have hd : l.drop (k + 1) = decDigits t ++ [] := by
      rw [hl, htg, hk, ← List.append_assoc, List.drop_append_of_le_length (by simp)]
      simp
    rw [hd, digR_dec t (by omega) [] (by intro c r e; cases e)]
    simp only
    rw [if_pos ⟨hlen.symm, h0, ht⟩]

theorem refRead_text (h : Nat) (hh : h < 18446744073709551616) : refRead (textOf h) = some h := by
  rw [textOf_eq]
  have ht : h / 16777216 < 1099511627776 := by omega
  have hn : h % 4194304 < 4194304 := by omega
  have hm : h / 4194304 % 4 = 0 ∨ h / 4194304 % 4 = 1 ∨ h / 4194304 % 4 = 2 ∨ h / 4194304 % 4 = 3 := by omega
  have hp := pack_parts h
  generalize h % 4194304 = n at *
  generalize h / 4194304 % 4 = m at *
  generalize h / 16777216 = t at *
  unfold refRead
  rw [digR_dec n (by omega) _ (sg_tgt_head m t)]
  simp only
  rw [if_neg (by omega)]
  rw [← hp]
  unfold refMarks
  have hth : ∀ x y z : UInt8, x ≠ 64 → decide ((tgt t).take 3 = [x, y, z]) = false := by
    intro x y z hx
    rw [decide_eq_false_iff_not]
    intro e
    cases hq : tgt t with
    | nil => rw [hq] at e; simp at e
    | cons c r =>
      have := tgt_head t c r hq
      rw [hq] at e
      simp at e
      exact hx (by rw [← e.1, this])
  rcases hm with rfl | rfl | rfl | rfl
  · rw [tk_at _ (decDigits n) (tgt t) _ _ (by simp [sg]) rfl, hth _ _ _ (by decide)]
    simp only
    rw [tk_at _ (decDigits n) (tgt t) _ _ (by simp [sg]) rfl, hth _ _ _ (by decide)]
    simp only
    exact refTail_at _ (decDigits n) n 0 _ t (by simp [sg]) rfl ht
  · rw [tk_at _ (decDigits n) ([226, 128, 178] ++ tgt t) _ _ (by simp [sg]) rfl]
    rw [take3, show decide ([(226 : UInt8), 128, 178] = [226, 128, 178]) = true from rfl]
    simp only
    rw [tk_at _ (decDigits n ++ [226, 128, 178]) (tgt t) _ _ (by simp [sg]) (by simp), hth _ _ _ (by decide)]
    simp only
    exact refTail_at _ (decDigits n ++ [226, 128, 178]) n 1 _ t (by simp [sg]) (by simp) ht
  · rw [tk_at _ (decDigits n) ([226, 128, 179] ++ tgt t) _ _ (by simp [sg]) rfl]
    rw [take3, show decide ([(226 : UInt8), 128, 179] = [226, 128, 178]) = false from rfl]
    simp only
    rw [tk_at _ (decDigits n) ([226, 128, 179] ++ tgt t) _ _ (by simp [sg]) rfl]
    rw [take3, show decide ([(226 : UInt8), 128, 179] = [226, 128, 179]) = true from rfl]
    simp only
    exact refTail_at _ (decDigits n ++ [226, 128, 179]) n 2 _ t (by simp [sg]) (by simp) ht
  · rw [tk_at _ (decDigits n) ([226, 128, 178] ++ ([226, 128, 179] ++ tgt t)) _ _ (by simp [sg]) rfl]
    rw [take3, show decide ([(226 : UInt8), 128, 178] = [226, 128, 178]) = true from rfl]
    simp only
    rw [tk_at _ (decDigits n ++ [226, 128, 178]) ([226, 128, 179] ++ tgt t) _ _ (by simp [sg]) (by simp)]
    rw [take3, show decide ([(226 : UInt8), 128, 179] = [226, 128, 179]) = true from rfl]
    simp only
    exact refTail_at _ (decDigits n ++ [226, 128, 178] ++ [226, 128, 179]) n 3 _ t (by simp [sg]) (by simp) ht

theorem refTail_is {l : List UInt8} {n m k h : Nat} (_hk : k ≤ l.length) (hh : refTail l n m k = some h) : ∃ t, t < 1099511627776 ∧ h = packN n m t ∧ l.drop k = tgt t := by
  unfold refTail at hh
  split at hh
  · rename_i he
    cases hh
    exact ⟨0, by omega, rfl, by rw [he]; simp [tgt]⟩
  · rename_i hne
    split at hh
    · cases hh
    · rename_i h64
      have h64' : l[k]? = some 64 := Classical.byContradiction fun e => h64 e
      split at hh
      · cases hh
      · rename_i t e hd
        split at hh
        · rename_i hc
          cases hh
          obtain ⟨d1, d2, d3⟩ := digR_is hd
          have hlt : k < l.length := by omega
          have hget : l[k] = 64 := by
            rw [List.getElem?_eq_getElem hlt] at h64'
            exact Option.some.inj h64'
          refine ⟨t, hc.2.2, rfl, ?_⟩
          rw [List.drop_eq_getElem_cons hlt, hget, d1]
          have : (l.drop (k + 1)).drop e = [] := by
            rw [List.drop_drop, List.drop_eq_nil_iff]; omega
          rw [this]
          simp [tgt, hc.2.1]
        · cases hh

theorem tk_is {l : List UInt8} {k : Nat} {x y z : UInt8} (h : tk l k [x, y, z] = true) : l.drop k = [x, y, z] ++ l.drop (k + 3) := by
  unfold tk at h
  have h' := of_decide_eq_true h
  conv => lhs; rw [← List.take_append_drop 3 (l.drop k)]
  rw [h', List.drop_drop]

theorem packN_lt {n m t : Nat} (hn : n < 4194304) (hm : m ≤ 3) (ht : t < 1099511627776) : packN n m t < 18446744073709551616 := by unfold packN; omega

theorem refRead_is {l : List UInt8} {h : Nat} (hh : refRead l = some h) : h < 18446744073709551616 ∧ textOf h = l := by
  unfold refRead at hh
  split at hh
  · cases hh
  · rename_i n k hd
    split at hh
    · cases hh
    · rename_i hn
      obtain ⟨d1, d2, d3⟩ := digR_is hd
      have hkl := (digR_some hd).2.2
      unfold refMarks at hh
      split at hh
      · rename_i t1
        have e1 := tk_is t1
        have l1 := tk_le t1
        split at hh
        · rename_i t2
          have e2 := tk_is t2
          have l2 := tk_le t2
          obtain ⟨t, ht, rfl, e3⟩ := refTail_is (by omega) hh
          refine ⟨packN_lt (by omega) (by omega) ht, ?_⟩
          rw [textOf_pack n 3 t (by omega) (by omega), d1, e1, e2, e3]; rfl
        · obtain ⟨t, ht, rfl, e3⟩ := refTail_is (by omega) hh
          refine ⟨packN_lt (by omega) (by omega) ht, ?_⟩
          rw [textOf_pack n 1 t (by omega) (by omega), d1, e1, e3]; rfl
      · split at hh
        · rename_i t2
          have e2 := tk_is t2
          have l2 := tk_le t2
          obtain ⟨t, ht, rfl, e3⟩ := refTail_is (by omega) hh
          refine ⟨packN_lt (by omega) (by omega) ht, ?_⟩
          rw [textOf_pack n 2 t (by omega) (by omega), d1, e2, e3]; rfl
        · obtain ⟨t, ht, rfl, e3⟩ := refTail_is (by omega) hh
          refine ⟨packN_lt (by omega) (by omega) ht, ?_⟩
          rw [textOf_pack n 0 t (by omega) (by omega), d1, e3]; rfl
end Go.Proofs.YtglllofmmdjljaaDoor
