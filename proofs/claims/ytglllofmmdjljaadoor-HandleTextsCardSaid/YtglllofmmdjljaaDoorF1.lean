/- Plain facts: the reader's fold accepts a string just if it is some word's text, and then answers that word; no condition. -/
import Derived.Test.YtglllofmmdjljaaDoorB3
import Derived.Test.YtglllofmmdjljaaDoorE4
namespace Go.Proofs.YtglllofmmdjljaaDoor
open Go.RowKit Go.Sort Go.Lib

/-! Digits -/
theorem dch_toNat {d : Nat} (h : d < 10) : (dch d).toNat = 48 + d := by
  unfold dch; rw [UInt8.toNat_ofNat']; omega
theorem dch_isDig {d : Nat} (h : d < 10) : isDig (dch d) = true := by
  unfold isDig; rw [dch_toNat h]; simp; omega

theorem dec_ind {P : Nat → Prop} (h1 : ∀ n, n < 10 → P n) (h2 : ∀ n, ¬ n < 10 → P (n / 10) → P n) (n : Nat) : P n := by
  induction n using Nat.strongRecOn with
  | ind n ih =>
    by_cases h : n < 10
    · exact h1 n h
    · exact h2 n h (ih (n / 10) (by omega))

theorem val_dec (n : Nat) : val (decDigits n) = n := by
  refine dec_ind (P := fun n => val (decDigits n) = n) ?_ ?_ n
  · intro n h
    rw [dec_small h]; simp [val, dch_toNat h]
  · intro n h ih
    rw [dec_big h, val_snoc, ih, dch_toNat (by omega)]; omega

theorem dec_all (n : Nat) : ∀ c ∈ decDigits n, isDig c = true := by
  refine dec_ind (P := fun n => ∀ c ∈ decDigits n, isDig c = true) ?_ ?_ n
  · intro n h c hc
    rw [dec_small h] at hc; simp at hc; rw [hc]; exact dch_isDig h
  · intro n h ih c hc
    rw [dec_big h] at hc
    rcases List.mem_append.1 hc with hc | hc
    · exact ih c hc
    · simp at hc; rw [hc]; exact dch_isDig (by omega)

theorem dec_ne (n : Nat) : decDigits n ≠ [] := by
  by_cases h : n < 10
  · rw [dec_small h]; simp
  · rw [dec_big h]; simp

theorem dec_head (n : Nat) (hn : 0 < n) : ∃ c t, decDigits n = c :: t ∧ c ≠ 48 := by
  refine dec_ind (P := fun n => 0 < n → ∃ c t, decDigits n = c :: t ∧ c ≠ 48) ?_ ?_ n hn
  · intro n h h0
    refine ⟨dch n, [], dec_small h, ?_⟩
    intro e
    have := congrArg UInt8.toNat e
    rw [dch_toNat h] at this
    simp at this
    omega
  · intro n h ih _
    obtain ⟨c, t, e, hc⟩ := ih (by omega)
    exact ⟨c, t ++ [dch (n % 10)], by rw [dec_big h, e]; rfl, hc⟩

theorem isDig_dch {c : UInt8} (h : isDig c = true) : c = dch (c.toNat - 48) ∧ c.toNat - 48 < 10 := by
  unfold isDig at h
  have h' := of_decide_eq_true h
  refine ⟨?_, by omega⟩
  apply UInt8.toNat_inj.1
  rw [dch_toNat (by omega)]
  omega

/-- Digits that are no numeral with a leading zero are the numeral of their value. -/
theorem dec_val (ds : List UInt8) (hd : ∀ c ∈ ds, isDig c = true) (hne : ds ≠ []) (hz : ds.length = 1 ∨ ds.head? ≠ some 48) : decDigits (val ds) = ds := by
  obtain ⟨l, c, rfl⟩ : ∃ l c, ds = l ++ [c] := by
    rcases List.eq_nil_or_concat ds with h | ⟨l, c, h⟩
    · exact absurd h hne
    · exact ⟨l, c, by simpa using h⟩
  clear hne
  induction hk : l.length generalizing l c with
  | zero =>
    have : l = [] := List.length_eq_zero_iff.1 hk
    subst this
    obtain ⟨e, hlt⟩ := isDig_dch (hd c (by simp))
    have hv : val ([] ++ [c]) = c.toNat - 48 := by simp [val]
    rw [hv, dec_small hlt, ← e]; rfl
  | succ k ih =>
    obtain ⟨l', c', rfl⟩ : ∃ l' c', l = l' ++ [c'] := by
      rcases List.eq_nil_or_concat l with h | ⟨l', c', h⟩
      · subst h; simp at hk
      · exact ⟨l', c', by simpa using h⟩
    obtain ⟨e, hlt⟩ := isDig_dch (hd c (by simp))
    have hhd : (l' ++ [c']).head? ≠ some 48 := by
      rcases hz with hz | hz
      · simp at hz
      · cases l' with
        | nil => simpa using hz
        | cons x t => simpa using hz
    have h1 := ih l' c' (fun x hx => hd x (List.mem_append_left _ hx)) (.inr hhd) (by simpa using hk)
    have hpos : 0 < val (l' ++ [c']) := by
      rcases Nat.eq_zero_or_pos (val (l' ++ [c'])) with h0 | h0
      · rw [h0] at h1
        rw [← h1] at hhd
        exact absurd (by rw [dec_small (by omega)]; rfl) hhd
      · exact h0
    rw [val_snoc]
    have hbig : ¬ 10 * val (l' ++ [c']) + (c.toNat - 48) < 10 := by omega
    rw [dec_big hbig, show (10 * val (l' ++ [c']) + (c.toNat - 48)) / 10 = val (l' ++ [c']) by omega, show (10 * val (l' ++ [c']) + (c.toNat - 48)) % 10 = c.toNat - 48 by omega, h1, ← e]

theorem tw_dec (n : Nat) (rest : List UInt8) (h : ∀ c t, rest = c :: t → isDig c = false) : (decDigits n ++ rest).takeWhile isDig = decDigits n := by
  rw [List.takeWhile_append_of_pos (dec_all n)]
  cases rest with
  | nil => simp
  | cons c t => simp [h c t rfl]

theorem digR_dec (n : Nat) (hn : n ≤ 1099511627776) (rest : List UInt8) (h : ∀ c t, rest = c :: t → isDig c = false) : digR (decDigits n ++ rest) = some (n, (decDigits n).length) := by
  unfold digR
  rw [tw_dec n rest h, val_dec]
  rw [if_neg]
  rintro (h1 | h1 | ⟨h1, h2⟩)
  · omega
  · exact dec_ne n (List.length_eq_zero_iff.1 h1)
  · by_cases h0 : 0 < n
    · obtain ⟨c, t, e, hc⟩ := dec_head n h0
      rw [e] at h2
      exact hc (by simpa using h2)
    · have : n = 0 := by omega
      subst this
      rw [dec_small (by omega)] at h1
      simp at h1

/-- What digR accepts begins with the numeral of its value. -/
theorem digR_is {l : List UInt8} {v n : Nat} (h : digR l = some (v, n)) : l = decDigits v ++ l.drop n ∧ n = (decDigits v).length ∧ (∀ c t, l.drop n = c :: t → isDig c = false) := by
  unfold digR at h
  split at h
  · cases h
  · rename_i hc
    simp only [not_or, not_and] at hc
    cases h
    obtain ⟨h1, h2, h3⟩ := hc
    have hp := List.takeWhile_prefix isDig (l := l)
    obtain ⟨r, hr⟩ := hp
    have hdr : l.drop (l.takeWhile isDig).length = r := by
      have := congrArg (List.drop (l.takeWhile isDig).length) hr
      rw [List.drop_left] at this
      exact this.symm
    have hall : ∀ c ∈ l.takeWhile isDig, isDig c = true := fun c hc => List.all_eq_true.1 (List.all_takeWhile (p := isDig) (l := l)) c hc
    have hne : l.takeWhile isDig ≠ [] := fun e => h2 (by rw [e]; rfl)
    have hd := dec_val (l.takeWhile isDig) hall hne (by
      by_cases hl : (l.takeWhile isDig).length = 1
      · exact .inl hl
      · refine .inr ?_
        have := h3 (by omega)
        intro e
        apply this
        cases hq : l.takeWhile isDig with
        | nil => exact absurd hq hne
        | cons c t =>
          rw [hq] at e
          rw [← hr, hq]
          simpa using e)
    refine ⟨by rw [hd, hdr]; exact hr.symm, by rw [hd], ?_⟩
    intro c t e
    have hs := tw_stop l (by
      have := congrArg List.length hr
      rw [hdr] at e
      rw [e] at this
      simp at this
      omega)
    have : l[(l.takeWhile isDig).length]? = some c := by
      have h4 := congrArg (·[0]?) e
      simpa using h4
    rw [List.getElem?_eq_some_iff] at this
    obtain ⟨_, h5⟩ := this
    rw [h5] at hs
    exact hs
end Go.Proofs.YtglllofmmdjljaaDoor
