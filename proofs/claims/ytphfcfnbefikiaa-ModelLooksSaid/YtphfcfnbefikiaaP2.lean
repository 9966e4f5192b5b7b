/- The two ways agree, operation by operation. -/
import Derived.Test.YtphfcfnbefikiaaP1
namespace Go.Proofs.Ytphfcfnbefikiaa
set_option linter.unusedVariables false
set_option linter.unusedSimpArgs false

theorem live_append (A B : List Pu) : live (A ++ B) = live A ++ live B := by simp [live]
theorem live_cons (p : Pu) (P : List Pu) : live (p :: P) = if p.2 then live P else p.1 :: live P := by
  unfold live
  by_cases h : p.2 = true
  · simp [h]
  · simp [h]

theorem split_at {P : List Pu} {i : Nat} {p : Pu} (h : P[i]? = some p) : P = P.take i ++ p :: P.drop (i + 1) := by
  obtain ⟨hi, he⟩ := List.getElem?_eq_some_iff.1 h
  rw [← he, List.getElem_cons_drop, List.take_append_drop]
theorem set_at {P : List Pu} {i : Nat} {p q : Pu} (h : P[i]? = some p) : P.set i q = P.take i ++ q :: P.drop (i + 1) := by
  obtain ⟨hi, he⟩ := List.getElem?_eq_some_iff.1 h
  exact List.set_eq_take_append_cons_drop.trans (if_pos hi)

theorem live_at {P : List Pu} {i : Nat} {t : Th} (h : P[i]? = some (t, false)) : live P = live (P.take i) ++ t :: live (P.drop (i + 1)) := by
  have := congrArg live (split_at h)
  rw [live_append, live_cons] at this
  simpa using this
theorem live_gone {P : List Pu} {i : Nat} {t : Th} (h : P[i]? = some (t, false)) : live (P.set i (t, true)) = live (P.take i) ++ live (P.drop (i + 1)) := by
  rw [set_at h, live_append, live_cons]
  simp

theorem firstR_spec : ∀ (P : List Pu) (s : Nat), (firstR P s = -1 ∧ live P = []) ∨ ∃ i t, firstR P s = ((s + i : Nat) : Int) ∧ P[i]? = some (t, false) ∧ live (P.take i) = []
  | [], s => .inl ⟨rfl, rfl⟩
  | p :: P, s => by
    unfold firstR
    by_cases h : p.2 = true
    · rw [if_pos h]
      rcases firstR_spec P (s + 1) with ⟨h1, h2⟩ | ⟨i, t, h1, h2, h3⟩
      · left; exact ⟨h1, by rw [live_cons, if_pos h]; exact h2⟩
      · right
        refine ⟨i + 1, t, by rw [h1]; congr 1; omega, by simpa using h2, ?_⟩
        rw [List.take_succ_cons, live_cons, if_pos h]; exact h3
    · right
      rw [if_neg h]
      refine ⟨0, p.1, rfl, ?_, rfl⟩
      have : p.2 = false := by simpa using h
      simp [← this]

theorem findR_spec (k : Int) : ∀ (P : List Pu) (s : Nat), (findR k P s = -1 ∧ ∀ t ∈ live P, t.1 ≠ k) ∨ ∃ i t, findR k P s = ((s + i : Nat) : Int) ∧ P[i]? = some (t, false) ∧ t.1 = k
  | [], s => .inl ⟨rfl, by simp [live]⟩
  | p :: P, s => by
    unfold findR
    by_cases h : (!p.2 && p.1.1 == k) = true
    · right
      rw [if_pos h]
      simp only [Bool.and_eq_true, Bool.not_eq_true', beq_iff_eq] at h
      refine ⟨0, p.1, rfl, ?_, h.2⟩
      simp [← h.1]
    · rw [if_neg h]
      rcases findR_spec k P (s + 1) with ⟨h1, h2⟩ | ⟨i, t, h1, h2, h3⟩
      · left
        refine ⟨h1, fun t ht => ?_⟩
        rw [live_cons] at ht
        split at ht
        · exact h2 t ht
        · rcases List.mem_cons.1 ht with e | ht
          · subst e
            intro e
            apply h
            simp_all
          · exact h2 t ht
      · right
        exact ⟨i + 1, t, by rw [h1]; congr 1; omega, by simpa using h2, h3⟩

theorem lastR_spec (P : List Pu) : ∀ n, n ≤ P.length → (lastR P n = -1 ∧ live (P.take n) = []) ∨ ∃ (i : Nat) (t : Th), lastR P n = (i : Int) ∧ i < n ∧ P[i]? = some (t, false) ∧ live (P.take n) = live (P.take i) ++ [t]
  | 0, _ => .inl ⟨rfl, by simp [live]⟩
  | n + 1, hn => by
    have hg : P[n]? = some (P[n]'(by omega)) := List.getElem?_eq_getElem (by omega)
    unfold lastR
    rw [hg]
    have ht : P.take (n + 1) = P.take n ++ [P[n]'(by omega)] := by rw [List.take_add_one, hg]; rfl
    simp only
    by_cases h : (P[n]'(by omega)).2 = true
    · rw [if_pos h]
      have hl : live (P.take (n + 1)) = live (P.take n) := by rw [ht, live_append, live_cons, if_pos h]; simp [live]
      rw [hl]
      rcases lastR_spec P n (by omega) with h1 | ⟨i, t, h1, h2, h3, h4⟩
      · exact .inl h1
      · exact .inr ⟨i, t, h1, by omega, h3, h4⟩
    · rw [if_neg h]
      right
      have h' : (P[n]'(by omega)).2 = false := by simpa using h
      refine ⟨n, (P[n]'(by omega)).1, rfl, by omega, ?_, ?_⟩
      · rw [hg, ← h']
      · rw [ht, live_append, live_cons, if_neg h]; simp [live]

theorem has_iff {L : List Th} {k : Int} (hs : Srt L) : has L k = true ↔ ∃ t ∈ L, t.1 = k := by
  unfold has
  constructor
  · intro h
    cases hg : L[low L k]? with
    | none => rw [hg] at h; cases h
    | some t => rw [hg] at h; exact ⟨t, List.mem_of_getElem? hg, by simpa using h⟩
  · rintro ⟨t, ht, hk⟩
    obtain ⟨j, hj⟩ := List.mem_iff_getElem?.1 ht
    have hlow : low L k ≤ j := by
      rcases Nat.lt_or_ge j (low L k) with h | h
      · have := low_lt L k j t h hj; omega
      · exact h
    have hjl := (List.getElem?_eq_some_iff.1 hj).1
    have hg : L[low L k]? = some (L[low L k]'(by omega)) := List.getElem?_eq_getElem (by omega)
    rw [hg]
    have h1 := low_ge L k hs _ _ (Nat.le_refl _) hg
    rcases Nat.lt_or_ge (low L k) j with h | h
    · have := List.pairwise_iff_getElem.1 hs (low L k) j (by omega) hjl h
      have hj' : L[j] = t := by have := List.getElem?_eq_getElem hjl; rw [hj] at this; exact (Option.some.inj this).symm
      rw [hj'] at this
      omega
    · obtain rfl : j = low L k := by omega
      rw [hg] at hj
      simp only [Option.some.injEq] at hj
      simp [hj, hk]
theorem has_at {L : List Th} {k : Int} (h : has L k = true) : ∃ t, L[low L k]? = some t ∧ t.1 = k := by
  unfold has at h
  cases hg : L[low L k]? with
  | none => rw [hg] at h; cases h
  | some t => rw [hg] at h; exact ⟨t, rfl, by simpa using h⟩

theorem sim_add {c : Int} (hm : isMap c = false) {L : List Th} {P : List Pu} (x : Int) (h : Sim c L P) : (addI x L).1 = (addR 0 x P).1 ∧ Sim c (addI x L).2 (addR 0 x P).2 := by
  unfold Sim at h ⊢
  simp only [hm, Bool.false_eq_true, if_false] at h ⊢
  refine ⟨rfl, ?_⟩
  simp only [addI, addR, live_append, h]
  rfl

theorem sim_pop {c : Int} (hm : isMap c = false) {L : List Th} {P : List Pu} (h : Sim c L P) : (popI L).1 = (outR (lastR P P.length) P).1 ∧ Sim c (popI L).2 (outR (lastR P P.length) P).2 := by
  unfold Sim at h ⊢
  simp only [hm, Bool.false_eq_true, if_false] at h ⊢
  subst h
  have hs := lastR_spec P P.length (Nat.le_refl _)
  rw [List.take_length] at hs
  rcases hs with ⟨h1, h2⟩ | ⟨i, t, h1, h2, h3, h4⟩
  · rw [h1]
    unfold outR popI
    rw [h2]
    simp [h2]
  · rw [h1]
    have ha := live_at h3
    have hd : live (P.drop (i + 1)) = [] := by
      rw [h4] at ha
      have := List.append_cancel_left ha
      simpa using this.symm
    unfold outR popI
    rw [if_neg (by omega), show (i : Int).toNat = i by omega, h3]
    simp only
    rw [live_gone h3, hd, List.append_nil, h4]
    simp

theorem sim_deq {c : Int} (hm : isMap c = false) {L : List Th} {P : List Pu} (h : Sim c L P) : (deqI L).1 = (outR (firstR P 0) P).1 ∧ Sim c (deqI L).2 (outR (firstR P 0) P).2 := by
  unfold Sim at h ⊢
  simp only [hm, Bool.false_eq_true, if_false] at h ⊢
  subst h
  rcases firstR_spec P 0 with ⟨h1, h2⟩ | ⟨i, t, h1, h2, h3⟩
  · rw [h1]
    unfold outR deqI
    rw [h2]
    simp [h2]
  · rw [h1]
    unfold outR deqI
    rw [if_neg (by omega), show ((0 + i : Nat) : Int).toNat = i by omega, h2]
    simp only
    rw [live_gone h2, live_at h2, h3]
    simp

theorem pw_key {Q : List Th} (h : Q.Pairwise fun a b => a.1 ≠ b.1) : ∀ a ∈ Q, ∀ b ∈ Q, a.1 = b.1 → a = b := by
  induction Q with
  | nil => intro a ha; simp at ha
  | cons t Q ih =>
    have hp := List.pairwise_cons.1 h
    intro a ha b hb e
    rcases List.mem_cons.1 ha with e1 | ha'
    · rcases List.mem_cons.1 hb with e2 | hb'
      · rw [e1, e2]
      · rw [e1] at e; exact absurd e (hp.1 b hb')
    · rcases List.mem_cons.1 hb with e2 | hb'
      · rw [e2] at e; exact absurd e.symm (hp.1 a ha')
      · exact ih hp.2 a ha' b hb' e

theorem srt_ne {L : List Th} (h : Srt L) : L.Pairwise fun a b => a.1 ≠ b.1 := h.imp (fun h => by omega)

/-- without one of them: what stays are the others -/
theorem mem_without {Q A B : List Th} {t : Th} (hq : Q = A ++ t :: B) (hp : Q.Pairwise fun a b => a.1 ≠ b.1) (u : Th) : u ∈ A ++ B ↔ u ∈ Q ∧ u ≠ t := by
  subst hq
  have hp' := List.pairwise_append.1 hp
  have hc := List.pairwise_cons.1 hp'.2.1
  simp only [List.mem_append, List.mem_cons]
  constructor
  · rintro (h | h)
    · exact ⟨.inl h, fun e => by subst e; exact hp'.2.2 u h u (by simp) rfl⟩
    · exact ⟨.inr (.inr h), fun e => by subst e; exact hc.1 u h rfl⟩
  · rintro ⟨h | h | h, hn⟩
    · exact .inl h
    · exact absurd h hn
    · exact .inr h

theorem sim_find {L : List Th} {P : List Pu} {k : Int} (hs : Srt L) (hm : ∀ t, t ∈ L ↔ t ∈ live P) (hp : (live P).Pairwise fun a b => a.1 ≠ b.1) :
    (has L k = false ∧ findR k P 0 = -1 ∧ ∀ u ∈ L, u.1 ≠ k) ∨ ∃ i t, has L k = true ∧ findR k P 0 = ((i : Nat) : Int) ∧ P[i]? = some (t, false) ∧ L[low L k]? = some t := by
  rcases findR_spec k P 0 with ⟨h1, h2⟩ | ⟨i, t, h1, h2, h3⟩
  · left
    have : has L k = false := by
      cases hh : has L k with
      | false => rfl
      | true =>
        obtain ⟨t, ht, hk⟩ := (has_iff hs).1 hh
        exact absurd hk (h2 t ((hm t).1 ht))
    exact ⟨this, h1, fun u hu => h2 u ((hm u).1 hu)⟩
  · right
    have hl : t ∈ live P := by rw [live_at h2]; simp
    have hh : has L k = true := (has_iff hs).2 ⟨t, (hm t).2 hl, h3⟩
    obtain ⟨u, hu, huk⟩ := has_at hh
    have : u = t := pw_key hp u ((hm u).1 (List.mem_of_getElem? hu)) t hl (by omega)
    subst this
    exact ⟨i, u, hh, by rw [h1, Nat.zero_add], h2, hu⟩

theorem sim_ins {c : Int} (hc : isMap c = true) {L : List Th} {P : List Pu} (k x : Int) (h : Sim c L P) :
    (insI k x L).1 = (if 0 ≤ findR k P 0 then (no, P) else addR k x P).1 ∧ Sim c (insI k x L).2 (if 0 ≤ findR k P 0 then (no, P) else addR k x P).2 := by
  have h0 := h
  unfold Sim at h
  rw [if_pos hc] at h
  obtain ⟨hs, hm, hp⟩ := h
  rcases sim_find (k := k) hs hm hp with ⟨h1, h2, h3⟩ | ⟨i, t, h1, h2, h3, h4⟩
  · rw [h2]
    unfold insI
    rw [h1]
    simp only [Bool.false_eq_true, if_false]
    rw [if_neg (by omega)]
    refine ⟨rfl, ?_⟩
    unfold Sim
    rw [if_pos hc]
    have hl : live (addR k x P).2 = live P ++ [(k, x)] := by unfold addR; rw [live_append]; rfl
    rw [hl]
    refine ⟨srt_ins (k, x) L hs h3, fun t => ?_, List.pairwise_append.2 ⟨hp, by simp, fun a ha b hb => ?_⟩⟩
    · show t ∈ ins (k, x) L ↔ _
      rw [mem_ins, List.mem_append, ← hm t]
      simp [or_comm]
    · simp only [List.mem_singleton] at hb
      subst hb
      exact h3 a ((hm a).2 ha)
  · rw [h2]
    unfold insI
    rw [h1, if_pos rfl, if_pos (Int.natCast_nonneg i)]
    exact ⟨rfl, h0⟩

theorem sim_rem {c : Int} (hc : isMap c = true) {L : List Th} {P : List Pu} (k : Int) (h : Sim c L P) :
    (remI k L).1 = (outR (findR k P 0) P).1 ∧ Sim c (remI k L).2 (outR (findR k P 0) P).2 := by
  have h0 := h
  unfold Sim at h
  rw [if_pos hc] at h
  obtain ⟨hs, hm, hp⟩ := h
  rcases sim_find (k := k) hs hm hp with ⟨h1, h2, h3⟩ | ⟨i, t, h1, h2, h3, h4⟩
  · rw [h2]
    unfold remI outR
    rw [h1]
    exact ⟨rfl, h0⟩
  · rw [h2]
    unfold remI outR
    rw [h1, if_pos rfl, if_neg (by omega), show ((i : Nat) : Int).toNat = i by omega, h3, h4]
    refine ⟨rfl, ?_⟩
    unfold Sim
    rw [if_pos hc]
    simp only
    have hLs : L = L.take (low L k) ++ t :: L.drop (low L k + 1) := by
      obtain ⟨hi, he⟩ := List.getElem?_eq_some_iff.1 h4
      rw [← he, List.getElem_cons_drop, List.take_append_drop]
    have hpl := live_at h3
    rw [live_gone h3]
    refine ⟨?_, fun u => ?_, ?_⟩
    · refine List.Pairwise.sublist ?_ hs
      conv => rhs; rw [hLs]
      exact List.Sublist.append_left (List.sublist_cons_self _ _) _
    · rw [mem_without hLs (srt_ne hs), mem_without hpl hp, hm u]
    · refine List.Pairwise.sublist ?_ hp
      conv => rhs; rw [hpl]
      exact List.Sublist.append_left (List.sublist_cons_self _ _) _

theorem sim_get {c : Int} (hc : isMap c = true) {L : List Th} {P : List Pu} (k : Int) (h : Sim c L P) :
    (getI k L).1 = (getR (findR k P 0) P).1 ∧ Sim c (getI k L).2 (getR (findR k P 0) P).2 := by
  have h0 := h
  unfold Sim at h
  rw [if_pos hc] at h
  obtain ⟨hs, hm, hp⟩ := h
  rcases sim_find (k := k) hs hm hp with ⟨h1, h2, h3⟩ | ⟨i, t, h1, h2, h3, h4⟩
  · rw [h2]
    unfold getI getR
    rw [h1]
    exact ⟨rfl, h0⟩
  · rw [h2]
    unfold getI getR
    rw [h1, if_pos rfl, if_neg (by omega), show ((i : Nat) : Int).toNat = i by omega, h3, h4]
    exact ⟨rfl, h0⟩

theorem isMap1 : isMap 1 = false := rfl
theorem isMap2 : isMap 2 = false := rfl

theorem sim_do {c : Int} {L : List Th} {P : List Pu} (o k x : Int) (h : Sim c L P) :
    (doI c o k x L).1 = (doR c o k x P).1 ∧ Sim c (doI c o k x L).2 (doR c o k x P).2 := by
  unfold doI doR
  by_cases hmap : isMap c = true
  · have hc : 3 ≤ c ∧ c ≤ 6 := by unfold isMap at hmap; simpa using hmap
    rw [if_neg (by omega), if_neg (by omega), if_neg (by omega), if_neg (by omega)]
    have hmay : mayB c o = (decide (5 ≤ o) && decide (o ≤ 7)) := by
      unfold mayB
      rw [hmap]
      have h1 : (c == 1) = false := by simp; omega
      have h2 : (c == 2) = false := by simp; omega
      simp [h1, h2]
    rw [hmay]
    by_cases h5 : o = 5
    · subst h5
      rw [if_pos ⟨hmap, rfl⟩]
      simpa using sim_ins hmap k x h
    rw [if_neg (by omega)]
    by_cases h6 : o = 6
    · subst h6
      rw [if_pos ⟨hmap, rfl⟩]
      simpa using sim_rem hmap k h
    rw [if_neg (by omega)]
    by_cases h7 : o = 7
    · subst h7
      rw [if_pos ⟨hmap, rfl⟩]
      simpa using sim_get hmap k h
    rw [if_neg (by omega), if_pos (by simp; omega)]
    exact ⟨rfl, h⟩
  · have hmf : isMap c = false := by simpa using hmap
    have hmay : mayB c o = ((c == 1 && (o == 1 || o == 2)) || (c == 2 && (o == 3 || o == 4))) := by unfold mayB; rw [hmf]; simp
    rw [hmay, hmf]
    by_cases h1 : c = 1
    · subst h1
      by_cases ho1 : o = 1
      · subst ho1; simpa using sim_add hmf x h
      by_cases ho2 : o = 2
      · subst ho2; simpa using sim_pop hmf h
      have : (((1 : Int) == 1 && (o == 1 || o == 2)) || ((1 : Int) == 2 && (o == 3 || o == 4))) = false := by simp [ho1, ho2]
      rw [if_neg (by omega), if_neg (by omega), if_neg (by omega), if_neg (by omega), this]
      simpa using h
    · by_cases h2 : c = 2
      · subst h2
        by_cases ho1 : o = 3
        · subst ho1; simpa using sim_add hmf x h
        by_cases ho2 : o = 4
        · subst ho2; simpa using sim_deq hmf h
        have : (((2 : Int) == 1 && (o == 1 || o == 2)) || ((2 : Int) == 2 && (o == 3 || o == 4))) = false := by simp [ho1, ho2]
        rw [if_neg (by omega), if_neg (by omega), if_neg (by omega), if_neg (by omega), this]
        simpa using h
      · have : ((c == 1 && (o == 1 || o == 2)) || (c == 2 && (o == 3 || o == 4))) = false := by simp [h1, h2]
        rw [if_neg (by omega), if_neg (by omega), if_neg (by omega), if_neg (by omega), this]
        simpa using h

theorem sim_nil (c : Int) : Sim c [] [] := by
  unfold Sim
  split
  · exact ⟨List.Pairwise.nil, fun t => by simp [live], by simp [live]⟩
  · rfl
end Go.Proofs.Ytphfcfnbefikiaa
