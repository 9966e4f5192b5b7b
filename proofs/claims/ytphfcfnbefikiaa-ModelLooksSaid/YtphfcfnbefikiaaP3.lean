/- Of a map no operation on a key changes, or is answered by, what another key has. -/
import Derived.Test.YtphfcfnbefikiaaC1
namespace Go.Proofs.Ytphfcfnbefikiaa
set_option linter.unusedVariables false
set_option linter.unusedSimpArgs false

def onlyK (k : Int) (L : List Th) : List Th := L.filter fun t => t.1 == k
theorem onlyK_srt {L : List Th} (k : Int) (hs : Srt L) : Srt (onlyK k L) := List.Pairwise.filter _ hs
theorem mem_onlyK {k : Int} {L : List Th} {t : Th} : t ∈ onlyK k L ↔ t ∈ L ∧ t.1 = k := by unfold onlyK; simp
theorem has_onlyK {k : Int} {L : List Th} (hs : Srt L) : has (onlyK k L) k = has L k := by
  rw [Bool.eq_iff_iff, has_iff (onlyK_srt k hs), has_iff hs]
  constructor
  · rintro ⟨t, h1, h2⟩; exact ⟨t, (mem_onlyK.1 h1).1, h2⟩
  · rintro ⟨t, h1, h2⟩; exact ⟨t, mem_onlyK.2 ⟨h1, h2⟩, h2⟩
theorem val_onlyK {k : Int} {L : List Th} (hs : Srt L) (h : has L k = true) : ((onlyK k L)[low (onlyK k L) k]?.getD (0, 0)).2 = (L[low L k]?.getD (0, 0)).2 := by
  obtain ⟨t, h1, h2⟩ := has_at h
  obtain ⟨t', h1', h2'⟩ := has_at ((has_onlyK hs).trans h)
  have m1 : t ∈ L := List.mem_of_getElem? h1
  have m2 : t' ∈ L := (mem_onlyK.1 (List.mem_of_getElem? h1')).1
  have : t = t' := pw_key (srt_ne hs) t m1 t' m2 (h2.trans h2'.symm)
  rw [h1, h1', this]
theorem isMap_ne {c : Int} (hm : isMap c = true) : c ≠ 1 ∧ c ≠ 2 := by
  unfold isMap at hm
  simp at hm
  omega
theorem doI_onlyK {c : Int} (hm : isMap c = true) {L : List Th} (hs : Srt L) (o k x : Int) : (doI c o k x (onlyK k L)).1 = (doI c o k x L).1 := by
  obtain ⟨n1, n2⟩ := isMap_ne hm
  unfold doI
  simp only [n1, n2, false_and, if_false, hm, true_and]
  split
  · unfold insI; rw [has_onlyK hs]; split <;> rfl
  split
  · unfold remI; rw [has_onlyK hs]; split
    · rename_i h; rw [val_onlyK hs h]
    · rfl
  split
  · unfold getI; rw [has_onlyK hs]; split
    · rename_i h; rw [val_onlyK hs h]
    · rfl
  rfl
theorem doI_other {c : Int} (hm : isMap c = true) {L : List Th} {o k x : Int} {t : Th} (ht : t.1 ≠ k) : t ∈ (doI c o k x L).2 ↔ t ∈ L := by
  obtain ⟨n1, n2⟩ := isMap_ne hm
  unfold doI
  simp only [n1, n2, false_and, if_false, hm, true_and]
  split
  · unfold insI; split
    · exact Iff.rfl
    · conv => rhs; rw [← List.take_append_drop (low L k) L]
      simp only [List.mem_append, List.mem_cons]
      constructor
      · rintro (h | h | h)
        · exact .inl h
        · exact absurd (by rw [h]) ht
        · exact .inr h
      · rintro (h | h)
        · exact .inl h
        · exact .inr (.inr h)
  split
  · unfold remI; split
    · rename_i h
      obtain ⟨t0, h1, h2⟩ := has_at h
      have hl := (List.getElem?_eq_some_iff.1 h1).1
      have e : L = L.take (low L k) ++ t0 :: L.drop (low L k + 1) := by
        conv => lhs; rw [← List.take_append_drop (low L k) L, List.drop_eq_getElem_cons hl]
        rw [(List.getElem?_eq_some_iff.1 h1).2]
      conv => rhs; rw [e]
      simp only [List.mem_append, List.mem_cons]
      constructor
      · rintro (h | h)
        · exact .inl h
        · exact .inr (.inr h)
      · rintro (h | h | h)
        · exact .inl h
        · exact absurd (by rw [h]; exact h2) ht
        · exact .inr h
    · exact Iff.rfl
  split
  · unfold getI; split <;> exact Iff.rfl
  exact Iff.rfl
theorem get_mem {L : List Th} (hs : Srt L) {t : Th} (ht : t ∈ L) : getI t.1 L = (yesA t.2, L) := by
  have h : has L t.1 = true := (has_iff hs).2 ⟨t, ht, rfl⟩
  obtain ⟨t', h1, h2⟩ := has_at h
  have : t' = t := pw_key (srt_ne hs) t' (List.mem_of_getElem? h1) t ht h2
  unfold getI
  rw [if_pos h, h1, this]
  rfl
theorem doI_get {c : Int} (hm : isMap c = true) {L : List Th} (hs : Srt L) {t : Th} (ht : t ∈ L) : doI c 7 t.1 0 L = (yesA t.2, L) := by
  obtain ⟨n1, n2⟩ := isMap_ne hm
  unfold doI
  simp only [n1, n2, false_and, if_false, hm, true_and]
  exact get_mem hs ht
theorem onlyK_one {k : Int} {L : List Th} (hs : Srt L) : onlyK k L = [] ∨ ∃ t, onlyK k L = [t] := by
  have h1 := onlyK_srt k hs
  have h2 : ∀ t ∈ onlyK k L, t.1 = k := fun t ht => (mem_onlyK.1 ht).2
  match h : onlyK k L with
  | [] => exact .inl rfl
  | [t] => exact .inr ⟨t, rfl⟩
  | t :: u :: r =>
    rw [h] at h1 h2
    have := (List.pairwise_cons.1 h1).1 u (by simp)
    have := h2 t (by simp)
    have := h2 u (by simp)
    omega
theorem new_onlyK {c k : Int} (hm : isMap c = true) {L : List Th} (hs : Srt L) : newI c (onlyK k L) [] = onlyK k L := by
  obtain ⟨n1, n2⟩ := isMap_ne hm
  rcases onlyK_one (k := k) hs with h | ⟨t, h⟩
  · rw [h]; rfl
  · rw [h]
    show (doI c (putOf c) t.1 t.2 []).2 = [t]
    have hp : putOf c = 5 := by unfold putOf; rw [if_neg n1, if_neg n2]
    rw [hp]
    unfold doI
    simp only [n1, n2, false_and, if_false, hm, true_and]
    rfl
theorem onlyK_snoc (k : Int) (A : List Th) (t : Th) : onlyK k (A ++ [t]) = if t.1 == k then onlyK k A ++ [t] else onlyK k A := by
  unfold onlyK
  rw [List.filter_append, List.filter_cons]
  split <;> simp
end Go.Proofs.Ytphfcfnbefikiaa
