/- Plain facts: handle.Read's fold accepts a string just if it is some word's text, and then answers that word; no condition. -/
import Derived.Test.YtglllofmmdjljaaDoorF2
namespace Go.Proofs.YtglllofmmdjljaaDoor
open Go.RowKit Go.Sort Go.Lib

/-- The runes that a text can have. -/
def okRune (c : Int) : Prop := (48 ≤ c ∧ c ≤ 57) ∨ c = 64 ∨ c = 8242 ∨ c = 8243
def enc (c : Int) : List UInt8 := if c = 8242 then [226, 128, 178] else if c = 8243 then [226, 128, 179] else [UInt8.ofNat c.toNat]

theorem step_okRune {r : Rd} {c : Int} (h : (step r c).2 = true) : okRune c := by
  unfold step at h
  split at h
  · split at h
    · rename_i v hv
      have := num_some hv
      exact .inl ⟨this.1, this.2.1⟩
    · cases h
  · split at h
    · rename_i e; exact .inr (.inl e)
    · split at h
      · rename_i e; exact .inr (.inr (.inl e))
      · split at h
        · rename_i e; exact .inr (.inr (.inr e))
        · split at h
          · split at h
            · rename_i v hv
              have := num_some hv
              exact .inl ⟨this.1, this.2.1⟩
            · cases h
          · cases h

def run : List Int → Rd → Option Rd
  | [], r => some r
  | c :: cs, r => if (step r c).2 = true then run cs (step r c).1 else none

theorem run_append (a b : List Int) (r : Rd) : run (a ++ b) r = (run a r).bind (run b) := by
  induction a generalizing r with
  | nil => rfl
  | cons c cs ih =>
    show (if (step r c).2 = true then run (cs ++ b) (step r c).1 else none) = (if (step r c).2 = true then run cs (step r c).1 else none).bind (run b)
    split
    · exact ih _
    · rfl

/-! What a rune of a text is decoded from. -/
theorem get_of_drop {s : ByteArray} {pos : Nat} {l : List UInt8} (h : s.data.toList.drop pos = l) (k : Nat) (hk : k < l.length) : pos + k < s.size ∧ s.get! (pos + k) = l[k] := by
  have hz : s.data.toList.length = s.size := rfl
  have hlen : l.length = s.size - pos := by rw [← h, List.length_drop, hz]
  have hlt : pos + k < s.size := by omega
  refine ⟨hlt, ?_⟩
  have h1 : s.get! (pos + k) = s[pos + k] := by
    simp [ByteArray.get!, getElem!_pos, hlt]; rfl
  rw [h1]
  have h2 : l[k]? = s.data.toList[pos + k]? := by rw [← h, List.getElem?_drop]
  rw [List.getElem?_eq_getElem hk, List.getElem?_eq_getElem (by rw [hz]; exact hlt)] at h2
  rw [Option.some.inj h2]; rfl

theorem decode_enc {s : ByteArray} {pos : Nat} {c : Int} {rest : List UInt8} (hc : okRune c) (h : s.data.toList.drop pos = enc c ++ rest) :
    pos < s.size ∧ ((Utf8.decode s pos).1 : Int) = c ∧ (Utf8.decode s pos).2 = (enc c).length := by
  have hlen : 0 < (enc c).length := by unfold enc; split; · simp
                                       · split <;> simp
  obtain ⟨h0, g0⟩ := get_of_drop h 0 (by rw [List.length_append]; omega)
  refine ⟨h0, ?_⟩
  by_cases h1 : c = 8242
  · subst h1
    obtain ⟨_, g1⟩ := get_of_drop h 1 (by simp [enc])
    obtain ⟨_, g2⟩ := get_of_drop h 2 (by simp [enc])
    obtain ⟨l2, _⟩ := get_of_drop h 2 (by simp [enc])
    obtain ⟨l1, _⟩ := get_of_drop h 1 (by simp [enc])
    simp [enc] at g0 g1 g2
    simp [Utf8.decode, g0, g1, g2, l1, l2, enc, Utf8.valid]
  · by_cases h2 : c = 8243
    · subst h2
      obtain ⟨_, g1⟩ := get_of_drop h 1 (by simp [enc])
      obtain ⟨_, g2⟩ := get_of_drop h 2 (by simp [enc])
      obtain ⟨l2, _⟩ := get_of_drop h 2 (by simp [enc])
      obtain ⟨l1, _⟩ := get_of_drop h 1 (by simp [enc])
      simp [enc] at g0 g1 g2
      simp [Utf8.decode, g0, g1, g2, l1, l2, enc, Utf8.valid]
    · have he : enc c = [UInt8.ofNat c.toNat] := by unfold enc; rw [if_neg h1, if_neg h2]
      have hb : c = (c.toNat : Int) ∧ c.toNat < 128 := by rcases hc with h | h | h | h <;> omega
      simp [he] at g0
      have g0' : (s.get! (pos + 0)).toNat = c.toNat := by
        rw [Nat.add_zero, g0, UInt8.toNat_ofNat']; omega
      rw [he]
      simp only [Utf8.decode, g0', hb.2, if_true]
      exact ⟨hb.1.symm, rfl⟩

theorem decode_three {s : ByteArray} {pos c wd : Nat} (hd : Utf8.decode s pos = (c, wd)) (hc : c = 8242 ∨ c = 8243) :
    wd = 3 ∧ pos + 2 < s.size ∧ (s.get! pos).toNat = 226 ∧ (s.get! (pos + 1)).toNat = 128 ∧ (s.get! (pos + 2)).toNat = c - 8064 := by
  have b0 := (s.get! pos).toNat_lt
  have b1 := (s.get! (pos + 1)).toNat_lt
  have b2 := (s.get! (pos + 2)).toNat_lt
  have b3 := (s.get! (pos + 3)).toNat_lt
  simp only [Utf8.decode, Utf8.runeError, Nat.add_zero] at hd
  split at hd
  · simp only [Prod.mk.injEq] at hd; omega
  · split at hd
    · split at hd <;> (simp only [Prod.mk.injEq] at hd; omega)
    · split at hd
      · rename_i hcnd
        simp at hcnd
        split at hd
        · simp only [Prod.mk.injEq] at hd; omega
        · simp only [Prod.mk.injEq] at hd; omega
      · split at hd
        · split at hd
          · rename_i hq
            simp at hq
            simp only [Prod.mk.injEq] at hd
            omega
          · simp only [Prod.mk.injEq] at hd; omega
        · simp only [Prod.mk.injEq] at hd; omega

theorem drop_get {s : ByteArray} {pos : Nat} (hp : pos < s.size) : s.data.toList.drop pos = s.get! pos :: s.data.toList.drop (pos + 1) := by
  have hz : s.data.toList.length = s.size := rfl
  rw [List.drop_eq_getElem_cons (by rw [hz]; exact hp)]
  have h1 : s.get! pos = s[pos] := by
    simp [ByteArray.get!, getElem!_pos, hp]; rfl
  rw [h1]; rfl

theorem decode_is {s : ByteArray} {pos : Nat} (hp : pos < s.size) (hc : okRune ((Utf8.decode s pos).1 : Int)) :
    s.data.toList.drop pos = enc ((Utf8.decode s pos).1 : Int) ++ s.data.toList.drop (pos + (Utf8.decode s pos).2) := by
  by_cases ha : (s[pos]'hp).toNat < 128
  · rw [decode_ascii s pos hp ha]
    have h1 : s.get! pos = s[pos] := by
      simp [ByteArray.get!, getElem!_pos, hp]; rfl
    have he : enc (((s[pos]'hp).toNat : Nat) : Int) = [s[pos]] := by
      unfold enc
      rw [if_neg (by omega), if_neg (by omega)]
      simp
    simp only
    rw [he, drop_get hp, h1]; rfl
  · have hh := (decode_high s pos hp (by omega)).1
    cases hd : Utf8.decode s pos with
    | mk c wd =>
      rw [hd] at hc hh
      simp only at hc hh
      have hc' : c = 8242 ∨ c = 8243 := by rcases hc with h | h | h | h <;> omega
      obtain ⟨rfl, l2, e0, e1, e2⟩ := decode_three hd hc'
      simp only
      have f0 : s.get! pos = 226 := UInt8.toNat_inj.1 e0
      have f1 : s.get! (pos + 1) = 128 := UInt8.toNat_inj.1 e1
      rw [drop_get hp, drop_get (show pos + 1 < s.size by omega), drop_get (show pos + 1 + 1 < s.size by omega), f0, f1]
      rcases hc' with rfl | rfl
      · have f2 : s.get! (pos + 1 + 1) = 178 := UInt8.toNat_inj.1 e2
        rw [f2]; rfl
      · have f2 : s.get! (pos + 1 + 1) = 179 := UInt8.toNat_inj.1 e2
        rw [f2]; rfl

/-- What the loop over a string comes to is the fold over its runes. -/
theorem rdFrom_run {s : ByteArray} (rs : List Int) : ∀ (f pos : Nat) (r : Rd), (∀ c ∈ rs, okRune c) → s.data.toList.drop pos = rs.flatMap enc → s.size ≤ pos + f → rdFrom s f pos r = run rs r := by
  induction rs with
  | nil =>
    intro f pos r _ h _
    have : ¬ pos < s.size := by
      have hz : s.data.toList.length = s.size := rfl
      have := congrArg List.length h
      simp only [List.length_drop, hz] at this
      simp at this
      omega
    rw [rdFrom_end s f pos r this]; rfl
  | cons c rs ih =>
    intro f pos r hall h hf
    have hc := hall c (by simp)
    rw [List.flatMap_cons] at h
    obtain ⟨hp, h1, h2⟩ := decode_enc hc h
    obtain ⟨f', rfl⟩ : ∃ f', f = f' + 1 := ⟨f - 1, by omega⟩
    have hw := width_pos s pos hp
    have hnext : s.data.toList.drop (pos + (Utf8.decode s pos).2) = rs.flatMap enc := by
      rw [h2, ← List.drop_drop, h, List.drop_left]
    rw [rdFrom, if_pos hp, h1]
    show (if (step r c).2 = true then rdFrom s f' (pos + (Utf8.decode s pos).2) (step r c).1 else none) = (if (step r c).2 = true then run rs (step r c).1 else none)
    split
    · exact ih f' _ _ (fun x hx => hall x (List.mem_cons_of_mem _ hx)) hnext (by omega)
    · rfl

theorem rdFrom_is {s : ByteArray} : ∀ (f pos : Nat) (r r' : Rd), s.size ≤ pos + f → rdFrom s f pos r = some r' → ∃ rs : List Int, (∀ c ∈ rs, okRune c) ∧ s.data.toList.drop pos = rs.flatMap enc ∧ run rs r = some r' := by
  intro f
  induction f with
  | zero =>
    intro pos r r' hf h
    cases h
    have hz : s.data.toList.length = s.size := rfl
    exact ⟨[], by simp, by rw [List.drop_eq_nil_iff.2 (by omega)]; rfl, rfl⟩
  | succ f ih =>
    intro pos r r' hf h
    by_cases hp : pos < s.size
    · rw [rdFrom, if_pos hp] at h
      split at h
      · rename_i hs
        have hc := step_okRune hs
        have hw := width_pos s pos hp
        obtain ⟨rs, h1, h2, h3⟩ := ih _ _ _ (by omega) h
        refine ⟨((Utf8.decode s pos).1 : Int) :: rs, ?_, ?_, ?_⟩
        · intro c hc'
          rcases List.mem_cons.1 hc' with rfl | hc'
          · exact hc
          · exact h1 c hc'
        · rw [List.flatMap_cons, ← h2]; exact decode_is hp hc
        · show (if (step r _).2 = true then run rs (step r _).1 else none) = _
          rw [if_pos hs]; exact h3
      · cases h
    · rw [rdFrom_end s _ pos r hp] at h
      cases h
      have hz : s.data.toList.length = s.size := rfl
      exact ⟨[], by simp, by rw [List.drop_eq_nil_iff.2 (by omega)]; rfl, rfl⟩
end Go.Proofs.YtglllofmmdjljaaDoor
