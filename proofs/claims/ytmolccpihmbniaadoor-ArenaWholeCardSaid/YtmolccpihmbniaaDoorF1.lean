/- Plain facts: what Of, At, Link and Birth reckon is what the places laid one behind the other say. -/
import Derived.Test.YtmolccpihmbniaaDoorE2
namespace Go.Proofs.YtmolccpihmbniaaDoor
open Go.RowKit
set_option linter.unusedVariables false

def ar (base : Int) (a b L : Nat) : Ar := ⟨1, 1 + (a : Int), 1 + (a : Int) + b, base, base + 6 * (a : Int), base + 6 * (a : Int) + 10 * (b : Int), .pointer (some ⟨L, 0, none⟩)⟩
theorem ar_sm {base : Int} {a b L : Nat} (hb : 0 ≤ base ∧ base ≤ 1000) (h1 : a ≤ 40) (h2 : b ≤ 40) : Sm (ar base a b L) := by
  constructor <;> simp only [ar] <;> omega

theorem upto_all (a b : Nat) : upto a (a + b) = 6 * a + 10 * b := by unfold upto; split <;> omega

theorem nameI_inj {x y : Int} (hx : 0 ≤ x) (hy : 0 ≤ y) (h : nameI x = nameI y) : x = y := by
  unfold nameI at h
  split at h <;> split at h <;> (try split at h) <;> (try split at h) <;> omega

theorem layF_lo {a p : Nat} (h : p < 6 * a) : layF a p = (((1 + p / 6 : Nat) : Int), nameI ((p % 6 : Nat) : Int)) := by unfold layF; rw [if_pos h]
theorem layF_hi {a p : Nat} (h : ¬ p < 6 * a) : layF a p = (((1 + a + (p - 6 * a) / 10 : Nat) : Int), nameI (((p - 6 * a) % 10 : Nat) : Int)) := by unfold layF; rw [if_neg h]

theorem layF_inj {a p q : Nat} (h : layF a p = layF a q) : p = q := by
  by_cases hp : p < 6 * a <;> by_cases hq : q < 6 * a
  · rw [layF_lo hp, layF_lo hq] at h
    simp only [Prod.mk.injEq] at h
    have h2 := nameI_inj (by omega) (by omega) h.2
    have h1 := h.1
    omega
  · rw [layF_lo hp, layF_hi hq] at h
    simp only [Prod.mk.injEq] at h
    have h1 := h.1
    omega
  · rw [layF_hi hp, layF_lo hq] at h
    simp only [Prod.mk.injEq] at h
    have h1 := h.1
    omega
  · rw [layF_hi hp, layF_hi hq] at h
    simp only [Prod.mk.injEq] at h
    have h2 := nameI_inj (by omega) (by omega) h.2
    have h1 := h.1
    omega

theorem of_in (base : Int) (a b L p : Nat) (hp : p < 6 * a + 10 * b) : ofI (ar base a b L) (base + p) = (layF a p).1 ∧ ofK (ar base a b L) (base + p) = (layF a p).2 ∧ ofB (ar base a b L) (base + p) = true := by
  unfold ofI ofK ofB
  simp only [ar]
  by_cases h : p < 6 * a
  · rw [layF_lo h]
    have hc : base ≤ base + (p : Int) ∧ base + (p : Int) < base + 6 * (a : Int) := by omega
    simp only [hc, and_self, if_true]
    rw [show base + (p : Int) - base = p by omega]
    refine ⟨by omega, ?_, trivial⟩
    congr 1
  · rw [layF_hi h]
    have hc : ¬ (base ≤ base + (p : Int) ∧ base + (p : Int) < base + 6 * (a : Int)) := by omega
    have hd : base + 6 * (a : Int) ≤ base + (p : Int) ∧ base + (p : Int) < base + 6 * (a : Int) + 10 * (b : Int) := by omega
    simp only [hc, hd, if_true, if_false, and_self]
    rw [show base + (p : Int) - (base + 6 * (a : Int)) = ((p - 6 * a : Nat) : Int) by omega]
    refine ⟨by omega, ?_, trivial⟩
    congr 1
theorem of_out (base : Int) (a b L : Nat) (x : Int) (h : x < base ∨ 6 * (a : Int) + 10 * b ≤ x - base) : ofI (ar base a b L) x = 0 ∧ ofK (ar base a b L) x = 0 ∧ ofB (ar base a b L) x = false := by
  unfold ofI ofK ofB
  simp only [ar]
  have hc : ¬ (base ≤ x ∧ x < base + 6 * (a : Int)) := by omega
  have hd : ¬ (base + 6 * (a : Int) ≤ x ∧ x < base + 6 * (a : Int) + 10 * (b : Int)) := by omega
  simp only [hc, hd, if_false]
  exact ⟨trivial, trivial, trivial⟩

def fromI (base x : Int) : Int := if x < 0 then -1 else base + x

/-- Where the laid places have a word. -/
theorem layF_plc (base : Int) (a b L : Nat) (index f kk : Int) (hf : 0 ≤ f ∧ f ≤ 2) (hk : f + kk = 0 ∨ f + kk = 1 ∨ f = 2) (hk0 : 0 ≤ kk) (hb : 0 ≤ base) :
    (plc (ar base a b L) index f kk = -1 ∧ ∀ q, q < 6 * a + 10 * b → layF a q ≠ (index, nameI (f + kk))) ∨
    (∃ p : Nat, p < 6 * a + 10 * b ∧ plc (ar base a b L) index f kk = base + p ∧ layF a p = (index, nameI (f + kk))) := by
  unfold plc
  simp only [ar]
  by_cases h1 : 1 ≤ index ∧ index < 1 + (a : Int)
  · simp only [h1, if_true, and_self]
    by_cases h2 : 0 ≤ kk ∧ kk < 6 - f
    · simp only [h2, if_true, and_self]
      refine .inr ⟨((index - 1) * 6 + f + kk).toNat, by omega, by omega, ?_⟩
      rw [layF_lo (by omega)]
      rw [Prod.mk.injEq]
      refine ⟨by omega, ?_⟩
      congr 1
      omega
    · simp only [h2, if_false]
      refine .inl ⟨trivial, fun q hq hh => ?_⟩
      by_cases hq6 : q < 6 * a
      · rw [layF_lo hq6, Prod.mk.injEq] at hh
        have := nameI_inj (by omega) (by omega) hh.2
        omega
      · rw [layF_hi hq6, Prod.mk.injEq] at hh
        have := hh.1
        omega
  · simp only [h1, if_false]
    by_cases h3 : 1 + (a : Int) ≤ index ∧ index < 1 + (a : Int) + b
    · simp only [h3, if_true, and_self]
      by_cases h2 : 0 ≤ kk ∧ kk < 10 - f
      · simp only [h2, if_true, and_self]
        refine .inr ⟨(6 * a + (index - (1 + a)) * 10 + f + kk).toNat, by omega, by omega, ?_⟩
        rw [layF_hi (by omega)]
        rw [Prod.mk.injEq]
        refine ⟨by omega, ?_⟩
        congr 1
        omega
      · simp only [h2, if_false]
        refine .inl ⟨trivial, fun q hq hh => ?_⟩
        by_cases hq6 : q < 6 * a
        · rw [layF_lo hq6, Prod.mk.injEq] at hh
          have := hh.1
          omega
        · rw [layF_hi hq6, Prod.mk.injEq] at hh
          have := nameI_inj (by omega) (by omega) hh.2
          omega
    · simp only [h3, if_false]
      refine .inl ⟨trivial, fun q hq hh => ?_⟩
      by_cases hq6 : q < 6 * a
      · rw [layF_lo hq6, Prod.mk.injEq] at hh
        have := hh.1
        omega
      · rw [layF_hi hq6, Prod.mk.injEq] at hh
        have := hh.1
        omega

theorem fnd_plc (base : Int) (a b L : Nat) (index f kk x : Int) (hf : 0 ≤ f ∧ f ≤ 2) (hk : f + kk = 0 ∨ f + kk = 1 ∨ f = 2) (hk0 : 0 ≤ kk) (hb : 0 ≤ base)
    (h : Fnd a (6 * a + 10 * b) index (nameI (f + kk)) x) : fromI base x = plc (ar base a b L) index f kk := by
  rcases layF_plc base a b L index f kk hf hk hk0 hb with ⟨h1, h2⟩ | ⟨p, hp, h1, h2⟩
  · rcases h with ⟨rfl, _⟩ | ⟨q, hq, rfl, h3⟩
    · rw [h1]; rfl
    · exact absurd h3 (h2 q hq)
  · rcases h with ⟨rfl, h3⟩ | ⟨q, hq, rfl, h3⟩
    · exact absurd h2 (h3 p hp)
    · have : q = p := layF_inj (h3.trans h2.symm)
      subst this
      rw [h1]; unfold fromI; rw [if_neg (by omega)]

end Go.Proofs.YtmolccpihmbniaaDoor
