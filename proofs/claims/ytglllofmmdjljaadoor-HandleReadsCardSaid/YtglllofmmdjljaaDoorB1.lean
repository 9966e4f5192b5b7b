/- What a number of the reader takes of a rune, or refuses. -/
import Derived.Test.YtglllofmmdjljaaDoorA3
import Derived.Lib.OthersKept
import Derived.Deep.QuietTactic
import Derived.BigQuiet
namespace Go.Proofs.YtglllofmmdjljaaDoor
open Go.RowKit Go.Sort Go.Lib

theorem text_any (h : Nat) (h1 : h < 18446744073709551616) (w : World) (hL : Laid w) :
    Calls Tryd.prog 23 #[.int .u64 h] w fun e w' => e = .returned (.string ⟨(textOf h).toArray⟩) ∧ Below w.heap.size w w' := by
  have hq : (h : Int) / 4194304 % 4 = 0 ∨ (h : Int) / 4194304 % 4 = 1 ∨ (h : Int) / 4194304 % 4 = 2 ∨ (h : Int) / 4194304 % 4 = 3 := by omega
  rcases hq with hq | hq | hq | hq
  · exact text_0 h h1 hq w hL
  · exact text_1 h h1 hq w hL
  · exact text_2 h h1 hq w hL
  · exact text_3 h h1 hq w hL

def numTake (v : Nat) (b : Bool) (c : Int) (largest : Nat) : Option Nat :=
  if c < 48 ∨ 57 < c ∨ (b = true ∧ v = 0) then none else if largest < v * 10 + (c - 48).toNat then none else some (v * 10 + (c - 48).toNat)

structure Rd where
  iv : Nat
  ib : Bool
  ms : Nat
  tg : Bool
  tv : Nat
  tb : Bool

def Rd.zero : Rd := ⟨0, false, 0, false, 0, false⟩
def Rd.Ok (r : Rd) : Prop := r.iv ≤ 4194303 ∧ r.ms ≤ 3 ∧ r.tv ≤ 1099511627775

def markStep (r : Rd) (m : Nat) : Rd × Bool := if r.ib = false ∨ m ≤ r.ms then (r, false) else (⟨r.iv, r.ib, r.ms + m, r.tg, r.tv, r.tb⟩, true)

def step (r : Rd) (c : Int) : Rd × Bool :=
  if r.tg = true then
    match numTake r.tv r.tb c 1099511627775 with
    | some v => (⟨r.iv, r.ib, r.ms, r.tg, v, true⟩, true)
    | none => (r, false)
  else if c = 64 then (⟨r.iv, r.ib, r.ms, true, r.tv, r.tb⟩, r.ib)
  else if c = 8242 then markStep r 1
  else if c = 8243 then markStep r 2
  else if r.ms = 0 then
    match numTake r.iv r.ib c 4194303 with
    | some v => (⟨v, true, r.ms, r.tg, r.tv, r.tb⟩, true)
    | none => (r, false)
  else (r, false)

set_option maxHeartbeats 400000 in
theorem num_no (b o v : Nat) (bg : Bool) (c : Int) (m : Nat) (hv : v ≤ 1099511627775) (hm : m ≤ 1099511627775) (h : numTake v bg c m = none) (w : World)
    (c0 : w.cell? ⟨b, o, none⟩ = some (.int .u64 v)) (c1 : w.cell? ⟨b, o + 1, none⟩ = some (.bool bg)) :
    Calls Tryd.prog 38 #[.pointer (some ⟨b, o, none⟩), .int .i32 c, .int .u64 m] w fun e w' => e = .returned (.bool false) ∧ w = w' := by
  have hc : c < 48 ∨ 57 < c ∨ (48 ≤ c ∧ c ≤ 57 ∧ bg = true ∧ v = 0) ∨ (48 ≤ c ∧ c ≤ 57 ∧ bg = false ∧ (m : Int) < v * 10 + (c - 48)) ∨ (48 ≤ c ∧ c ≤ 57 ∧ bg = true ∧ 0 < v ∧ (m : Int) < v * 10 + (c - 48)) := by
    unfold numTake at h
    by_cases h1 : c < 48 ∨ 57 < c ∨ (bg = true ∧ v = 0)
    · rcases h1 with h1 | h1 | h1
      · exact .inl h1
      · exact .inr (.inl h1)
      · by_cases h2 : c < 48
        · exact .inl h2
        · by_cases h3 : 57 < c
          · exact .inr (.inl h3)
          · exact .inr (.inr (.inl ⟨by omega, by omega, h1.1, h1.2⟩))
    · rw [if_neg h1] at h
      by_cases h2 : m < v * 10 + (c - 48).toNat
      · cases bg
        · exact .inr (.inr (.inr (.inl ⟨by omega, by omega, rfl, by omega⟩)))
        · exact .inr (.inr (.inr (.inr ⟨by omega, by omega, rfl, by simp at h1; omega, by simp at h1; omega⟩)))
      · rw [if_neg h2] at h
        cases h
  clear h
  rcases hc with hc | hc | ⟨a1, a2, rfl, rfl⟩ | ⟨a1, a2, rfl, a3⟩ | ⟨a1, a2, rfl, a3, a4⟩
  · cases bg
    all_goals
      go_enter Tryd.func38, Tryd.ntmps38
      go_wp2
      all_goals go_ret
      all_goals exact ⟨rfl, rfl⟩
  · cases bg
    all_goals
      go_enter Tryd.func38, Tryd.ntmps38
      go_wp2
      all_goals go_ret
      all_goals exact ⟨rfl, rfl⟩
  · go_enter Tryd.func38, Tryd.ntmps38
    go_wp2
    go_ret
    exact ⟨rfl, rfl⟩
  · go_enter Tryd.func38, Tryd.ntmps38
    go_wp2
    go_ret
    exact ⟨rfl, rfl⟩
  · have hz : ((v : Int) == 0) = false := by rw [beq_eq_false_iff_ne]; omega
    go_enter Tryd.func38, Tryd.ntmps38
    go_wp2
    go_ret
    exact ⟨rfl, rfl⟩

theorem num_some {v : Nat} {bg : Bool} {c : Int} {m v' : Nat} (h : numTake v bg c m = some v') : 48 ≤ c ∧ c ≤ 57 ∧ (bg = true → 0 < v) ∧ (v' : Int) = v * 10 + (c - 48) ∧ v' ≤ m := by
  unfold numTake at h
  by_cases h1 : c < 48 ∨ 57 < c ∨ (bg = true ∧ v = 0)
  · rw [if_pos h1] at h; cases h
  · rw [if_neg h1] at h
    by_cases h2 : m < v * 10 + (c - 48).toNat
    · rw [if_pos h2] at h; cases h
    · rw [if_neg h2] at h
      cases h
      refine ⟨by omega, by omega, fun hb => ?_, by omega, by omega⟩
      by_cases hv : v = 0
      · exact absurd (.inr (.inr ⟨hb, hv⟩)) h1
      · omega

set_option maxHeartbeats 400000 in
theorem num_yes (b o v v' : Nat) (bg : Bool) (c : Int) (m : Nat) (hv : v ≤ 1099511627775) (hm : m ≤ 1099511627775) (h : numTake v bg c m = some v') (w : World)
    (c0 : w.cell? ⟨b, o, none⟩ = some (.int .u64 v)) (c1 : w.cell? ⟨b, o + 1, none⟩ = some (.bool bg)) (f0 : w.frozen? ⟨b, o, none⟩ = false) (f1 : w.frozen? ⟨b, o + 1, none⟩ = false) :
    Calls Tryd.prog 38 #[.pointer (some ⟨b, o, none⟩), .int .i32 c, .int .u64 m] w fun e w' => e = .returned (.bool true) ∧ (w.setCell ⟨b, o, none⟩ (.int .u64 v')).setCell ⟨b, o + 1, none⟩ (.bool true) = w' := by
  obtain ⟨a1, a2, a3, a4, a5⟩ := num_some h
  rw [a4]
  have a6 : (v : Int) * 10 + (c - 48) ≤ m := by omega
  clear h a4 a5
  cases bg
  · clear a3
    go_enter Tryd.func38, Tryd.ntmps38
    go_wp2
    go_ret
    exact ⟨rfl, rfl⟩
  · have hz : ((v : Int) == 0) = false := by rw [beq_eq_false_iff_ne]; have := a3 rfl; omega
    clear a3
    go_enter Tryd.func38, Tryd.ntmps38
    go_wp2
    go_ret
    exact ⟨rfl, rfl⟩
end Go.Proofs.YtglllofmmdjljaaDoor
