/- What the reference's Find answers of the places that Lay laid; and what Of and At say beside it. -/
import Derived.Test.YtmolccpihmbniaaDoorE1
namespace Go.Proofs.YtmolccpihmbniaaDoor
open Go.RowKit
set_option linter.unusedVariables false

/-- The places lie in memory. -/
structure Lies (a n : Nat) (ad : Option Addr) (w : World) : Prop where
  c : ∀ p, p < n → ∃ g, ad = some ⟨g, 0, none⟩ ∧ w.cell? ⟨g, p * 2, none⟩ = some (.int .i64 (layF a p).1) ∧ w.cell? ⟨g, p * 2 + 1, none⟩ = some (.int .i64 (layF a p).2)

theorem Lies.below {a n : Nat} {ad : Option Addr} {w w' : World} (h : Lies a n ad w) (hb : Below w.heap.size w w') : Lies a n ad w' :=
  ⟨fun p hp => by obtain ⟨g, h1, h2, h3⟩ := h.c p hp; exact ⟨g, h1, keep hb h2, keep hb h3⟩⟩

theorem flatP_get (l : List (Int × Int)) (p : Nat) (x : Int × Int) (h : l[p]? = some x) : (flatP l)[2 * p]? = some (.int .i64 x.1) ∧ (flatP l)[2 * p + 1]? = some (.int .i64 x.2) := by
  induction l generalizing p with
  | nil => simp at h
  | cons y l ih =>
    have e : flatP (y :: l) = .int .i64 y.1 :: .int .i64 y.2 :: flatP l := by simp [flatP]
    cases p with
    | zero => simp at h; subst h; simp [e]
    | succ p =>
      have := ih p (by simpa using h)
      rw [e, show 2 * (p + 1) = 2 * p + 1 + 1 by omega]
      simpa using this
theorem lay_get (a n p : Nat) (h : p < n) : (lay a n)[p]? = some (layF a p) := by simp [lay, h]

theorem add_at (g j : Nat) : (⟨g, 0, none⟩ : Addr).add j = ⟨g, j, none⟩ := by unfold Addr.add; split <;> simp_all

theorem lies_of {w : World} {base a n : Nat} {v : Value} (h : w.ownsRow base 37 2 v n (flatP (lay a n))) : ∃ ad cap, v = .slice ad n cap ∧ Lies a n ad w := by
  by_cases hn : 0 < n
  · obtain ⟨g, cap, rfl, _, _⟩ := h.form hn
    refine ⟨_, cap, rfl, ⟨fun p hp => ⟨g, rfl, ?_, ?_⟩⟩⟩
    all_goals
      have hc := h.cells (g := g) rfl
      have hg := flatP_get _ p _ (lay_get a n p hp)
    · have := hc (2 * p) _ hg.1
      rwa [add_at, Nat.mul_comm] at this
    · have := hc (2 * p + 1) _ hg.2
      rwa [add_at, Nat.mul_comm] at this
  · have h0 : n = 0 := by omega
    subst h0
    rcases h.2 with ⟨rfl, _⟩ | ⟨g, cap, cur, rfl, _⟩
    · exact ⟨_, _, rfl, ⟨fun p hp => by omega⟩⟩
    · exact ⟨_, _, rfl, ⟨fun p hp => by omega⟩⟩

/-- What Find answers. -/
def Fnd (a n : Nat) (index k x : Int) : Prop := (x = -1 ∧ ∀ q, q < n → layF a q ≠ (index, k)) ∨ (∃ p : Nat, p < n ∧ x = p ∧ layF a p = (index, k))

set_option maxHeartbeats 1000000 in
set_option maxRecDepth 100000 in
theorem find_ref (a n : Nat) (hn : n ≤ 10000) (index k : Int) (ad : Option Addr) (cap : Nat) (w : World) (h : Lies a n ad w) :
    Calls Tryd.prog 14 #[.slice ad n cap, .int .i64 index, .int .i64 k] w fun e w' => (∃ x, e = .returned (.int .i64 x) ∧ Fnd a n index k x) ∧ w = w' := by
  go_enter Tryd.func14, Tryd.ntmps14
  go_wp2_with fail
  go_loop [7] (fun i => ∃ p : Nat, p ≤ n ∧ i = .int .i64 (p : Int) ∧ Hid (∀ q, q < p → layF a q ≠ (index, k))) (fun i => n - (intOf i).toNat)
  case atStart => exact ⟨0, Nat.zero_le _, rfl, Lib.hid (fun q hq => by omega)⟩
  case round =>
    obtain ⟨p, hp, rfl, HQ⟩ := hrel
    by_cases hpn : p < n
    · obtain ⟨g, rfl, c0, c1⟩ := h.c p hpn
      clear h
      generalize hx : (layF a p).1 = x at c0
      generalize hy : (layF a p).2 = y at c1
      have HX := Lib.hid hx
      have HY := Lib.hid hy
      clear hx hy
      by_cases e0 : x = index
      · by_cases e1 : y = k
        · subst e0 e1
          go_wp2
          go_ret
          exact ⟨⟨_, rfl, .inr ⟨p, hpn, rfl, by rw [← HX.out, ← HY.out]⟩⟩, rfl⟩
        · have d1 : (y == k) = false := by simpa using e1
          have HE := Lib.hid e1
          subst e0
          clear e1
          go_wp2
          go_round
          case rel => exact ⟨p + 1, by omega, by simp, Lib.hid (fun q hq => by
            by_cases hqp : q < p
            · exact HQ.out q hqp
            · have : q = p := by omega
              subst this
              intro hh
              exact HE.out (by rw [← HY.out, hh]))⟩
          case measure => simp [intOf]; omega
      · have d0 : (x == index) = false := by simpa using e0
        have HE := Lib.hid e0
        clear e0
        go_wp2
        go_round
        case rel => exact ⟨p + 1, by omega, by simp, Lib.hid (fun q hq => by
            by_cases hqp : q < p
            · exact HQ.out q hqp
            · have : q = p := by omega
              subst this
              intro hh
              exact HE.out (by rw [← HX.out, hh]))⟩
        case measure => simp [intOf]; omega
    · have hpe : p = n := by omega
      subst hpe
      clear hpn hp
      go_wp2
      go_ret
      exact ⟨⟨_, rfl, .inl ⟨rfl, HQ.out⟩⟩, rfl⟩

end Go.Proofs.YtmolccpihmbniaaDoor
