/- The contracts of finder and of what it makes: of which class a number is. -/
import Derived.Test.YtmolccpihmbniaaDoorA1
import Derived.Deep.QuietTactic
import Derived.BigQuiet
import Derived.WalkSmall
namespace Go.Proofs.YtmolccpihmbniaaDoor
open Go.RowKit

def clo (B : Nat) : Value := .func (.func 49) #[] #[.pointer (some ⟨B, 0, none⟩)]

set_option maxHeartbeats 400000 in
theorem finder_any (a b c : Int) (w : World) :
    Calls Tryd.prog 34 #[arr3 a b c] w fun e w' => e = .returned (clo w.heap.size) ∧ w.alloc (.cells #[.int .i64 a, .int .i64 b, .int .i64 c] 48) = w' := by
  unfold arr3
  go_enter Tryd.func34, Tryd.ntmps34
  go_wp2
  go_returns
  exact ⟨rfl, rfl⟩

def fnd (n a b c : Int) : Int × Int × Bool := if a ≤ n ∧ n < b then (0, n - a, true) else if b ≤ n ∧ n < c then (1, n - b, true) else (0, 0, false)
def fndE (r : Int × Int × Bool) : Ending := .returned (.tuple #[.int .i64 r.1, .int .i64 r.2.1, .bool r.2.2])

theorem within_q (n l m : Int) {r : Bool} (h : inB n l m = r) (w : World) (k : Nat) :
    Calls Tryd.prog 33 #[.int .i64 n, .int .i64 l, .int .i64 m] (w.drewN k) fun e w' => e = .returned (.bool r) ∧ ∃ j, w' = w.drewN j := by
  subst h
  exact (within_any n l m _).mono fun e w' ⟨h1, h2⟩ => ⟨h1, k, h2.symm⟩

set_option maxHeartbeats 1000000 in
theorem finder1_any (n a b c : Int) (ha : 0 ≤ a ∧ a ≤ 10000000) (hb : 0 ≤ b ∧ b ≤ 10000000) (hc : 0 ≤ c ∧ c ≤ 10000000) (B : Nat) (w : World)
    (c0 : w.cell? ⟨B, 0, none⟩ = some (.int .i64 a)) (c1 : w.cell? ⟨B, 1, none⟩ = some (.int .i64 b)) (c2 : w.cell? ⟨B, 2, none⟩ = some (.int .i64 c)) :
    Calls Tryd.prog 49 #[.int .i64 n, .pointer (some ⟨B, 0, none⟩)] w fun e w' => e = fndE (fnd n a b c) ∧ Below w.heap.size w w' := by
  by_cases h0 : a ≤ n ∧ n < b
  · have hf : fnd n a b c = (0, n - a, true) := by simp [fnd, h0]
    have hi : inB n a (b - 1) = true := inB_true (by omega) (by omega)
    rw [hf]
    have HI := Lib.hid hi
    have HF := Lib.hid h0
    clear hf hi h0
    go_enter Tryd.func49, Tryd.ntmps49
    go_wp2_with fail
    refine wp_loop_rounds 1 ?_
    rw [rounds_succ]
    go_wp2_with fail
    go_quiet ((go_at_call 33; exact within_q _ _ _ HI.out _ _))
    have h0 := HF.out
    go_wp2
    go_quiet (fail)
    go_wp2
    go_returns
    refine ⟨rfl, ?_⟩
    all_goals repeat' (first | exact Below.refl _ _ | refine below_drewN ?_ _)
  · by_cases h1 : b ≤ n ∧ n < c
    · have hf : fnd n a b c = (1, n - b, true) := by simp [fnd, h0, h1]
      have hi : inB n a (b - 1) = false := inB_not.2 (by omega)
      have hj : inB n b (c - 1) = true := inB_true (by omega) (by omega)
      rw [hf]
      have HI := Lib.hid hi
      have HJ := Lib.hid hj
      have HF := Lib.hid h1
      clear hf hi hj h0 h1
      go_enter Tryd.func49, Tryd.ntmps49
      go_wp2_with fail
      refine wp_loop_rounds 2 ?_
      rw [rounds_succ]
      go_wp2_with fail
      go_quiet ((go_at_call 33; exact within_q _ _ _ HI.out _ _))
      go_wp2
      have d0 : (w.drewN nq).cell? ⟨B, 0, none⟩ = some (.int .i64 a) := c0
      have d1 : (w.drewN nq).cell? ⟨B, 1, none⟩ = some (.int .i64 b) := c1
      have d2 : (w.drewN nq).cell? ⟨B, 2, none⟩ = some (.int .i64 c) := c2
      have hbl : Below w.heap.size w (w.drewN nq) := below_drewN (Below.refl _ _) _
      generalize w.drewN nq = w1 at d0 d1 d2 hbl ⊢
      rw [rounds_succ]
      go_wp2_with fail
      go_quiet ((go_at_call 33; exact within_q _ _ _ HJ.out _ _))
      have h1 := HF.out
      go_wp2
      go_quiet (fail)
      go_wp2
      go_returns
      refine ⟨rfl, ?_⟩
      all_goals repeat' (first | exact Below.refl _ _ | exact hbl | refine below_drewN ?_ _)
    · have hf : fnd n a b c = (0, 0, false) := by simp [fnd, h0, h1]
      have hi : inB n a (b - 1) = false := inB_not.2 (by omega)
      have hj : inB n b (c - 1) = false := inB_not.2 (by omega)
      rw [hf]
      have HI := Lib.hid hi
      have HJ := Lib.hid hj
      clear hf hi hj h0 h1
      go_enter Tryd.func49, Tryd.ntmps49
      go_wp2_with fail
      refine wp_loop_rounds 3 ?_
      rw [rounds_succ]
      go_wp2_with fail
      go_quiet ((go_at_call 33; exact within_q _ _ _ HI.out _ _))
      go_wp2
      have d0 : (w.drewN nq).cell? ⟨B, 0, none⟩ = some (.int .i64 a) := c0
      have d1 : (w.drewN nq).cell? ⟨B, 1, none⟩ = some (.int .i64 b) := c1
      have d2 : (w.drewN nq).cell? ⟨B, 2, none⟩ = some (.int .i64 c) := c2
      have hbl : Below w.heap.size w (w.drewN nq) := below_drewN (Below.refl _ _) _
      generalize w.drewN nq = w1 at d0 d1 d2 hbl ⊢
      rw [rounds_succ]
      go_wp2_with fail
      go_quiet ((go_at_call 33; exact within_q _ _ _ HJ.out _ _))
      go_wp2
      rw [rounds_succ]
      go_wp2
      go_returns
      refine ⟨rfl, ?_⟩
      all_goals repeat' (first | exact Below.refl _ _ | exact hbl | refine below_drewN ?_ _)

/-- What an arena holds. -/
structure Ar where
  i0 : Int
  i1 : Int
  i2 : Int
  a0 : Int
  a1 : Int
  a2 : Int
  V : Value

/-- The cells of an arena. -/
structure At (B : Nat) (r : Ar) (w : World) : Prop where
  c0 : w.cell? ⟨B, 0, none⟩ = some (.int .i64 r.i0)
  c1 : w.cell? ⟨B, 1, none⟩ = some (.int .i64 r.i1)
  c2 : w.cell? ⟨B, 2, none⟩ = some (.int .i64 r.i2)
  c3 : w.cell? ⟨B, 3, none⟩ = some (.int .i64 r.a0)
  c4 : w.cell? ⟨B, 4, none⟩ = some (.int .i64 r.a1)
  c5 : w.cell? ⟨B, 5, none⟩ = some (.int .i64 r.a2)
  c6 : w.cell? ⟨B, 6, none⟩ = some r.V

theorem At.below {B : Nat} {r : Ar} {w w' : World} (h : At B r w) (hb : Below w.heap.size w w') : At B r w' := by
  have k : ∀ {p : Addr} {v : Value}, w.cell? p = some v → w'.cell? p = some v := fun h => (hb.cell (World.block_lt_of_cell? _ _ h)).trans h
  exact ⟨k h.c0, k h.c1, k h.c2, k h.c3, k h.c4, k h.c5, k h.c6⟩

/-- Its bounds are small. -/
structure Sm (r : Ar) : Prop where
  i0 : 0 ≤ r.i0 ∧ r.i0 ≤ 10000000
  i1 : 0 ≤ r.i1 ∧ r.i1 ≤ 10000000
  i2 : 0 ≤ r.i2 ∧ r.i2 ≤ 10000000
  a0 : 0 ≤ r.a0 ∧ r.a0 ≤ 10000000
  a1 : 0 ≤ r.a1 ∧ r.a1 ≤ 10000000
  a2 : 0 ≤ r.a2 ∧ r.a2 ≤ 10000000

def ptr (B : Nat) : Value := .pointer (some ⟨B, 0, none⟩)

set_option maxHeartbeats 1000000 in
theorem find_any (B : Nat) (r : Ar) (s : Sm r) (n : Int) (w : World) (h : At B r w) {c d : Int} {t : Bool} (hf : fnd n r.i0 r.i1 r.i2 = (c, d, t)) :
    Calls Tryd.prog 32 #[ptr B, .int .i64 n] w fun e w' => e = .returned (.tuple #[.int .i64 c, .int .i64 d, .bool t]) ∧ Below w.heap.size w w' := by
  obtain ⟨c0, c1, c2, c3, c4, c5, c6⟩ := h
  have HF := Lib.hid hf
  clear hf
  unfold ptr
  go_enter Tryd.func32, Tryd.ntmps32
  go_wp2_with fail
  refine (finder_any _ _ _ _).mono ?_
  rintro e w' ⟨rfl, rfl⟩
  unfold clo
  go_wp2_with fail
  refine (finder1_any n r.i0 r.i1 r.i2 s.i0 s.i1 s.i2 _ _ (by simp [go_sem]) (by simp [go_sem]) (by simp [go_sem])).mono ?_
  rintro e w' ⟨rfl, hb⟩
  rw [HF.out]
  unfold fndE
  go_wp2
  go_returns
  exact ⟨rfl, ((Below.refl _ _).alloc (Nat.le_refl _) _).trans (hb.mono (by simp))⟩

theorem find_nil (n : Int) (w : World) :
    Calls Tryd.prog 32 #[.pointer none, .int .i64 n] w fun e w' => e = .returned (.tuple #[.int .i64 0, .int .i64 0, .bool false]) ∧ Below w.heap.size w w' := by
  go_enter Tryd.func32, Tryd.ntmps32
  go_wp2
  go_returns
  exact ⟨rfl, Below.refl _ _⟩

end Go.Proofs.YtmolccpihmbniaaDoor
