/- AuditFirst answers true, in whatever world: the walk. -/
import Derived.Test.YtejfcmgnacimgaaDoorK1
namespace Go.Proofs.YtejfcmgnacimgaaDoor
open Go.RowKit Go.ChangeMaps
set_option linter.unusedVariables false
set_option linter.unusedSimpArgs false

def smallB (T B a b : Int) : Bool := decide (T ≤ 17) && (decide (a ≤ 20) && (decide (b ≤ 20) && (decide (0 ≤ B) && decide (B ≤ 1000))))
theorem small_yes {T B a b : Int} (h : smallB T B a b = true) : T ≤ 17 ∧ a ≤ 20 ∧ b ≤ 20 ∧ 0 ≤ B ∧ B ≤ 1000 := by simpa [smallB] using h

set_option maxHeartbeats 4000000 in
set_option maxRecDepth 100000 in
theorem small_any (T B a b : Int) (w : World) : Calls Tryd.prog 7 #[facts T B a b] w fun x w' => x = .returned (.bool (smallB T B a b)) ∧ Below w.heap.size w w' := by
  unfold facts smallB
  cases h1 : decide (T ≤ 17) <;> cases h2 : decide (a ≤ 20) <;> cases h3 : decide (b ≤ 20) <;> cases h4 : decide (0 ≤ B) <;> cases h5 : decide (B ≤ 1000)
  all_goals
    go_enter Tryd.func7, Tryd.ntmps7
    go_wp2
    go_returns
    exact ⟨rfl, by go_grown⟩

/-- A longer list has the same first fault, if the shorter one has one; else the longer one's lies behind. -/
theorem chk_app : ∀ (l m : List Ev) (s : RS) (i : Nat), (chkF s i l = noV ∧ (chkF s i (l ++ m) = noV ∨ (i + l.length : Nat) ≤ (chkF s i (l ++ m)).at_)) ∨
    ((chkF s i l).fault ≠ 0 ∧ chkF s i (l ++ m) = chkF s i l ∧ (i : Int) ≤ (chkF s i l).at_ ∧ (chkF s i l).at_ < ((i + l.length : Nat) : Int))
  | [], m, s, i => by
    left
    refine ⟨rfl, ?_⟩
    have : ∀ (m : List Ev) (s : RS) (i : Nat), chkF s i m = noV ∨ (i : Int) ≤ (chkF s i m).at_ := by
      intro m
      induction m with
      | nil => exact fun s i => Or.inl rfl
      | cons e m ih =>
        intro s i
        by_cases h : judgeF s e = 0
        · rw [chk_step h]
          rcases ih (followF s i e) (i + 1) with h1 | h1
          · exact Or.inl h1
          · right; omega
        · rw [chk_stop h]; right; exact Int.le_refl _
    simpa using this m s i
  | e :: l, m, s, i => by
    by_cases h : judgeF s e = 0
    · rw [List.cons_append, chk_step h, chk_step h]
      rcases chk_app l m (followF s i e) (i + 1) with ⟨h1, h2⟩ | ⟨h1, h2, h3, h4⟩
      · left
        refine ⟨h1, ?_⟩
        rcases h2 with h2 | h2
        · exact Or.inl h2
        · right; simp only [List.length_cons] at *; omega
      · right
        refine ⟨h1, h2, by omega, by simp only [List.length_cons] at *; omega⟩
    · rw [List.cons_append, chk_stop h, chk_stop h]
      right
      exact ⟨h, rfl, Int.le_refl _, by simp only [List.length_cons]; omega⟩

set_option maxHeartbeats 8000000 in
set_option maxRecDepth 100000 in
theorem first_out (T B a b : Int) (ad : Option Addr) (len cap : Nat) (n : Int) (h : smallB T B a b = false ∨ 300 < len) (w : World) (hz : Sz w) :
    Calls Tryd.prog 4 #[facts T B a b, .slice ad len cap, .int .i64 n] w fun x w' => x = .returned (.bool true) ∧ Below w.heap.size w w' := by
  have hb0 : Below w.heap.size w (w.alloc (.cells #[.int .i64 T, .int .i64 B, .int .i64 a, .int .i64 b] 24)) := by go_grown
  have HSM := fun w => small_any T B a b w
  unfold facts at HSM ⊢
  have HB := Lib.hid hb0
  cases hs : smallB T B a b
  · have HS := Lib.hid hs
    clear hb0 h hs
    go_enter Tryd.func4, Tryd.ntmps4
    go_wp2_with fail
    refine (HSM _).mono ?_
    rintro x w1 ⟨rfl, hb1⟩
    rw [HS.out]
    have HB1 := Lib.hid (HB.out.trans (hb1.mono HB.out.size))
    clear hb1 HSM
    go_wp2_with fail
    refine (known_any _ ⟨(HB1.out.cell (World.block_lt_of_cell? _ _ hz.1)).trans hz.1, (HB1.out.cell (World.block_lt_of_cell? _ _ hz.2)).trans hz.2⟩).mono ?_
    rintro x w2 ⟨rfl, hb2⟩
    have HB2 := Lib.hid (HB1.out.trans (hb2.mono HB1.out.size))
    clear hb2
    go_wp2
    go_returns
    exact ⟨rfl, HB2.out⟩
  · have HS := Lib.hid hs
    have hlen : 300 < len := by rcases h with h | h; rw [hs] at h; cases h; exact h
    have hlen' : (300 : Int) < (len : Int) := by omega
    clear hb0 h hs
    go_enter Tryd.func4, Tryd.ntmps4
    go_wp2_with fail
    refine (HSM _).mono ?_
    rintro x w1 ⟨rfl, hb1⟩
    rw [HS.out]
    have HB1 := Lib.hid (HB.out.trans (hb1.mono HB.out.size))
    clear hb1 HSM
    go_wp2_with fail
    refine (known_any _ ⟨(HB1.out.cell (World.block_lt_of_cell? _ _ hz.1)).trans hz.1, (HB1.out.cell (World.block_lt_of_cell? _ _ hz.2)).trans hz.2⟩).mono ?_
    rintro x w2 ⟨rfl, hb2⟩
    have HB2 := Lib.hid (HB1.out.trans (hb2.mono HB1.out.size))
    clear hb2
    go_wp2
    go_returns
    exact ⟨rfl, HB2.out⟩

end Go.Proofs.YtejfcmgnacimgaaDoor
