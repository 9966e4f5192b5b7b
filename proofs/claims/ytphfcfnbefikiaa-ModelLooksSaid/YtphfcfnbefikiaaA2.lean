/- The program's object in memory; the small functions. -/
import Derived.Test.YtphfcfnbefikiaaA1
import Derived.Test.YtphfcfnbefikiaaP2
namespace Go.Proofs.Ytphfcfnbefikiaa
open Go.RowKit
set_option linter.unusedVariables false
set_option linter.unusedSimpArgs false

abbrev nilP : Value := .pointer none
abbrev P (B : Nat) : Value := .pointer (some ⟨B, 0, none⟩)
abbrev i64 (n : Int) : Value := .int .i64 n
abbrev u64 (n : Int) : Value := .int .u64 n
def ansV (a : An) : Value := .agg #[.int .i64 a.1, .bool a.2.1, .int .u64 a.2.2]

def cells2 : List Th → List Value
  | [] => []
  | t :: L => .int .u64 t.1 :: .int .u64 t.2 :: cells2 L
theorem cells2_len (L : List Th) : (cells2 L).length = L.length * 2 := by
  induction L with
  | nil => rfl
  | cons t L ih => simp [cells2, ih]; omega
theorem cells2_append (A B : List Th) : cells2 (A ++ B) = cells2 A ++ cells2 B := by
  induction A with
  | nil => rfl
  | cons t A ih => simp [cells2, ih]
theorem cells2_one (L : List Th) : ∀ u ∈ cells2 L, u.oneCell' = true := by
  induction L with
  | nil => intro u h; cases h
  | cons t L ih =>
    intro u h
    simp only [cells2, List.mem_cons] at h
    rcases h with rfl | rfl | h
    · rfl
    · rfl
    · exact ih u h
theorem cells2_0 {L : List Th} {i : Nat} {t : Th} (h : L[i]? = some t) : (cells2 L)[i * 2]? = some (.int .u64 t.1) := by
  induction L generalizing i with
  | nil => simp at h
  | cons a L ih =>
    cases i with
    | zero => simp at h; subst h; rfl
    | succ i => rw [show (i + 1) * 2 = i * 2 + 1 + 1 by omega]; simp only [cells2, List.getElem?_cons_succ]; exact ih (by simpa using h)
theorem cells2_1 {L : List Th} {i : Nat} {t : Th} (h : L[i]? = some t) : (cells2 L)[i * 2 + 1]? = some (.int .u64 t.2) := by
  induction L generalizing i with
  | nil => simp at h
  | cons a L ih =>
    cases i with
    | zero => simp at h; subst h; rfl
    | succ i => rw [show (i + 1) * 2 + 1 = i * 2 + 1 + 1 + 1 by omega]; simp only [cells2, List.getElem?_cons_succ]; exact ih (by simpa using h)
theorem cells2_take (L : List Th) (n : Nat) : cells2 (L.take n) = (cells2 L).take (n * 2) := by
  induction L generalizing n with
  | nil => simp [cells2]
  | cons a L ih =>
    cases n with
    | zero => simp [cells2]
    | succ n => rw [show (n + 1) * 2 = n * 2 + 1 + 1 by omega]; simp [cells2, ih]
theorem cells2_drop (L : List Th) (n : Nat) : cells2 (L.drop n) = (cells2 L).drop (n * 2) := by
  induction L generalizing n with
  | nil => simp [cells2]
  | cons a L ih =>
    cases n with
    | zero => simp [cells2]
    | succ n => rw [show (n + 1) * 2 = n * 2 + 1 + 1 by omega]; simp [cells2, ih]

/-- The program's object of client c, with these things: block X, the slice's own block H, the slice v. -/
structure Ob (w : World) (X H : Nat) (v : Value) (c : Int) (L : List Th) : Prop where
  c0 : w.cell? ⟨X, 0, none⟩ = some (.int .i64 c)
  c1 : w.cell? ⟨X, 1, none⟩ = some (.pointer (some ⟨H, 0, none⟩))
  hv : w.cell? ⟨H, 0, none⟩ = some v
  fz : w.frozen? ⟨H, 0, none⟩ = false
  sl : Sl w 51 2 v L.length (cells2 L)
  ne : X ≠ H
  nx : v.ownBlock ≠ some X
  nh : v.ownBlock ≠ some H

section
variable {w w' : World} {X H : Nat} {v : Value} {c : Int} {L : List Th}
theorem Ob.ltX (h : Ob w X H v c L) : X < w.heap.size := World.block_lt_of_cell? _ _ h.c0
theorem Ob.ltH (h : Ob w X H v c L) : H < w.heap.size := World.block_lt_of_cell? _ _ h.hv
theorem Ob.kept (h : Ob w X H v c L) (hX : w'.heap[X]? = w.heap[X]?) (hH : w'.heap[H]? = w.heap[H]?) (hb : ∀ b, v.ownBlock = some b → w'.heap[b]? = w.heap[b]?) : Ob w' X H v c L :=
  ⟨(World.cell?_of_block (w := w) (a := ⟨X, 0, none⟩) hX).trans h.c0, (World.cell?_of_block (w := w) (a := ⟨X, 1, none⟩) hX).trans h.c1, (World.cell?_of_block (w := w) (a := ⟨H, 0, none⟩) hH).trans h.hv, (World.frozen?_of_block (w := w) (a := ⟨H, 0, none⟩) hH).trans h.fz, h.sl.kept hb, h.ne, h.nx, h.nh⟩
theorem Ob.below (h : Ob w X H v c L) (hb : Below w.heap.size w w') : Ob w' X H v c L := h.kept (hb.block _ h.ltX) (hb.block _ h.ltH) fun b e => hb.block b (h.sl.lt e)
/-- what other objects' doings leave -/
theorem Ob.ch {r1 r2 : Option Nat} (h : Ob w X H v c L) (hc : Ch r1 r2 w w') (x1 : r1 ≠ some X) (x2 : r2 ≠ some X) (y1 : r1 ≠ some H) (y2 : r2 ≠ some H) (z1 : ∀ b, v.ownBlock = some b → r1 ≠ some b) (z2 : ∀ b, v.ownBlock = some b → r2 ≠ some b) : Ob w' X H v c L :=
  h.kept (hc.block _ h.ltX (Ne.symm x1) (Ne.symm x2)) (hc.block _ h.ltH (Ne.symm y1) (Ne.symm y2)) fun b e => hc.block b (h.sl.lt e) (Ne.symm (z1 b e)) (Ne.symm (z2 b e))
end

theorem missing_nil (w : World) : Calls Try.prog 32 #[nilP] w fun e w' => e = .returned (.bool true) ∧ w = w' := by
  go_enter Try.func32, Try.ntmps32
  go_wp2
  go_returns
  exact ⟨rfl, rfl⟩
theorem missing_zero {X : Nat} (w : World) (h : w.cell? ⟨X, 1, none⟩ = some (.pointer none)) : Calls Try.prog 32 #[P X] w fun e w' => e = .returned (.bool true) ∧ w = w' := by
  go_enter Try.func32, Try.ntmps32
  go_wp2
  go_returns
  exact ⟨rfl, rfl⟩
theorem missing_at {X H : Nat} (w : World) (h : w.cell? ⟨X, 1, none⟩ = some (P H)) : Calls Try.prog 32 #[P X] w fun e w' => e = .returned (.bool false) ∧ w = w' := by
  go_enter Try.func32, Try.ntmps32
  go_wp2
  go_returns
  exact ⟨rfl, rfl⟩

theorem client_at {w : World} {X H : Nat} {v : Value} {c : Int} {L : List Th} (h : Ob w X H v c L) : Calls Try.prog 27 #[P X] w fun e w' => e = .returned (i64 c) ∧ w = w' := by
  have c0 := h.c0
  have M := Lib.hid h.c1
  clear h
  go_enter Try.func27, Try.ntmps27
  go_wp2_with fail
  refine (missing_at _ M.out).mono ?_
  rintro e w1 ⟨rfl, rfl⟩
  go_wp2
  go_returns
  exact ⟨rfl, rfl⟩
theorem client_nil (w : World) : Calls Try.prog 27 #[nilP] w fun e w' => e = .returned (i64 0) ∧ w = w' := by
  go_enter Try.func27, Try.ntmps27
  go_wp2_with fail
  refine (missing_nil _).mono ?_
  rintro e w1 ⟨rfl, rfl⟩
  go_wp2
  go_returns
  exact ⟨rfl, rfl⟩
theorem client_zero {X : Nat} (w : World) (h : w.cell? ⟨X, 1, none⟩ = some (.pointer none)) : Calls Try.prog 27 #[P X] w fun e w' => e = .returned (i64 0) ∧ w = w' := by
  go_enter Try.func27, Try.ntmps27
  go_wp2_with fail
  refine (missing_zero _ h).mono ?_
  rintro e w1 ⟨rfl, rfl⟩
  go_wp2
  go_returns
  exact ⟨rfl, rfl⟩
theorem len_at {w : World} {X H : Nat} {v : Value} {c : Int} {L : List Th} (h : Ob w X H v c L) : Calls Try.prog 18 #[P X] w fun e w' => e = .returned (i64 L.length) ∧ w = w' := by
  have c1 := h.c1
  have hv := h.hv
  have M := Lib.hid h.c1
  obtain ⟨ad, cap, rfl, hc⟩ := h.sl.form
  clear h hc
  go_enter Try.func18, Try.ntmps18
  go_wp2_with fail
  refine (missing_at _ M.out).mono ?_
  rintro e w1 ⟨rfl, rfl⟩
  go_wp2
  go_returns
  exact ⟨rfl, rfl⟩
theorem len_nil (w : World) : Calls Try.prog 18 #[nilP] w fun e w' => e = .returned (i64 0) ∧ w = w' := by
  go_enter Try.func18, Try.ntmps18
  go_wp2_with fail
  refine (missing_nil _).mono ?_
  rintro e w1 ⟨rfl, rfl⟩
  go_wp2
  go_returns
  exact ⟨rfl, rfl⟩
theorem len_zero {X : Nat} (w : World) (h : w.cell? ⟨X, 1, none⟩ = some (.pointer none)) : Calls Try.prog 18 #[P X] w fun e w' => e = .returned (i64 0) ∧ w = w' := by
  go_enter Try.func18, Try.ntmps18
  go_wp2_with fail
  refine (missing_zero _ h).mono ?_
  rintro e w1 ⟨rfl, rfl⟩
  go_wp2
  go_returns
  exact ⟨rfl, rfl⟩

theorem putting_any (c : Int) (w : World) : Calls Try.prog 29 #[i64 c] w fun e w' => e = .returned (i64 (if c = 1 then 1 else if c = 2 then 3 else 5)) ∧ w = w' := by
  by_cases h1 : c = 1
  · subst h1
    go_enter Try.func29, Try.ntmps29
    go_wp2
    go_returns
    exact ⟨rfl, rfl⟩
  · by_cases h2 : c = 2
    · subst h2
      go_enter Try.func29, Try.ntmps29
      go_wp2
      go_returns
      exact ⟨rfl, rfl⟩
    · rw [if_neg h1, if_neg h2]
      have e1 : (c == 1) = false := by simp [h1]
      have e2 : (c == 2) = false := by simp [h2]
      clear h1 h2
      go_enter Try.func29, Try.ntmps29
      go_wp2
      go_returns
      exact ⟨rfl, rfl⟩

theorem rmap_any (c : Int) (w : World) : Calls Try.prog 31 #[i64 c] w fun e w' => e = .returned (.bool (isMap c)) ∧ w = w' := by
  go_enter Try.func31, Try.ntmps31
  go_wp2
  all_goals go_returns
  all_goals refine ⟨ret_bool ?_, rfl⟩
  all_goals (unfold isMap; rw [Bool.eq_iff_iff]; simp; try omega)

theorem yes_any (x : Int) (w : World) : Calls Try.prog 17 #[u64 x] w fun e w' => e = .returned (ansV (yesA x)) ∧ Below w.heap.size w w' := by
  unfold ansV yesA
  go_enter Try.func17, Try.ntmps17
  go_wp2
  go_returns
  exact ⟨rfl, by go_grown⟩
theorem few_any {a1 a2 : Option Addr} {n1 n2 c1 c2 : Nat} (w : World) : Calls Try.prog 9 #[.slice a1 n1 c1, .slice a2 n2 c2] w fun e w' => e = .returned (.bool (decide (n1 ≤ 30) && decide (n2 ≤ 80))) ∧ w = w' := by
  go_enter Try.func9, Try.ntmps9
  go_wp2
  all_goals go_returns
  all_goals refine ⟨ret_bool ?_, rfl⟩
  all_goals (rw [Bool.eq_iff_iff]; simp; try omega)
end Go.Proofs.Ytphfcfnbefikiaa
