/- The region of AuditFirst that checks twice: what holds while its operations are done, in whatever order. -/
import Derived.Test.YtejfcmgnacimgaaDoorL1
import Derived.Test.YtejfcmgnacimgaaDoorW1
import Derived.Laws.Tables
namespace Go.Proofs.YtejfcmgnacimgaaDoor
open Go.RowKit Go.ChangeMaps
set_option linter.unusedVariables false
set_option linter.unusedSimpArgs false

theorem lt_of_some {w : World} {A : Nat} {o : Obj} (h : w.heap[A]? = some o) : A < w.heap.size := (Array.getElem?_eq_some_iff.1 h).1
theorem lst_eq {l : Array Bool} {i : Nat} (h : i < l.size) : (l.setIfInBounds i true).getD i false = true := by
  simp [Array.getD_eq_getD_getElem?, Array.getElem?_setIfInBounds, h]
/-- Where the region of the two checks stands: which of its operations have been done, and what they left. -/
structure RI (T B a b : Int) (ad : Option Addr) (len cap k : Nat) (va vf vt vs ua uf ut us : Int) (N0 : Nat) (w0 : World) (l : Array Bool) (A D : Nat) (p8 p9 x27 x28 x29 x30 x31 x32 x33 x34 : Value) (w : World) : Prop where
  hB : Below N0 w0 w
  h27 : l.getD 0 false = true → x27 = .agg #[.int .i64 T, .int .i64 B, .int .i64 a, .int .i64 b]
  h28 : l.getD 1 false = true → x28 = .slice ad len cap
  h29 : l.getD 2 false = true → x29 = .int .i64 (k : Int)
  h30 : l.getD 3 false = true → x30 = .slice ad k cap
  h31 : l.getD 4 false = true → x31 = .agg #[.int .i64 va, .int .i64 vf, .int .i64 vt, .int .i64 vs]
  h32 : l.getD 5 false = true → x32 = .agg #[.int .i64 T, .int .i64 B, .int .i64 a, .int .i64 b]
  h33 : l.getD 6 false = true → x33 = .slice ad len cap
  h34 : l.getD 7 false = true → x34 = .agg #[.int .i64 ua, .int .i64 uf, .int .i64 ut, .int .i64 us]
  h8 : l.getD 8 false = true → p8 = .pointer (some ⟨A, 0, none⟩) ∧ N0 ≤ A ∧ w.heap[A]? = some (.cells (if l.getD 10 false then #[.int .i64 va, .int .i64 vf, .int .i64 vt, .int .i64 vs] else #[.int .i64 0, .int .i64 0, .int .i64 0, .int .i64 0]) 43 (0, 0))
  h9 : l.getD 9 false = true → p9 = .pointer (some ⟨D, 0, none⟩) ∧ N0 ≤ D ∧ w.heap[D]? = some (.cells (if l.getD 11 false then #[.int .i64 ua, .int .i64 uf, .int .i64 ut, .int .i64 us] else #[.int .i64 0, .int .i64 0, .int .i64 0, .int .i64 0]) 43 (0, 0))
  ne : l.getD 8 false = true → l.getD 9 false = true → A ≠ D
  c10 : l.getD 10 false = true → l.getD 8 false = true
  c11 : l.getD 11 false = true → l.getD 9 false = true

theorem lst_ne {l : Array Bool} {i j : Nat} (h : i ≠ j) : (l.setIfInBounds i true).getD j false = l.getD j false := by
  simp only [Array.getD_eq_getD_getElem?, Array.getElem?_setIfInBounds, if_neg h]
theorem lst_no {l : Array Bool} {i : Nat} (h : l.getD i true = false) : l.getD i false = false := by
  simp only [Array.getD_eq_getD_getElem?] at *
  cases hh : l[i]? with
  | none => rfl
  | some b => rw [hh] at h; simpa using h

theorem RI.s0 {T B a b : Int} {ad : Option Addr} {len cap k : Nat} {va vf vt vs ua uf ut us : Int} {N0 : Nat} {w0 : World} {l : Array Bool} {A D : Nat} {p8 p9 x27 x28 x29 x30 x31 x32 x33 x34 : Value} {w : World} (h : RI T B a b ad len cap k va vf vt vs ua uf ut us N0 w0 l A D p8 p9 x27 x28 x29 x30 x31 x32 x33 x34 w) {w' : World} (hb : Below w.heap.size w w') (hN : N0 ≤ w.heap.size) : RI T B a b ad len cap k va vf vt vs ua uf ut us N0 w0 (l.setIfInBounds 0 true) A D p8 p9 (.agg #[.int .i64 T, .int .i64 B, .int .i64 a, .int .i64 b]) x28 x29 x30 x31 x32 x33 x34 w' := by
  refine ⟨h.hB.trans (hb.mono hN), fun _ => rfl, fun g => h.h28 (by rw [lst_ne (by decide)] at g; exact g), fun g => h.h29 (by rw [lst_ne (by decide)] at g; exact g), fun g => h.h30 (by rw [lst_ne (by decide)] at g; exact g), fun g => h.h31 (by rw [lst_ne (by decide)] at g; exact g), fun g => h.h32 (by rw [lst_ne (by decide)] at g; exact g), fun g => h.h33 (by rw [lst_ne (by decide)] at g; exact g), fun g => h.h34 (by rw [lst_ne (by decide)] at g; exact g), fun g => ?_, fun g => ?_, fun g1 g2 => h.ne (by rw [lst_ne (by decide)] at g1; exact g1) (by rw [lst_ne (by decide)] at g2; exact g2), fun g => ?_, fun g => ?_⟩
  · rw [lst_ne (by decide)] at g ⊢
    obtain ⟨h1, h2, h3⟩ := h.h8 g
    exact ⟨h1, h2, (hb.block _ (lt_of_some h3)).trans h3⟩
  · rw [lst_ne (by decide)] at g ⊢
    obtain ⟨h1, h2, h3⟩ := h.h9 g
    exact ⟨h1, h2, (hb.block _ (lt_of_some h3)).trans h3⟩
  · rw [lst_ne (by decide)] at g ⊢
    exact h.c10 g
  · rw [lst_ne (by decide)] at g ⊢
    exact h.c11 g

theorem RI.s1 {T B a b : Int} {ad : Option Addr} {len cap k : Nat} {va vf vt vs ua uf ut us : Int} {N0 : Nat} {w0 : World} {l : Array Bool} {A D : Nat} {p8 p9 x27 x28 x29 x30 x31 x32 x33 x34 : Value} {w : World} (h : RI T B a b ad len cap k va vf vt vs ua uf ut us N0 w0 l A D p8 p9 x27 x28 x29 x30 x31 x32 x33 x34 w) {w' : World} (hb : Below w.heap.size w w') (hN : N0 ≤ w.heap.size) : RI T B a b ad len cap k va vf vt vs ua uf ut us N0 w0 (l.setIfInBounds 1 true) A D p8 p9 x27 (.slice ad len cap) x29 x30 x31 x32 x33 x34 w' := by
  refine ⟨h.hB.trans (hb.mono hN), fun g => h.h27 (by rw [lst_ne (by decide)] at g; exact g), fun _ => rfl, fun g => h.h29 (by rw [lst_ne (by decide)] at g; exact g), fun g => h.h30 (by rw [lst_ne (by decide)] at g; exact g), fun g => h.h31 (by rw [lst_ne (by decide)] at g; exact g), fun g => h.h32 (by rw [lst_ne (by decide)] at g; exact g), fun g => h.h33 (by rw [lst_ne (by decide)] at g; exact g), fun g => h.h34 (by rw [lst_ne (by decide)] at g; exact g), fun g => ?_, fun g => ?_, fun g1 g2 => h.ne (by rw [lst_ne (by decide)] at g1; exact g1) (by rw [lst_ne (by decide)] at g2; exact g2), fun g => ?_, fun g => ?_⟩
  · rw [lst_ne (by decide)] at g ⊢
    obtain ⟨h1, h2, h3⟩ := h.h8 g
    exact ⟨h1, h2, (hb.block _ (lt_of_some h3)).trans h3⟩
  · rw [lst_ne (by decide)] at g ⊢
    obtain ⟨h1, h2, h3⟩ := h.h9 g
    exact ⟨h1, h2, (hb.block _ (lt_of_some h3)).trans h3⟩
  · rw [lst_ne (by decide)] at g ⊢
    exact h.c10 g
  · rw [lst_ne (by decide)] at g ⊢
    exact h.c11 g

theorem RI.s2 {T B a b : Int} {ad : Option Addr} {len cap k : Nat} {va vf vt vs ua uf ut us : Int} {N0 : Nat} {w0 : World} {l : Array Bool} {A D : Nat} {p8 p9 x27 x28 x29 x30 x31 x32 x33 x34 : Value} {w : World} (h : RI T B a b ad len cap k va vf vt vs ua uf ut us N0 w0 l A D p8 p9 x27 x28 x29 x30 x31 x32 x33 x34 w) {w' : World} (hb : Below w.heap.size w w') (hN : N0 ≤ w.heap.size) : RI T B a b ad len cap k va vf vt vs ua uf ut us N0 w0 (l.setIfInBounds 2 true) A D p8 p9 x27 x28 (.int .i64 (k : Int)) x30 x31 x32 x33 x34 w' := by
  refine ⟨h.hB.trans (hb.mono hN), fun g => h.h27 (by rw [lst_ne (by decide)] at g; exact g), fun g => h.h28 (by rw [lst_ne (by decide)] at g; exact g), fun _ => rfl, fun g => h.h30 (by rw [lst_ne (by decide)] at g; exact g), fun g => h.h31 (by rw [lst_ne (by decide)] at g; exact g), fun g => h.h32 (by rw [lst_ne (by decide)] at g; exact g), fun g => h.h33 (by rw [lst_ne (by decide)] at g; exact g), fun g => h.h34 (by rw [lst_ne (by decide)] at g; exact g), fun g => ?_, fun g => ?_, fun g1 g2 => h.ne (by rw [lst_ne (by decide)] at g1; exact g1) (by rw [lst_ne (by decide)] at g2; exact g2), fun g => ?_, fun g => ?_⟩
  · rw [lst_ne (by decide)] at g ⊢
    obtain ⟨h1, h2, h3⟩ := h.h8 g
    exact ⟨h1, h2, (hb.block _ (lt_of_some h3)).trans h3⟩
  · rw [lst_ne (by decide)] at g ⊢
    obtain ⟨h1, h2, h3⟩ := h.h9 g
    exact ⟨h1, h2, (hb.block _ (lt_of_some h3)).trans h3⟩
  · rw [lst_ne (by decide)] at g ⊢
    exact h.c10 g
  · rw [lst_ne (by decide)] at g ⊢
    exact h.c11 g

theorem RI.s3 {T B a b : Int} {ad : Option Addr} {len cap k : Nat} {va vf vt vs ua uf ut us : Int} {N0 : Nat} {w0 : World} {l : Array Bool} {A D : Nat} {p8 p9 x27 x28 x29 x30 x31 x32 x33 x34 : Value} {w : World} (h : RI T B a b ad len cap k va vf vt vs ua uf ut us N0 w0 l A D p8 p9 x27 x28 x29 x30 x31 x32 x33 x34 w) {w' : World} (hb : Below w.heap.size w w') (hN : N0 ≤ w.heap.size) : RI T B a b ad len cap k va vf vt vs ua uf ut us N0 w0 (l.setIfInBounds 3 true) A D p8 p9 x27 x28 x29 (.slice ad k cap) x31 x32 x33 x34 w' := by
  refine ⟨h.hB.trans (hb.mono hN), fun g => h.h27 (by rw [lst_ne (by decide)] at g; exact g), fun g => h.h28 (by rw [lst_ne (by decide)] at g; exact g), fun g => h.h29 (by rw [lst_ne (by decide)] at g; exact g), fun _ => rfl, fun g => h.h31 (by rw [lst_ne (by decide)] at g; exact g), fun g => h.h32 (by rw [lst_ne (by decide)] at g; exact g), fun g => h.h33 (by rw [lst_ne (by decide)] at g; exact g), fun g => h.h34 (by rw [lst_ne (by decide)] at g; exact g), fun g => ?_, fun g => ?_, fun g1 g2 => h.ne (by rw [lst_ne (by decide)] at g1; exact g1) (by rw [lst_ne (by decide)] at g2; exact g2), fun g => ?_, fun g => ?_⟩
  · rw [lst_ne (by decide)] at g ⊢
    obtain ⟨h1, h2, h3⟩ := h.h8 g
    exact ⟨h1, h2, (hb.block _ (lt_of_some h3)).trans h3⟩
  · rw [lst_ne (by decide)] at g ⊢
    obtain ⟨h1, h2, h3⟩ := h.h9 g
    exact ⟨h1, h2, (hb.block _ (lt_of_some h3)).trans h3⟩
  · rw [lst_ne (by decide)] at g ⊢
    exact h.c10 g
  · rw [lst_ne (by decide)] at g ⊢
    exact h.c11 g

theorem RI.s4 {T B a b : Int} {ad : Option Addr} {len cap k : Nat} {va vf vt vs ua uf ut us : Int} {N0 : Nat} {w0 : World} {l : Array Bool} {A D : Nat} {p8 p9 x27 x28 x29 x30 x31 x32 x33 x34 : Value} {w : World} (h : RI T B a b ad len cap k va vf vt vs ua uf ut us N0 w0 l A D p8 p9 x27 x28 x29 x30 x31 x32 x33 x34 w) {w' : World} (hb : Below w.heap.size w w') (hN : N0 ≤ w.heap.size) : RI T B a b ad len cap k va vf vt vs ua uf ut us N0 w0 (l.setIfInBounds 4 true) A D p8 p9 x27 x28 x29 x30 (.agg #[.int .i64 va, .int .i64 vf, .int .i64 vt, .int .i64 vs]) x32 x33 x34 w' := by
  refine ⟨h.hB.trans (hb.mono hN), fun g => h.h27 (by rw [lst_ne (by decide)] at g; exact g), fun g => h.h28 (by rw [lst_ne (by decide)] at g; exact g), fun g => h.h29 (by rw [lst_ne (by decide)] at g; exact g), fun g => h.h30 (by rw [lst_ne (by decide)] at g; exact g), fun _ => rfl, fun g => h.h32 (by rw [lst_ne (by decide)] at g; exact g), fun g => h.h33 (by rw [lst_ne (by decide)] at g; exact g), fun g => h.h34 (by rw [lst_ne (by decide)] at g; exact g), fun g => ?_, fun g => ?_, fun g1 g2 => h.ne (by rw [lst_ne (by decide)] at g1; exact g1) (by rw [lst_ne (by decide)] at g2; exact g2), fun g => ?_, fun g => ?_⟩
  · rw [lst_ne (by decide)] at g ⊢
    obtain ⟨h1, h2, h3⟩ := h.h8 g
    exact ⟨h1, h2, (hb.block _ (lt_of_some h3)).trans h3⟩
  · rw [lst_ne (by decide)] at g ⊢
    obtain ⟨h1, h2, h3⟩ := h.h9 g
    exact ⟨h1, h2, (hb.block _ (lt_of_some h3)).trans h3⟩
  · rw [lst_ne (by decide)] at g ⊢
    exact h.c10 g
  · rw [lst_ne (by decide)] at g ⊢
    exact h.c11 g

theorem RI.s5 {T B a b : Int} {ad : Option Addr} {len cap k : Nat} {va vf vt vs ua uf ut us : Int} {N0 : Nat} {w0 : World} {l : Array Bool} {A D : Nat} {p8 p9 x27 x28 x29 x30 x31 x32 x33 x34 : Value} {w : World} (h : RI T B a b ad len cap k va vf vt vs ua uf ut us N0 w0 l A D p8 p9 x27 x28 x29 x30 x31 x32 x33 x34 w) {w' : World} (hb : Below w.heap.size w w') (hN : N0 ≤ w.heap.size) : RI T B a b ad len cap k va vf vt vs ua uf ut us N0 w0 (l.setIfInBounds 5 true) A D p8 p9 x27 x28 x29 x30 x31 (.agg #[.int .i64 T, .int .i64 B, .int .i64 a, .int .i64 b]) x33 x34 w' := by
  refine ⟨h.hB.trans (hb.mono hN), fun g => h.h27 (by rw [lst_ne (by decide)] at g; exact g), fun g => h.h28 (by rw [lst_ne (by decide)] at g; exact g), fun g => h.h29 (by rw [lst_ne (by decide)] at g; exact g), fun g => h.h30 (by rw [lst_ne (by decide)] at g; exact g), fun g => h.h31 (by rw [lst_ne (by decide)] at g; exact g), fun _ => rfl, fun g => h.h33 (by rw [lst_ne (by decide)] at g; exact g), fun g => h.h34 (by rw [lst_ne (by decide)] at g; exact g), fun g => ?_, fun g => ?_, fun g1 g2 => h.ne (by rw [lst_ne (by decide)] at g1; exact g1) (by rw [lst_ne (by decide)] at g2; exact g2), fun g => ?_, fun g => ?_⟩
  · rw [lst_ne (by decide)] at g ⊢
    obtain ⟨h1, h2, h3⟩ := h.h8 g
    exact ⟨h1, h2, (hb.block _ (lt_of_some h3)).trans h3⟩
  · rw [lst_ne (by decide)] at g ⊢
    obtain ⟨h1, h2, h3⟩ := h.h9 g
    exact ⟨h1, h2, (hb.block _ (lt_of_some h3)).trans h3⟩
  · rw [lst_ne (by decide)] at g ⊢
    exact h.c10 g
  · rw [lst_ne (by decide)] at g ⊢
    exact h.c11 g

theorem RI.s6 {T B a b : Int} {ad : Option Addr} {len cap k : Nat} {va vf vt vs ua uf ut us : Int} {N0 : Nat} {w0 : World} {l : Array Bool} {A D : Nat} {p8 p9 x27 x28 x29 x30 x31 x32 x33 x34 : Value} {w : World} (h : RI T B a b ad len cap k va vf vt vs ua uf ut us N0 w0 l A D p8 p9 x27 x28 x29 x30 x31 x32 x33 x34 w) {w' : World} (hb : Below w.heap.size w w') (hN : N0 ≤ w.heap.size) : RI T B a b ad len cap k va vf vt vs ua uf ut us N0 w0 (l.setIfInBounds 6 true) A D p8 p9 x27 x28 x29 x30 x31 x32 (.slice ad len cap) x34 w' := by
  refine ⟨h.hB.trans (hb.mono hN), fun g => h.h27 (by rw [lst_ne (by decide)] at g; exact g), fun g => h.h28 (by rw [lst_ne (by decide)] at g; exact g), fun g => h.h29 (by rw [lst_ne (by decide)] at g; exact g), fun g => h.h30 (by rw [lst_ne (by decide)] at g; exact g), fun g => h.h31 (by rw [lst_ne (by decide)] at g; exact g), fun g => h.h32 (by rw [lst_ne (by decide)] at g; exact g), fun _ => rfl, fun g => h.h34 (by rw [lst_ne (by decide)] at g; exact g), fun g => ?_, fun g => ?_, fun g1 g2 => h.ne (by rw [lst_ne (by decide)] at g1; exact g1) (by rw [lst_ne (by decide)] at g2; exact g2), fun g => ?_, fun g => ?_⟩
  · rw [lst_ne (by decide)] at g ⊢
    obtain ⟨h1, h2, h3⟩ := h.h8 g
    exact ⟨h1, h2, (hb.block _ (lt_of_some h3)).trans h3⟩
  · rw [lst_ne (by decide)] at g ⊢
    obtain ⟨h1, h2, h3⟩ := h.h9 g
    exact ⟨h1, h2, (hb.block _ (lt_of_some h3)).trans h3⟩
  · rw [lst_ne (by decide)] at g ⊢
    exact h.c10 g
  · rw [lst_ne (by decide)] at g ⊢
    exact h.c11 g

theorem RI.s7 {T B a b : Int} {ad : Option Addr} {len cap k : Nat} {va vf vt vs ua uf ut us : Int} {N0 : Nat} {w0 : World} {l : Array Bool} {A D : Nat} {p8 p9 x27 x28 x29 x30 x31 x32 x33 x34 : Value} {w : World} (h : RI T B a b ad len cap k va vf vt vs ua uf ut us N0 w0 l A D p8 p9 x27 x28 x29 x30 x31 x32 x33 x34 w) {w' : World} (hb : Below w.heap.size w w') (hN : N0 ≤ w.heap.size) : RI T B a b ad len cap k va vf vt vs ua uf ut us N0 w0 (l.setIfInBounds 7 true) A D p8 p9 x27 x28 x29 x30 x31 x32 x33 (.agg #[.int .i64 ua, .int .i64 uf, .int .i64 ut, .int .i64 us]) w' := by
  refine ⟨h.hB.trans (hb.mono hN), fun g => h.h27 (by rw [lst_ne (by decide)] at g; exact g), fun g => h.h28 (by rw [lst_ne (by decide)] at g; exact g), fun g => h.h29 (by rw [lst_ne (by decide)] at g; exact g), fun g => h.h30 (by rw [lst_ne (by decide)] at g; exact g), fun g => h.h31 (by rw [lst_ne (by decide)] at g; exact g), fun g => h.h32 (by rw [lst_ne (by decide)] at g; exact g), fun g => h.h33 (by rw [lst_ne (by decide)] at g; exact g), fun _ => rfl, fun g => ?_, fun g => ?_, fun g1 g2 => h.ne (by rw [lst_ne (by decide)] at g1; exact g1) (by rw [lst_ne (by decide)] at g2; exact g2), fun g => ?_, fun g => ?_⟩
  · rw [lst_ne (by decide)] at g ⊢
    obtain ⟨h1, h2, h3⟩ := h.h8 g
    exact ⟨h1, h2, (hb.block _ (lt_of_some h3)).trans h3⟩
  · rw [lst_ne (by decide)] at g ⊢
    obtain ⟨h1, h2, h3⟩ := h.h9 g
    exact ⟨h1, h2, (hb.block _ (lt_of_some h3)).trans h3⟩
  · rw [lst_ne (by decide)] at g ⊢
    exact h.c10 g
  · rw [lst_ne (by decide)] at g ⊢
    exact h.c11 g

theorem RI.s8 {T B a b : Int} {ad : Option Addr} {len cap k : Nat} {va vf vt vs ua uf ut us : Int} {N0 : Nat} {w0 : World} {l : Array Bool} {A D : Nat} {p8 p9 x27 x28 x29 x30 x31 x32 x33 x34 : Value} {w : World} (h : RI T B a b ad len cap k va vf vt vs ua uf ut us N0 w0 l A D p8 p9 x27 x28 x29 x30 x31 x32 x33 x34 w) (hl : l.size = 12) (hn : l.getD 8 false = false) (hN : N0 ≤ w.heap.size) :
    RI T B a b ad len cap k va vf vt vs ua uf ut us N0 w0 (l.setIfInBounds 8 true) w.heap.size D (.pointer (some ⟨w.heap.size, 0, none⟩)) p9 x27 x28 x29 x30 x31 x32 x33 x34 (w.alloc (.cells #[.int .i64 0, .int .i64 0, .int .i64 0, .int .i64 0] 43)) := by
  have h10 : l.getD 10 false = false := by
    cases g : l.getD 10 false
    · rfl
    · have := h.c10 g; rw [hn] at this; cases this
  refine ⟨h.hB.trans (Below.mono (show Below w.heap.size w _ by go_grown) hN), fun g => h.h27 (by rw [lst_ne (by decide)] at g; exact g), fun g => h.h28 (by rw [lst_ne (by decide)] at g; exact g), fun g => h.h29 (by rw [lst_ne (by decide)] at g; exact g), fun g => h.h30 (by rw [lst_ne (by decide)] at g; exact g), fun g => h.h31 (by rw [lst_ne (by decide)] at g; exact g), fun g => h.h32 (by rw [lst_ne (by decide)] at g; exact g), fun g => h.h33 (by rw [lst_ne (by decide)] at g; exact g), fun g => h.h34 (by rw [lst_ne (by decide)] at g; exact g), fun g => ⟨rfl, hN, ?_⟩, fun g => ?_, fun g1 g2 => ?_, fun g => lst_eq (by rw [hl]; decide), fun g => ?_⟩
  · rw [lst_ne (by decide), h10, if_neg (by simp)]
    exact al_heap_new _ _
  · rw [lst_ne (by decide)] at g ⊢
    obtain ⟨h1, h2, h3⟩ := h.h9 g
    exact ⟨h1, h2, (al_heap_old _ _ (lt_of_some h3)).trans h3⟩
  · rw [lst_ne (by decide)] at g2
    have := lt_of_some (h.h9 g2).2.2
    omega
  · rw [lst_ne (by decide)] at g ⊢
    exact h.c11 g
theorem RI.s9 {T B a b : Int} {ad : Option Addr} {len cap k : Nat} {va vf vt vs ua uf ut us : Int} {N0 : Nat} {w0 : World} {l : Array Bool} {A D : Nat} {p8 p9 x27 x28 x29 x30 x31 x32 x33 x34 : Value} {w : World} (h : RI T B a b ad len cap k va vf vt vs ua uf ut us N0 w0 l A D p8 p9 x27 x28 x29 x30 x31 x32 x33 x34 w) (hl : l.size = 12) (hn : l.getD 9 false = false) (hN : N0 ≤ w.heap.size) :
    RI T B a b ad len cap k va vf vt vs ua uf ut us N0 w0 (l.setIfInBounds 9 true) A w.heap.size p8 (.pointer (some ⟨w.heap.size, 0, none⟩)) x27 x28 x29 x30 x31 x32 x33 x34 (w.alloc (.cells #[.int .i64 0, .int .i64 0, .int .i64 0, .int .i64 0] 43)) := by
  have h11 : l.getD 11 false = false := by
    cases g : l.getD 11 false
    · rfl
    · have := h.c11 g; rw [hn] at this; cases this
  refine ⟨h.hB.trans (Below.mono (show Below w.heap.size w _ by go_grown) hN), fun g => h.h27 (by rw [lst_ne (by decide)] at g; exact g), fun g => h.h28 (by rw [lst_ne (by decide)] at g; exact g), fun g => h.h29 (by rw [lst_ne (by decide)] at g; exact g), fun g => h.h30 (by rw [lst_ne (by decide)] at g; exact g), fun g => h.h31 (by rw [lst_ne (by decide)] at g; exact g), fun g => h.h32 (by rw [lst_ne (by decide)] at g; exact g), fun g => h.h33 (by rw [lst_ne (by decide)] at g; exact g), fun g => h.h34 (by rw [lst_ne (by decide)] at g; exact g), fun g => ?_, fun g => ⟨rfl, hN, ?_⟩, fun g1 g2 => ?_, fun g => ?_, fun g => lst_eq (by rw [hl]; decide)⟩
  · rw [lst_ne (by decide)] at g ⊢
    obtain ⟨h1, h2, h3⟩ := h.h8 g
    exact ⟨h1, h2, (al_heap_old _ _ (lt_of_some h3)).trans h3⟩
  · rw [lst_ne (by decide), h11, if_neg (by simp)]
    exact al_heap_new _ _
  · rw [lst_ne (by decide)] at g1
    have := lt_of_some (h.h8 g1).2.2
    omega
  · rw [lst_ne (by decide)] at g ⊢
    exact h.c10 g

theorem RI.s10 {T B a b : Int} {ad : Option Addr} {len cap k : Nat} {va vf vt vs ua uf ut us : Int} {N0 : Nat} {w0 : World} {l : Array Bool} {A D : Nat} {p8 p9 x27 x28 x29 x30 x31 x32 x33 x34 : Value} {w : World} (h : RI T B a b ad len cap k va vf vt vs ua uf ut us N0 w0 l A D p8 p9 x27 x28 x29 x30 x31 x32 x33 x34 w) (hl : l.size = 12) (h8 : l.getD 8 false = true) :
    RI T B a b ad len cap k va vf vt vs ua uf ut us N0 w0 (l.setIfInBounds 10 true) A D p8 p9 x27 x28 x29 x30 x31 x32 x33 x34 (w.setRow A #[.int .i64 va, .int .i64 vf, .int .i64 vt, .int .i64 vs]) := by
  have hN := (h.h8 h8).2.1
  have oth : ∀ j, j ≠ A → (w.setRow A #[.int .i64 va, .int .i64 vf, .int .i64 vt, .int .i64 vs]).heap[j]? = w.heap[j]? := fun j hj => by
    simp only [World.setRow, Array.getElem?_modify]; rw [if_neg (by omega)]
  have row : ∀ c, w.heap[A]? = some (.cells c 43 (0, 0)) → (w.setRow A #[.int .i64 va, .int .i64 vf, .int .i64 vt, .int .i64 vs]).heap[A]? = some (.cells #[.int .i64 va, .int .i64 vf, .int .i64 vt, .int .i64 vs] 43 (0, 0)) := fun c hc => setRow_heap w A c _ 43 (0, 0) hc
  refine ⟨h.hB.trans ⟨rfl, rfl, rfl, by simp [World.setRow], fun j hj => oth j (by omega)⟩, fun g => h.h27 (by rw [lst_ne (by decide)] at g; exact g), fun g => h.h28 (by rw [lst_ne (by decide)] at g; exact g), fun g => h.h29 (by rw [lst_ne (by decide)] at g; exact g), fun g => h.h30 (by rw [lst_ne (by decide)] at g; exact g), fun g => h.h31 (by rw [lst_ne (by decide)] at g; exact g), fun g => h.h32 (by rw [lst_ne (by decide)] at g; exact g), fun g => h.h33 (by rw [lst_ne (by decide)] at g; exact g), fun g => h.h34 (by rw [lst_ne (by decide)] at g; exact g), fun g => ?_, fun g => ?_, fun g1 g2 => h.ne (by rw [lst_ne (by decide)] at g1; exact g1) (by rw [lst_ne (by decide)] at g2; exact g2), fun g => by rw [lst_ne (by decide)]; exact h8, fun g => by rw [lst_ne (by decide)] at g ⊢; exact h.c11 g⟩
  · obtain ⟨h1, h2, h3⟩ := h.h8 h8
    rw [lst_eq (by rw [hl]; decide), if_pos rfl]
    exact ⟨h1, h2, row _ h3⟩
  · rw [lst_ne (by decide)] at g ⊢
    obtain ⟨h1, h2, h3⟩ := h.h9 g
    exact ⟨h1, h2, (oth _ (fun e => h.ne h8 g e.symm)).trans h3⟩

theorem RI.s11 {T B a b : Int} {ad : Option Addr} {len cap k : Nat} {va vf vt vs ua uf ut us : Int} {N0 : Nat} {w0 : World} {l : Array Bool} {A D : Nat} {p8 p9 x27 x28 x29 x30 x31 x32 x33 x34 : Value} {w : World} (h : RI T B a b ad len cap k va vf vt vs ua uf ut us N0 w0 l A D p8 p9 x27 x28 x29 x30 x31 x32 x33 x34 w) (hl : l.size = 12) (h9 : l.getD 9 false = true) :
    RI T B a b ad len cap k va vf vt vs ua uf ut us N0 w0 (l.setIfInBounds 11 true) A D p8 p9 x27 x28 x29 x30 x31 x32 x33 x34 (w.setRow D #[.int .i64 ua, .int .i64 uf, .int .i64 ut, .int .i64 us]) := by
  have hN := (h.h9 h9).2.1
  have oth : ∀ j, j ≠ D → (w.setRow D #[.int .i64 ua, .int .i64 uf, .int .i64 ut, .int .i64 us]).heap[j]? = w.heap[j]? := fun j hj => by
    simp only [World.setRow, Array.getElem?_modify]; rw [if_neg (by omega)]
  have row : ∀ c, w.heap[D]? = some (.cells c 43 (0, 0)) → (w.setRow D #[.int .i64 ua, .int .i64 uf, .int .i64 ut, .int .i64 us]).heap[D]? = some (.cells #[.int .i64 ua, .int .i64 uf, .int .i64 ut, .int .i64 us] 43 (0, 0)) := fun c hc => setRow_heap w D c _ 43 (0, 0) hc
  refine ⟨h.hB.trans ⟨rfl, rfl, rfl, by simp [World.setRow], fun j hj => oth j (by omega)⟩, fun g => h.h27 (by rw [lst_ne (by decide)] at g; exact g), fun g => h.h28 (by rw [lst_ne (by decide)] at g; exact g), fun g => h.h29 (by rw [lst_ne (by decide)] at g; exact g), fun g => h.h30 (by rw [lst_ne (by decide)] at g; exact g), fun g => h.h31 (by rw [lst_ne (by decide)] at g; exact g), fun g => h.h32 (by rw [lst_ne (by decide)] at g; exact g), fun g => h.h33 (by rw [lst_ne (by decide)] at g; exact g), fun g => h.h34 (by rw [lst_ne (by decide)] at g; exact g), fun g => ?_, fun g => ?_, fun g1 g2 => h.ne (by rw [lst_ne (by decide)] at g1; exact g1) (by rw [lst_ne (by decide)] at g2; exact g2), fun g => by rw [lst_ne (by decide)] at g ⊢; exact h.c10 g, fun g => by rw [lst_ne (by decide)]; exact h9⟩
  · rw [lst_ne (by decide)] at g ⊢
    obtain ⟨h1, h2, h3⟩ := h.h8 g
    exact ⟨h1, h2, (oth _ (h.ne g h9)).trans h3⟩
  · obtain ⟨h1, h2, h3⟩ := h.h9 h9
    rw [lst_eq (by rw [hl]; decide), if_pos rfl]
    exact ⟨h1, h2, row _ h3⟩
end Go.Proofs.YtejfcmgnacimgaaDoor
