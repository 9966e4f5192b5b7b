/- Note, alone; the tests ahead of a Put by the setup thread: without, ledgerOf. -/
import Derived.Test.YtebnjfpffdlbbaaV7
namespace Go.Proofs.Ytebnjfpffdlbbaa
open Go.RowKit
set_option linter.unusedVariables false
set_option linter.unusedSimpArgs false

theorem Kr.of_below {W : Nat} {row : Option Nat} {w w1 w' : World} (hb : Below w.heap.size w w1) (hW : W < w.heap.size) (k : Kr W row w1 w') : Kr W row w w' :=
  ⟨k.os.trans hb.os, k.tape.trans hb.tape, k.output.trans hb.output, Nat.le_trans hb.size k.size, fun j hj h1 h2 => (k.block j (Nat.lt_of_lt_of_le hj hb.size) h1 h2).trans (hb.block j hj),
    fun j hj => (k.cell j hj).trans (hb.cell (p := ⟨W, j, none⟩) hW), fun j => (k.fz j).trans (hb.frozen (p := ⟨W, j, none⟩) hW)⟩

set_option maxHeartbeats 4000000 in
set_option maxRecDepth 100000 in
theorem note_l {T W n base : Nat} {id by_ : Int} {sl : Option Addr} {c : Nat} {xs : List Value} {w : World} {n0 n1 n2 n3 n4 n5 n6 n7 : Value}
    (h0 : w.cell? ⟨T, 0, none⟩ = some (.pointer (some ⟨W, 0, none⟩))) (h1 : w.cell? ⟨T, 1, none⟩ = some (.int .i64 id)) (h2 : w.cell? ⟨T, 2, none⟩ = some (.int .i64 by_)) (h7 : w.cell? ⟨T, 7, none⟩ = some (.bool false))
    (he : w.cell? ⟨W, 3, none⟩ = some (.slice sl n c)) (hf : w.frozen? ⟨W, 3, none⟩ = false)
    (hown : w.ownsRow base 61 16 (.slice sl n c) n xs) (hbase : base ≤ w.heap.size) (hW : W < base) (hn : n ≤ 100000) (h1c : ∀ u ∈ [n0, n1, n2, n3, n4, n5, n6, n7], u.oneCell' = true) :
    Calls Try.prog 44 #[.pointer (some ⟨T, 0, none⟩), .agg #[n0, n1, n2, n3, n4, n5, n6, n7]] w fun e w' => e = .returned (.tuple #[]) ∧ ∃ g cap, w'.cell? ⟨W, 3, none⟩ = some (.slice (some ⟨g, 0, none⟩) (n + 1) cap) ∧
      w'.ownsRow base 61 16 (.slice (some ⟨g, 0, none⟩) (n + 1) cap) (n + 1) (xs ++ [.int .i64 n, .int .i64 id, .int .i64 by_, .int .i64 5, .int .i64 0, .int .u64 0, .int .u64 0, .bool false, n0, n1, n2, n3, n4, n5, n6, n7]) ∧ Kr W (Value.slice sl n c).ownBlock w w' ∧ ((Value.slice sl n c).ownBlock = some g ∨ w.heap.size ≤ g) := by
  have hTl := World.block_lt_of_cell? _ _ h0
  have hWl := World.block_lt_of_cell? _ _ he
  simp only at hTl hWl
  have hb : Below w.heap.size w (w.alloc (.cells #[n0, n1, n2, n3, n4, n5, n6, n7] 57)) := by go_grown
  have HM := Lib.hid (tmissing_l (keep hb h0))
  have HREC := Lib.hid (record_l (T := T) (W := W) (n := n) (base := base) (id := id) (by_ := by_) (sl := sl) (c := c) (xs := xs) (w := w.alloc (.cells #[n0, n1, n2, n3, n4, n5, n6, n7] 57)) (e0 := .int .i64 0) (e1 := .int .i64 0) (e2 := .int .i64 0) (e3 := .int .i64 5) (e4 := .int .i64 0) (e5 := .int .u64 0) (e6 := .int .u64 0) (e7 := .bool false) (e8 := n0) (e9 := n1) (e10 := n2) (e11 := n3) (e12 := n4) (e13 := n5) (e14 := n6) (e15 := n7)
    (keep hb h0) (keep hb h1) (keep hb h2) (keep hb he) ((hb.frozen (p := ⟨W, 3, none⟩) hWl).trans hf) (own_below hown hb) (by simp; omega) hW hn
    (fun u hu => by
      simp only [List.mem_cons] at hu
      rcases hu with rfl | rfl | rfl | rfl | rfl | hu
      · rfl
      · rfl
      · rfl
      · rfl
      · rfl
      · exact h1c u (by simpa using hu)))
  have HKR := Lib.hid (fun w' (k : Kr W (Value.slice sl n c).ownBlock (w.alloc (.cells #[n0, n1, n2, n3, n4, n5, n6, n7] 57)) w') => Kr.of_below hb hWl k)
  have h7' := keep hb h7
  clear h0 h1 h2 he hf hown h1c hb
  go_enter Try.func44, Try.ntmps44
  go_wp2_with fail
  refine HM.out.mono ?_
  rintro x w1 ⟨rfl, rfl⟩
  go_wp2_with fail
  refine HREC.out.mono ?_
  rintro x w3 ⟨rfl, g, cap, r1, r2, r3, r4⟩
  have HR := Lib.hid (And.intro r1 r2)
  have HK := Lib.hid (HKR.out w3 r3)
  have HG := Lib.hid r4
  clear r1 r2 r3 r4 h7'
  go_wp2
  go_returns
  exact ⟨rfl, g, cap, HR.out.1, HR.out.2, HK.out, by rcases HG.out with h | h; exact Or.inl h; right; simp at h; omega⟩

theorem eq_thr (W : Nat) (id by_ : Int) (w : World) : (binOp BinOp.eql 100 (.agg #[.pointer (some ⟨W, 0, none⟩), .int .i64 id, .int .i64 by_, .int .i64 (-1), .int .i64 0, .chan none, .chan none, .bool false, .int .i64 0]) (.agg #[.pointer none, .int .i64 0, .int .i64 0, .int .i64 0, .int .i64 0, .chan none, .chan none, .bool false, .int .i64 0])).run Try.prog w = .ok (.bool false) w := by kernel_rfl

/-- A thread's cells. -/
def ThrAt (T W : Nat) (id by_ : Int) (w : World) : Prop := ∀ j, j < 9 → w.cell? ⟨T, j, none⟩ = (thr W id by_)[j]?

theorem id_l {T W : Nat} {id by_ : Int} {w : World} (h : ThrAt T W id by_ w) : Calls Try.prog 49 #[.pointer (some ⟨T, 0, none⟩)] w fun e w' => e = .returned (.int .i64 id) ∧ w = w' := by
  have c0 : w.cell? ⟨T, 0, none⟩ = some (.pointer (some ⟨W, 0, none⟩)) := h 0 (by decide)
  have c1 : w.cell? ⟨T, 1, none⟩ = some (.int .i64 id) := h 1 (by decide)
  have HM := Lib.hid (tmissing_l c0)
  clear h c0
  go_enter Try.func49, Try.ntmps49
  go_wp2_with fail
  refine HM.out.mono ?_
  rintro x w1 ⟨rfl, rfl⟩
  go_wp2
  go_returns
  exact ⟨rfl, rfl⟩

set_option maxRecDepth 100000 in
set_option maxHeartbeats 1000000 in
theorem without_l {B n : Nat} {wo : Option Addr} {at_ : Int} {g c : Nat} {Ls : Nat → Nat} {T W : Nat} {id by_ : Int} {w : World} (hb : Bs B n wo at_ g c Ls w) (h : ThrAt T W id by_ w) :
    Calls Try.prog 48 #[.pointer (some ⟨B, 0, none⟩), .pointer (some ⟨T, 0, none⟩)] w fun e w' => e = .returned (.bool false) ∧ w = w' := by
  have c0 : w.cell? ⟨T, 0, none⟩ = some (.pointer (some ⟨W, 0, none⟩)) := h 0 (by decide)
  have c1 : w.cell? ⟨T, 1, none⟩ = some (.int .i64 id) := h 1 (by decide)
  have c2 : w.cell? ⟨T, 2, none⟩ = some (.int .i64 by_) := h 2 (by decide)
  have c3 : w.cell? ⟨T, 3, none⟩ = some (.int .i64 (-1)) := h 3 (by decide)
  have c4 : w.cell? ⟨T, 4, none⟩ = some (.int .i64 0) := h 4 (by decide)
  have c5 : w.cell? ⟨T, 5, none⟩ = some (.chan none) := h 5 (by decide)
  have c6 : w.cell? ⟨T, 6, none⟩ = some (.chan none) := h 6 (by decide)
  have c7 : w.cell? ⟨T, 7, none⟩ = some (.bool false) := h 7 (by decide)
  have c8 : w.cell? ⟨T, 8, none⟩ = some (.int .i64 0) := h 8 (by decide)
  have q := fun w => eq_thr W id by_ w
  have HM := Lib.hid hb.miss
  clear h hb
  go_enter Try.func48, Try.ntmps48
  go_wp2_with fail
  refine HM.out.mono ?_
  rintro x w1 ⟨rfl, rfl⟩
  go_wp2
  go_returns
  exact ⟨rfl, rfl⟩

theorem ledgerOf_l {B n : Nat} {wo : Option Addr} {at_ : Int} {g c : Nat} {Ls : Nat → Nat} {T W t : Nat} {by_ : Int} {w : World} (hb : Bs B n wo at_ g c Ls w) (h : ThrAt T W t by_ w) (ht : t < n + 1) :
    Calls Try.prog 43 #[.pointer (some ⟨B, 0, none⟩), .pointer (some ⟨T, 0, none⟩)] w fun e w' => e = .returned (.pointer (some ⟨Ls t, 0, none⟩)) ∧ w = w' := by
  have hn := hb.hT
  have HM := Lib.hid (without_l hb h)
  have HI := Lib.hid (id_l h)
  have HL := Lib.hid (ledger_at (c := c) t ht (by omega) w hb.c12 (hb.rows t ht))
  clear h hb
  go_enter Try.func43, Try.ntmps43
  go_wp2_with fail
  refine HM.out.mono ?_
  rintro x w1 ⟨rfl, rfl⟩
  go_wp2_with fail
  refine HI.out.mono ?_
  rintro x w1 ⟨rfl, rfl⟩
  go_wp2_with fail
  refine HL.out.mono ?_
  rintro x w1 ⟨rfl, rfl⟩
  go_wp2
  go_returns
  exact ⟨rfl, rfl⟩
end Go.Proofs.Ytebnjfpffdlbbaa
