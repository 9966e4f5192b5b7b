/- The contracts of arena's Words and New in a world of one thread, and of the laws' begin. -/
import Derived.Test.YtmolccpihmbniaaDoorB2
import Derived.Deep.RegionHeld3
namespace Go.Proofs.YtmolccpihmbniaaDoor
open Go.RowKit
set_option linter.unusedVariables false

theorem mayA_yes {a b : Int} (ha : 0 ≤ a ∧ a ≤ 4096) (hb : 0 ≤ b ∧ b ≤ 4096) : mayA a b = true := by
  simp [mayA, inB]; omega

set_option maxHeartbeats 1000000 in
theorem aWords_any (a b : Int) (ha : 0 ≤ a ∧ a ≤ 4096) (hb : 0 ≤ b ∧ b ≤ 4096) (w : World) (hs : Sz w) :
    Calls Tryd.prog 27 #[arr2 a b] w fun e w' => e = .returned (.int .i64 (6 * a + 10 * b)) ∧ Below w.heap.size w w' := by
  have hm := mayA_yes ha hb
  have HM := Lib.hid hm
  clear hm
  have hb0 : Below w.heap.size w (w.alloc (.cells #[.int .i64 a, .int .i64 b] 53)) := by go_grown
  have HS := Lib.hid (hs.below hb0)
  unfold arr2
  go_enter Tryd.func27, Tryd.ntmps27
  go_wp2_with fail
  refine (mayBe_any a b _).mono ?_
  rintro e w1 ⟨rfl, hb1⟩
  rw [HM.out]
  have c0 : w1.cell? ⟨w.heap.size, 0, none⟩ = some (.int .i64 a) := keep hb1 (by simp [go_sem])
  have c1 : w1.cell? ⟨w.heap.size, 1, none⟩ = some (.int .i64 b) := keep hb1 (by simp [go_sem])
  have HS1 := Lib.hid (HS.out.below hb1)
  have HB := Lib.hid (hb0.trans (hb1.mono (by simp)))
  clear hb0 hb1 HS
  go_wp2_with fail
  refine (wordsOf_any a b ha.1 ha.2 hb.1 hb.2 _ HS1.out).mono ?_
  rintro e w2 ⟨rfl, hb2⟩
  have HB2 := Lib.hid (HB.out.trans (hb2.mono HB.out.size))
  clear hb2
  go_wp2_with fail
  refine (layBounds_any 0 (6 * a) (10 * b) (by omega) (by omega) (by omega) _).mono ?_
  rintro e w3 ⟨rfl, hb3⟩
  have HB3 := Lib.hid (HB2.out.trans (hb3.mono HB2.out.size))
  clear hb3
  go_wp2_with fail
  refine (end_any _ _ _ _).mono ?_
  rintro e w4 ⟨rfl, hb4⟩
  have HB4 := Lib.hid (HB3.out.trans (hb4.mono HB3.out.size))
  clear hb4
  go_wp2
  go_returns
  exact ⟨ret_int (by omega), HB4.out⟩

set_option maxHeartbeats 400000 in
theorem wordsOf_ex (a b : Int) (ha : 0 ≤ a ∧ a ≤ 4096) (hb : 0 ≤ b ∧ b ≤ 4096) (w : World) (hs : Sz w) :
    Calls Tryd.prog 42 #[.agg #[.int .i64 a, .int .i64 b]] w fun e w' => e = .returned (.agg #[.int .i64 (6 * a), .int .i64 (10 * b)]) ∧ ∃ o1 o2 o3, w' = ((w.alloc o1).alloc o2).alloc o3 := by
  have i0 := fun w => idx2_0 a b w
  have i1 := fun w => idx2_1 a b w
  obtain ⟨s0, s1⟩ := hs
  have hz : 0 < w.heap.size := World.block_lt_of_cell? _ _ s0
  go_enter Tryd.func42, Tryd.ntmps42
  go_wp2_with fail
  refine wp_loop_rounds 3 ?_
  rw [rounds_succ]
  go_wp2_with fail
  rw [rounds_succ]
  go_wp2_with fail
  rw [rounds_succ]
  go_wp2
  go_returns
  exact ⟨by rw [Int.mul_comm a, Int.mul_comm b], _, _, _, rfl⟩

set_option maxHeartbeats 400000 in
theorem layBounds_ex (f a b : Int) (h : 0 ≤ f ∧ f ≤ 1000000) (ha : 0 ≤ a ∧ a ≤ 1000000) (hb : 0 ≤ b ∧ b ≤ 1000000) (w : World) :
    Calls Tryd.prog 41 #[.int .i64 f, .agg #[.int .i64 a, .int .i64 b]] w fun e w' => e = .returned (.agg #[.int .i64 f, .int .i64 (f + a), .int .i64 (f + a + b)]) ∧ ∃ o1 o2 o3, w' = ((w.alloc o1).alloc o2).alloc o3 := by
  have i0 := fun w => idx2_0 a b w
  have i1 := fun w => idx2_1 a b w
  go_enter Tryd.func41, Tryd.ntmps41
  go_wp2_with fail
  refine wp_loop_rounds 3 ?_
  rw [rounds_succ]
  go_wp2_with fail
  rw [rounds_succ]
  go_wp2_with fail
  rw [rounds_succ]
  go_wp2
  go_returns
  exact ⟨rfl, _, _, _, rfl⟩

/-- The cells of an arena that was laid, and of its lives. -/
structure New (lo : Nat) (base a b : Int) (A L : Nat) (w : World) : Prop where
  at_ : At A ⟨1, 1 + a, 1 + a + b, base, base + 6 * a, base + 6 * a + 10 * b, .pointer (some ⟨L, 0, none⟩)⟩ w
  l : w.cell? ⟨L, 0, none⟩ = some (.slice none 0 0)
  f : w.frozen? ⟨L, 0, none⟩ = false
  lo : lo ≤ L
  ne : A ≠ L

set_option maxHeartbeats 2000000 in
theorem aNew_any (W : Nat) (n base a b : Int) (ha : 0 ≤ a ∧ a ≤ 4096) (hb : 0 ≤ b ∧ b ≤ 4096) (h0 : 0 ≤ base ∧ base ≤ n) (hn : n ≤ 100000) (hfit : 6 * a + 10 * b ≤ n - base) (w : World) (hs : Sz w) (hw : Wd W n w) :
    Calls Tryd.prog 25 #[.pointer (some ⟨W, 0, none⟩), .int .i64 base, arr2 a b] w fun e w' => ∃ A L, e = .returned (.tuple #[ptr A, .int .i64 0]) ∧ New w.heap.size base a b A L w' ∧ Below w.heap.size w w' := by
  have HM := Lib.hid (mayA_yes ha hb)
  have HI := Lib.hid (inB_true h0.1 h0.2)
  have hb0 : Below w.heap.size w (w.alloc (.cells #[.int .i64 a, .int .i64 b] 53)) := by go_grown
  have HS := Lib.hid (hs.below hb0)
  have HW := Lib.hid (hw.below hb0)
  unfold arr2
  go_enter Tryd.func25, Tryd.ntmps25
  go_wp2_with fail
  refine (threads_any W n _ HW.out).mono ?_
  rintro e w1 ⟨rfl, rfl⟩
  go_wp2_with fail
  refine (words_any W n (by omega) _ HW.out).mono ?_
  rintro e w1 ⟨rfl, rfl⟩
  go_wp2_with fail
  refine (mayBe_any a b _).mono ?_
  rintro e w1 ⟨rfl, hb1⟩
  rw [HM.out]
  have c0 : w1.cell? ⟨w.heap.size, 0, none⟩ = some (.int .i64 a) := keep hb1 (by simp [go_sem])
  have c1 : w1.cell? ⟨w.heap.size, 1, none⟩ = some (.int .i64 b) := keep hb1 (by simp [go_sem])
  have HS1 := Lib.hid (HS.out.below hb1)
  have HB := Lib.hid (hb0.trans (hb1.mono (by simp)))
  clear hb0 hb1 HS HW
  go_wp2_with fail
  refine (within_any _ _ _ _).mono ?_
  rintro e w2 ⟨rfl, rfl⟩
  rw [HI.out]
  go_wp2_with fail
  refine (aWords_any a b ha hb _ HS1.out).mono ?_
  rintro e w2 ⟨rfl, hb2⟩
  have d0 := keep hb2 c0
  have d1 := keep hb2 c1
  have HS2 := Lib.hid (HS1.out.below hb2)
  have HB2 := Lib.hid (HB.out.trans (hb2.mono HB.out.size))
  clear hb2 c0 c1 HS1 HB
  go_wp2_with fail
  have hsz : w.heap.size < w2.heap.size := World.block_lt_of_cell? _ _ d0
  have HK : ∀ {w' : World}, Below w2.heap.size w2 w' → w'.cell? ⟨w.heap.size, 0, none⟩ = some (.int .i64 a) ∧ w'.cell? ⟨w.heap.size, 1, none⟩ = some (.int .i64 b) := fun hb => ⟨keep hb d0, keep hb d1⟩
  go_region_held3 (fun w' => w'.cell? ⟨w.heap.size, 0, none⟩ = some (.int .i64 a) ∧ w'.cell? ⟨w.heap.size, 1, none⟩ = some (.int .i64 b)) (exact HK (by go_grown))
    (first
    | (go_at_call 42; refine (wordsOf_ex a b ha hb _ (HS2.out.below (by go_grown))).mono ?_; rintro e w4 ⟨rfl, o1, o2, o3, rfl⟩)
    | (go_at_call_of 41 (Value.int .i64 a); refine (layBounds_ex 1 a b (by omega) (by omega) (by omega) _).mono ?_; rintro e w4 ⟨rfl, o1, o2, o3, rfl⟩)
    | (go_at_call 41; refine (layBounds_ex base (6 * a) (10 * b) (by omega) (by omega) (by omega) _).mono ?_; rintro e w4 ⟨rfl, o1, o2, o3, rfl⟩))
  all_goals
    go_wp2
    go_returns
    have hle := HB2.out.size
    first
      | (refine ⟨_, w2.heap.size + 9, rfl, ⟨⟨?_, ?_, ?_, ?_, ?_, ?_, ?_⟩, ?_, ?_, ?_, ?_⟩, HB2.out.trans (Below.mono (by go_grown) hle)⟩ <;> first | (simp [go_sem]; done) | (simp [go_sem]; omega) | omega)
      | (refine ⟨_, w2.heap.size + 6, rfl, ⟨⟨?_, ?_, ?_, ?_, ?_, ?_, ?_⟩, ?_, ?_, ?_, ?_⟩, HB2.out.trans (Below.mono (by go_grown) hle)⟩ <;> first | (simp [go_sem]; done) | (simp [go_sem]; omega) | omega)
      | (refine ⟨_, w2.heap.size + 3, rfl, ⟨⟨?_, ?_, ?_, ?_, ?_, ?_, ?_⟩, ?_, ?_, ?_, ?_⟩, HB2.out.trans (Below.mono (by go_grown) hle)⟩ <;> first | (simp [go_sem]; done) | (simp [go_sem]; omega) | omega)
      | (refine ⟨_, w2.heap.size + 0, rfl, ⟨⟨?_, ?_, ?_, ?_, ?_, ?_, ?_⟩, ?_, ?_, ?_, ?_⟩, HB2.out.trans (Below.mono (by go_grown) hle)⟩ <;> first | (simp [go_sem]; done) | (simp [go_sem]; omega) | omega)

set_option maxHeartbeats 1000000 in
theorem begin_any (n base a b : Int) (ha : 0 ≤ a ∧ a ≤ 4096) (hb : 0 ≤ b ∧ b ≤ 4096) (h0 : 0 ≤ base ∧ base ≤ n) (hn : n ≤ 100000) (hfit : 6 * a + 10 * b ≤ n - base) (w : World) (hs : Sz w) :
    Calls Tryd.prog 11 #[.int .i64 n, .int .i64 base, .int .i64 a, .int .i64 b] w fun e w' => ∃ A L, e = .returned (.tuple #[.pointer (some ⟨A, 0, none⟩), .int .i64 0]) ∧ New w.heap.size base a b A L w' ∧ Below w.heap.size w w' := by
  go_enter Tryd.func11, Tryd.ntmps11
  go_wp2_with fail
  refine (vNew_any n (by omega) _).mono ?_
  rintro e w1 ⟨W, rfl, hW, hb1⟩
  have HS1 := Lib.hid (hs.below hb1)
  have HW := Lib.hid hW
  have HB1 := Lib.hid hb1
  clear hW hb1
  unfold ptr
  go_wp2_with fail
  refine (aNew_any W n base a b ha hb h0 hn hfit _ HS1.out HW.out).mono ?_
  rintro e w2 ⟨A, L, rfl, hN, hb2⟩
  have HW2 := Lib.hid (HW.out.below hb2)
  have HN := Lib.hid hN
  have HB2 := Lib.hid (HB1.out.trans (hb2.mono HB1.out.size))
  have HSz := Lib.hid HB1.out.size
  clear hN hb2
  unfold ptr
  go_wp2_with fail
  refine (close_any W n _ HW2.out).mono ?_
  rintro e w3 ⟨rfl, hb3⟩
  have HB3 := Lib.hid (HB2.out.trans (hb3.mono HB2.out.size))
  have hN3 : New w.heap.size base a b A L w3 := by
    obtain ⟨h1, h2, h3, h4, h5⟩ := HN.out
    refine ⟨h1.below hb3, keep hb3 h2, ?_, Nat.le_trans HSz.out h4, h5⟩
    rw [hb3.frozen (World.block_lt_of_cell? _ _ h2)]; exact h3
  have HN3 := Lib.hid hN3
  clear hN3
  clear hb3
  go_wp2
  go_returns
  exact ⟨A, L, rfl, HN3.out, HB3.out⟩

end Go.Proofs.YtmolccpihmbniaaDoor
