/- The contracts of audit's Slot, notBefore and Place, in whatever world where the table 'sizes' reads as the program lays it, of a base of at most 1000. -/
import Derived.Test.YtejfcmgnacimgaaDoorA1
import Derived.IntWalk
namespace Go.Proofs.YtejfcmgnacimgaaDoor
open Go.RowKit
set_option linter.unusedVariables false
set_option linter.unusedSimpArgs false

theorem wordName_q (k : Int) (h : 0 ≤ k ∧ k ≤ 100) (w : World) (n : Nat) : Calls Tryd.prog 18 #[.int .i64 k] (w.drewN n) fun e w' => e = .returned (.int .i64 (nm k)) ∧ ∃ j, w' = w.drewN j :=
  (wordName_any k h _).mono fun e w' ⟨h1, h2⟩ => ⟨h1, n, h2.symm⟩

theorem fld2 (T B a b : Int) (w : World) : (Instr.field 24 (.agg #[.int .i64 T, .int .i64 B, .int .i64 a, .int .i64 b]) 2).run Tryd.prog w = .ok (.agg #[.int .i64 a, .int .i64 b]) w := by kernel_rfl

def fndS (B a b p : Int) : Int × Int :=
  if p < B then (0, 0) else if p - B < 6 * a then ((p - B) / 6 + 1, nm ((p - B) % 6)) else if p - B - 6 * a < 10 * b then (a + (p - B - 6 * a) / 10 + 1, nm ((p - B - 6 * a) % 10)) else (0, 0)

theorem below_drewN {w w' : World} {B : Nat} (h : Below B w w') (n : Nat) : Below B w (w'.drewN n) := h.trans ⟨rfl, rfl, rfl, Nat.le_refl _, fun _ _ => rfl⟩

set_option maxHeartbeats 4000000 in
set_option maxRecDepth 100000 in
theorem slot_any (T B a b p : Int) (hB : 0 ≤ B ∧ B ≤ 1000) (hp : -9223372036854775808 ≤ p ∧ p ≤ 9223372036854775807) (w : World) (hs : Sz w) :
    Calls Tryd.prog 10 #[facts T B a b, .int .i64 p] w fun e w' => e = .returned (.tuple #[.int .i64 (fndS B (clamp a 4096) (clamp b 4096) p).1, .int .i64 (fndS B (clamp a 4096) (clamp b 4096) p).2]) ∧ Below w.heap.size w w' := by
  obtain ⟨hB0, hB1⟩ := hB
  obtain ⟨hp0, hp1⟩ := hp
  have hxa := clamp_bd (x := a) (show (0 : Int) ≤ 4096 by decide)
  have hxb := clamp_bd (x := b) (show (0 : Int) ≤ 4096 by decide)
  have HC := fun w => clamped_any T B a b w
  have hb0 : Below w.heap.size w (w.alloc (.cells #[.int .i64 T, .int .i64 B, .int .i64 a, .int .i64 b] 24)) := by go_grown
  have hz : 0 < w.heap.size := World.block_lt_of_cell? _ _ hs.1
  have HS := Lib.hid (hs.below hb0)
  clear hs
  unfold facts at HC ⊢
  generalize clamp T 16 = ct at HC
  generalize clamp a 4096 = ca at HC hxa ⊢
  generalize clamp b 4096 = cb at HC hxb ⊢
  have i0 := fun w => idx2_0 ca cb w
  have i1 := fun w => idx2_1 ca cb w
  have f2 := fun w => fld2 ct B ca cb w
  obtain ⟨ha0, ha1⟩ := hxa
  obtain ⟨hc0, hc1⟩ := hxb
  by_cases hlt : p < B
  · have hf : fndS B ca cb p = (0, 0) := by simp [fndS, hlt]
    rw [hf]
    clear hf i0 i1 f2 HC
    go_enter Tryd.func10, Tryd.ntmps10
    go_wp2
    go_returns
    exact ⟨rfl, hb0⟩
  · have hle : B ≤ p := by omega
    have hx0 : 0 ≤ p - B := by omega
    have hp2 : 0 ≤ p := by omega
    clear hp0
    by_cases h1 : p - B < 6 * ca
    · have hf : fndS B ca cb p = ((p - B) / 6 + 1, nm ((p - B) % 6)) := by simp only [fndS]; rw [if_neg hlt, if_pos h1]
      rw [hf]
      have HB0 := Lib.hid hb0
      have h6 : p - B < ca * 6 := by omega
      clear hf hlt i1 hb0 h1
      go_enter Tryd.func10, Tryd.ntmps10
      go_wp2_with fail
      refine (HC _).mono ?_
      rintro e w1 ⟨rfl, hb1⟩
      have hsz : 0 < w1.heap.size := by have := hb1.size; simp at this; omega
      obtain ⟨s0, s1⟩ := HS.out.below hb1
      have HB1 := Lib.hid (HB0.out.trans (hb1.mono HB0.out.size))
      clear hb1 HC
      go_wp2_with fail
      refine wp_loop_rounds 1 ?_
      rw [rounds_succ]
      go_wp2_with fail
      have q1 : (p - B).tdiv 6 = (p - B) / 6 := Int.tdiv_eq_ediv_of_nonneg hx0
      have q2 : (p - B).tmod 6 = (p - B) % 6 := Int.tmod_eq_emod_of_nonneg hx0
      have q3 : 0 ≤ (p - B) / 6 := by omega
      have q4 : (p - B) / 6 ≤ 5000 := by omega
      have q5 : 0 ≤ (p - B) % 6 := by omega
      have q6 : (p - B) % 6 ≤ 9 := by omega
      have q7 : IntKind.i64.wrap ((p - B) / 6) = (p - B) / 6 := IntWalk.i64_in _ (by omega)
      have q8 : IntKind.i64.wrap ((p - B) / 6 + 1) = (p - B) / 6 + 1 := IntWalk.i64_in _ (by omega)
      go_quiet ((go_at_call 18; exact wordName_q _ (by omega) _ _))
      go_wp2
      go_returns
      exact ⟨rfl, below_drewN HB1.out _⟩
    · have hlt6 : decide (p - B < ca * 6) = false := by simp; omega
      have hx6 : 0 ≤ p - B - ca * 6 := by omega
      by_cases h2 : p - B - 6 * ca < 10 * cb
      · have hf : fndS B ca cb p = (ca + (p - B - ca * 6) / 10 + 1, nm ((p - B - ca * 6) % 10)) := by simp only [fndS]; rw [if_neg hlt, if_neg h1, if_pos h2, Int.mul_comm 6 ca]
        rw [hf]
        have HB0 := Lib.hid hb0
        have h6 : p - B - ca * 6 < cb * 10 := by omega
        clear hf hlt hb0 h1 h2 hx0
        have hx0 := hx6
        clear hx6
        go_enter Tryd.func10, Tryd.ntmps10
        go_wp2_with fail
        refine (HC _).mono ?_
        rintro e w1 ⟨rfl, hb1⟩
        have hsz : 0 < w1.heap.size := by have := hb1.size; simp at this; omega
        obtain ⟨s0, s1⟩ := HS.out.below hb1
        have HB1 := Lib.hid (HB0.out.trans (hb1.mono HB0.out.size))
        clear hb1 HC
        go_wp2_with fail
        refine wp_loop_rounds 2 ?_
        rw [rounds_succ]
        go_wp2_with fail
        rw [rounds_succ]
        go_wp2_with fail
        have q1 : (p - B - ca * 6).tdiv 10 = (p - B - ca * 6) / 10 := Int.tdiv_eq_ediv_of_nonneg hx0
        have q2 : (p - B - ca * 6).tmod 10 = (p - B - ca * 6) % 10 := Int.tmod_eq_emod_of_nonneg hx0
        have q3 : 0 ≤ (p - B - ca * 6) / 10 := by omega
        have q4 : (p - B - ca * 6) / 10 ≤ 5000 := by omega
        have q5 : 0 ≤ (p - B - ca * 6) % 10 := by omega
        have q6 : (p - B - ca * 6) % 10 ≤ 9 := by omega
        have q7 : IntKind.i64.wrap ((p - B - ca * 6) / 10) = (p - B - ca * 6) / 10 := IntWalk.i64_in _ (by omega)
        have q8 : IntKind.i64.wrap (ca + (p - B - ca * 6) / 10) = ca + (p - B - ca * 6) / 10 := IntWalk.i64_in _ (by omega)
        have q9 : IntKind.i64.wrap (ca + (p - B - ca * 6) / 10 + 1) = ca + (p - B - ca * 6) / 10 + 1 := IntWalk.i64_in _ (by omega)
        go_quiet ((go_at_call 18; exact wordName_q _ (by omega) _ _))
        go_wp2
        go_returns
        exact ⟨rfl, below_drewN HB1.out _⟩
      · have hf : fndS B ca cb p = (0, 0) := by simp only [fndS]; rw [if_neg hlt, if_neg h1, if_neg h2]
        rw [hf]
        have HB0 := Lib.hid hb0
        have h6 : decide (p - B - ca * 6 < cb * 10) = false := by simp; omega
        have h7 : 0 ≤ p - B - ca * 6 - cb * 10 := by omega
        clear hf hlt hb0 h1 h2
        go_enter Tryd.func10, Tryd.ntmps10
        go_wp2_with fail
        refine (HC _).mono ?_
        rintro e w1 ⟨rfl, hb1⟩
        have hsz : 0 < w1.heap.size := by have := hb1.size; simp at this; omega
        obtain ⟨s0, s1⟩ := HS.out.below hb1
        have HB1 := Lib.hid (HB0.out.trans (hb1.mono HB0.out.size))
        clear hb1 HC
        go_wp2_with fail
        refine wp_loop_rounds 3 ?_
        rw [rounds_succ]
        go_wp2_with fail
        rw [rounds_succ]
        go_wp2_with fail
        rw [rounds_succ]
        go_wp2
        go_returns
        exact ⟨rfl, HB1.out⟩

def plcS (B a b i : Int) : Int := if i < 1 then -1 else if i - 1 < a then B + (i - 1) * 6 + 2 else if i - 1 - a < b then B + a * 6 + (i - 1 - a) * 10 + 2 else -1

theorem notBefore_q (B p : Int) (h : B ≤ p) (w : World) (n : Nat) : Calls Tryd.prog 20 #[.int .i64 B, .int .i64 p] (w.drewN n) fun e w' => e = .returned (.int .i64 p) ∧ ∃ j, w' = w.drewN j := by
  go_enter Tryd.func20, Tryd.ntmps20
  go_wp2
  go_returns
  exact ⟨rfl, n, rfl⟩

set_option maxHeartbeats 4000000 in
set_option maxRecDepth 100000 in
theorem place_any (T B a b i : Int) (hB : 0 ≤ B ∧ B ≤ 1000) (hi : -9223372036854775808 ≤ i ∧ i ≤ 9223372036854775807) (w : World) (hs : Sz w) :
    Calls Tryd.prog 13 #[facts T B a b, .int .i64 i] w fun e w' => e = .returned (.int .i64 (plcS B (clamp a 4096) (clamp b 4096) i)) ∧ Below w.heap.size w w' := by
  obtain ⟨hB0, hB1⟩ := hB
  obtain ⟨hp0, hp1⟩ := hi
  have hxa := clamp_bd (x := a) (show (0 : Int) ≤ 4096 by decide)
  have hxb := clamp_bd (x := b) (show (0 : Int) ≤ 4096 by decide)
  have HC := fun w => clamped_any T B a b w
  have hb0 : Below w.heap.size w (w.alloc (.cells #[.int .i64 T, .int .i64 B, .int .i64 a, .int .i64 b] 24)) := by go_grown
  have hz : 0 < w.heap.size := World.block_lt_of_cell? _ _ hs.1
  have HS := Lib.hid (hs.below hb0)
  clear hs
  unfold facts at HC ⊢
  generalize clamp T 16 = ct at HC
  generalize clamp a 4096 = ca at HC hxa ⊢
  generalize clamp b 4096 = cb at HC hxb ⊢
  have i0 := fun w => idx2_0 ca cb w
  have i1 := fun w => idx2_1 ca cb w
  have f2 := fun w => fld2 ct B ca cb w
  obtain ⟨ha0, ha1⟩ := hxa
  obtain ⟨hc0, hc1⟩ := hxb
  by_cases hlt : i < 1
  · have hf : plcS B ca cb i = -1 := by simp [plcS, hlt]
    rw [hf]
    clear hf i0 i1 f2 HC
    go_enter Tryd.func13, Tryd.ntmps13
    go_wp2
    go_returns
    exact ⟨rfl, hb0⟩
  · have hi1 : 1 ≤ i := by omega
    clear hp0
    by_cases h1 : i - 1 < ca
    · have hf : plcS B ca cb i = B + (i - 1) * 6 + 2 := by simp only [plcS]; rw [if_neg hlt, if_pos h1]
      rw [hf]
      have HB0 := Lib.hid hb0
      clear hf hlt i1 hb0
      go_enter Tryd.func13, Tryd.ntmps13
      go_wp2_with fail
      refine (HC _).mono ?_
      rintro e w1 ⟨rfl, hb1⟩
      have d1 : w1.cell? ⟨w.heap.size, 1, none⟩ = some (.int .i64 B) := keep hb1 (by simp [go_sem])
      have hsz : 0 < w1.heap.size := by have := hb1.size; simp at this; omega
      obtain ⟨s0, s1⟩ := HS.out.below hb1
      have HB1 := Lib.hid (HB0.out.trans (hb1.mono HB0.out.size))
      clear hb1 HC
      go_wp2_with fail
      refine wp_loop_rounds 1 ?_
      rw [rounds_succ]
      go_wp2_with fail
      have q1 : IntKind.i64.wrap ((i - 1) * 6) = (i - 1) * 6 := IntWalk.i64_in _ (by omega)
      have q2 : IntKind.i64.wrap (B + (i - 1) * 6) = B + (i - 1) * 6 := IntWalk.i64_in _ (by omega)
      have q3 : IntKind.i64.wrap (B + (i - 1) * 6 + 2) = B + (i - 1) * 6 + 2 := IntWalk.i64_in _ (by omega)
      go_quiet ((go_at_call 20; exact notBefore_q _ _ (by omega) _ _))
      go_wp2
      go_returns
      exact ⟨rfl, below_drewN HB1.out _⟩
    · have hlt6 : decide (i - 1 < ca) = false := by simp; omega
      by_cases h2 : i - 1 - ca < cb
      · have hf : plcS B ca cb i = B + ca * 6 + (i - 1 - ca) * 10 + 2 := by simp only [plcS]; rw [if_neg hlt, if_neg h1, if_pos h2]
        rw [hf]
        have HB0 := Lib.hid hb0
        have hg : 0 ≤ i - 1 - ca := by omega
        clear hf hlt hb0 h1
        go_enter Tryd.func13, Tryd.ntmps13
        go_wp2_with fail
        refine (HC _).mono ?_
        rintro e w1 ⟨rfl, hb1⟩
        have d1 : w1.cell? ⟨w.heap.size, 1, none⟩ = some (.int .i64 B) := keep hb1 (by simp [go_sem])
        have hsz : 0 < w1.heap.size := by have := hb1.size; simp at this; omega
        obtain ⟨s0, s1⟩ := HS.out.below hb1
        have HB1 := Lib.hid (HB0.out.trans (hb1.mono HB0.out.size))
        clear hb1 HC
        go_wp2_with fail
        refine wp_loop_rounds 2 ?_
        rw [rounds_succ]
        go_wp2_with fail
        rw [rounds_succ]
        go_wp2_with fail
        have q1 : IntKind.i64.wrap ((i - 1 - ca) * 10) = (i - 1 - ca) * 10 := IntWalk.i64_in _ (by omega)
        have q2 : IntKind.i64.wrap (B + ca * 6 + (i - 1 - ca) * 10) = B + ca * 6 + (i - 1 - ca) * 10 := IntWalk.i64_in _ (by omega)
        have q3 : IntKind.i64.wrap (B + ca * 6 + (i - 1 - ca) * 10 + 2) = B + ca * 6 + (i - 1 - ca) * 10 + 2 := IntWalk.i64_in _ (by omega)
        go_quiet ((go_at_call 20; exact notBefore_q _ _ (by omega) _ _))
        go_wp2
        go_returns
        exact ⟨rfl, below_drewN HB1.out _⟩
      · have hf : plcS B ca cb i = -1 := by simp only [plcS]; rw [if_neg hlt, if_neg h1, if_neg h2]
        rw [hf]
        have HB0 := Lib.hid hb0
        have h6 : decide (i - 1 - ca < cb) = false := by simp; omega
        have h7 : 0 ≤ i - 1 - ca - cb := by omega
        have hg : 0 ≤ i - 1 - ca := by omega
        clear hf hlt hb0 h1 h2
        go_enter Tryd.func13, Tryd.ntmps13
        go_wp2_with fail
        refine (HC _).mono ?_
        rintro e w1 ⟨rfl, hb1⟩
        have hsz : 0 < w1.heap.size := by have := hb1.size; simp at this; omega
        obtain ⟨s0, s1⟩ := HS.out.below hb1
        have HB1 := Lib.hid (HB0.out.trans (hb1.mono HB0.out.size))
        clear hb1 HC
        go_wp2_with fail
        refine wp_loop_rounds 3 ?_
        rw [rounds_succ]
        go_wp2_with fail
        rw [rounds_succ]
        go_wp2_with fail
        rw [rounds_succ]
        go_wp2
        go_returns
        exact ⟨rfl, HB1.out⟩
end Go.Proofs.YtejfcmgnacimgaaDoor
