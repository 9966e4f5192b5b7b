/- The law ArenaLives answers true in whatever world; the table must read as the program lays it. -/
import Derived.Test.YtmolccpihmbniaaDoorH1
import Derived.Test.YtmolccpihmbniaaDoorG1
namespace Go.Proofs.YtmolccpihmbniaaDoor
open Go.RowKit
set_option linter.unusedVariables false

theorem Kp.mono {B B' L : Nat} {w w' : World} (h : Kp B L w w') (hB : B' ≤ B) : Kp B' L w w' := ⟨h.os, h.tape, h.output, h.size, fun k hk hn => h.block k (by omega) hn⟩

/-- The indexes lie in memory. -/
def InL (ad : Option Addr) (len : Nat) (zs : Nat → Int) (w : World) : Prop := ∀ i, i < len → ∃ b off, ad = some ⟨b, off, none⟩ ∧ w.cell? ⟨b, off + i, none⟩ = some (.int .i64 (zs i))

/-- Behind j rounds: lives C; the law's own count, in block M, says the same. -/
structure Iv (A : Nat) (r : Ar) (L M T : Nat) (w1 : World) (j : Nat) (C : Nat → Int) (wr : World) : Prop where
  lv : ∃ m lv v, Lv (M + 1) L C m lv v wr
  cell : ∀ i, i ≤ T → wr.cell? ⟨M, i, none⟩ = some (.int .i64 (C i))
  fr : ∀ i, wr.frozen? ⟨M, i, none⟩ = false
  kp : Kp M L w1 wr
  bd : ∀ i, 0 ≤ C i ∧ C i ≤ (j : Int)
  at_ : At A r wr
  z : Sz wr

theorem kp_at {A : Nat} {r : Ar} {M L : Nat} {w w' : World} (h : At A r w) (hk : Kp M L w w') (hA : A < M) (hL : A ≠ L) : At A r w' := by
  have k : ∀ {o : Nat} {v : Value}, w.cell? ⟨A, o, none⟩ = some v → w'.cell? ⟨A, o, none⟩ = some v := fun h => (hk.cell (by exact hA) (by exact hL)).trans h
  exact ⟨k h.c0, k h.c1, k h.c2, k h.c3, k h.c4, k h.c5, k h.c6⟩
theorem kp_sz {M L : Nat} {w w' : World} (h : Sz w) (hk : Kp M L w w') (hM : 0 < M) (hL : 0 ≠ L) : Sz w' :=
  ⟨(hk.cell (by exact hM) (by exact hL)).trans h.1, (hk.cell (by exact hM) (by exact hL)).trans h.2⟩

theorem Iv.below {A : Nat} {r : Ar} {L M T : Nat} {w1 : World} {j : Nat} {C : Nat → Int} {wr w' : World} (h : Iv A r L M T w1 j C wr) (hb : Below wr.heap.size wr w') (hM : M < wr.heap.size) : Iv A r L M T w1 j C w' := by
  obtain ⟨m, lv, v, hl⟩ := h.lv
  refine ⟨⟨m, lv, v, hl.below hb⟩, fun i hi => keep hb (h.cell i hi), fun i => ?_, h.kp.trans (Kp.of_below hb (by omega)), h.bd, h.at_.below hb, h.z.below hb⟩
  rw [hb.frozen (by exact hM)]; exact h.fr i

/-- The law stores its own count, then Born counts. -/
theorem Iv.born {A : Nat} {r : Ar} {L M T : Nat} {w1 : World} {j : Nat} {C : Nat → Int} {wr w' : World} (h : Iv A r L M T w1 j C wr) (n : Nat) (hn : 1 ≤ n ∧ n ≤ T) (hA : A < M) (hAL : A ≠ L) (hLM : L < M) (h0M : 0 < M) (h0L : 0 ≠ L)
    (hlv : ∃ m' lv' v', Lv (M + 1) L (up C n) m' lv' v' w') (hk : Kp (M + 1) L (wr.setCell ⟨M, n, none⟩ (.int .i64 (C n + 1))) w') : Iv A r L M T w1 (j + 1) (up C n) w' := by
  have hk0 : Kp M L wr (wr.setCell ⟨M, n, none⟩ (.int .i64 (C n + 1))) := (Kp.refl _ _ _).set_hi (by exact Nat.le_refl _) _
  have hk1 : Kp M L wr w' := hk0.trans (hk.mono (by omega))
  refine ⟨hlv, fun i hi => ?_, fun i => ?_, h.kp.trans hk1, fun i => ?_, kp_at h.at_ hk1 hA hAL, kp_sz h.z hk1 h0M h0L⟩
  · rw [hk.cell (by simp) (by simp only; omega)]
    unfold up
    by_cases e : i = n
    · subst e; rw [if_pos rfl]; exact cset_same (h.cell i hi)
    · rw [if_neg e, cset_other (fun e2 => by have h := congrArg Addr.off e2; simp only at h; omega)]; exact h.cell i hi
  · rw [hk.frozen (by simp) (by simp only; omega), World.frozen?_setCell]; exact h.fr i
  · have := h.bd i
    unfold up
    split <;> omega
theorem Iv.set_lv {A : Nat} {r : Ar} {L M T : Nat} {w1 : World} {j : Nat} {C : Nat → Int} {wr : World} (h : Iv A r L M T w1 j C wr) (n : Nat) (hLM : L < M) (hA : A < M) (hAL : A ≠ L) (u : Value) :
    (∃ m lv v, Lv (M + 1) L C m lv v (wr.setCell ⟨M, n, none⟩ u)) ∧ At A r (wr.setCell ⟨M, n, none⟩ u) := by
  have hk0 : Kp M L wr (wr.setCell ⟨M, n, none⟩ u) := (Kp.refl _ _ _).set_hi (by exact Nat.le_refl _) _
  refine ⟨?_, kp_at h.at_ hk0 hA hAL⟩
  obtain ⟨m, lv, v, hl⟩ := h.lv
  refine ⟨m, lv, v, ⟨?_, ?_, ownsRow_setCell_below hl.own (by simp) _, hl.len, hl.m, hl.get, hl.lt, by simpa using hl.sz⟩⟩
  · rw [cset_other (fun e => by have h := congrArg Addr.block e; simp only at h; omega)]; exact hl.c
  · rw [World.frozen?_setCell]; exact hl.f
theorem Iv.step {A : Nat} {r : Ar} {L M T : Nat} {w1 : World} {j : Nat} {C : Nat → Int} {wr : World} (h : Iv A r L M T w1 j C wr) : Iv A r L M T w1 (j + 1) C wr :=
  ⟨h.lv, h.cell, h.fr, h.kp, fun i => by have := h.bd i; omega, h.at_, h.z⟩

theorem Iv.start {lo : Nat} {a b A L : Nat} {w1 : World} (hN : New lo 0 a b A L w1) (hz : Sz w1) : Iv A (ar 0 a b L) L w1.heap.size (a + b) w1 0 (fun _ => 0) (w1.alloc (.cells (madeCells #[.int .i64 0] (a + b + 1)) 3)) := by
  have hb : Below w1.heap.size w1 (w1.alloc (.cells (madeCells #[.int .i64 0] (a + b + 1)) 3)) := by go_grown
  have hL : L < w1.heap.size := World.block_lt_of_cell? _ _ hN.l
  refine ⟨⟨0, [], _, ⟨keep hb hN.l, ?_, World.ownsRow_nil _ _ _ _, rfl, by omega, fun i => by simp, by omega, by simp⟩⟩, fun i hi => ?_, fun i => ?_, Kp.of_below hb (Nat.le_refl _), fun i => by simp, (ar_eq hN).below hb, hz.below hb⟩
  · rw [hb.frozen (by exact hL)]; exact hN.f
  · rw [World.cell?_alloc_new]
    have := toList_madeCells_one (.int .i64 0) (a + b + 1)
    rw [← Array.getElem?_toList, this, List.getElem?_replicate, if_pos (by omega)]
  · simp [go_sem]

/-- Which slots there are. -/
theorem fnd_is (a b n : Nat) (h : 1 ≤ n ∧ n ≤ a + b) : ∃ c d, fnd (n : Int) (ar 0 a b 0).i0 (ar 0 a b 0).i1 (ar 0 a b 0).i2 = (c, d, true) := by
  rcases fnd_cases (n : Int) (ar 0 a b 0).i0 (ar 0 a b 0).i1 (ar 0 a b 0).i2 with ⟨x1, x2, x3⟩ | ⟨x1, x2, x3, x4⟩ | ⟨x1, x2, x3⟩
  · exact ⟨_, _, x3⟩
  · exact ⟨_, _, x4⟩
  · simp only [ar] at x1 x2; omega
theorem fnd_no (a b : Nat) (x : Int) (h : x < 1 ∨ (a : Int) + b < x) : ∃ c d, fnd x (ar 0 a b 0).i0 (ar 0 a b 0).i1 (ar 0 a b 0).i2 = (c, d, false) := by
  rcases fnd_cases x (ar 0 a b 0).i0 (ar 0 a b 0).i1 (ar 0 a b 0).i2 with ⟨x1, x2, x3⟩ | ⟨x1, x2, x3, x4⟩ | ⟨x1, x2, x3⟩
  · simp only [ar] at x1 x2; omega
  · simp only [ar] at x1 x2; omega
  · exact ⟨_, _, x3⟩

set_option maxHeartbeats 8000000 in
set_option maxRecDepth 100000 in
theorem law_lives (a b : Int) (ad : Option Addr) (len cap : Nat) (hlen : len ≤ 9223372036854775807) (zs : Nat → Int) (w : World) (hs : Sz w) (hin : InL ad len zs w) :
    Calls Tryd.prog 7 #[.int .i64 a, .int .i64 b, .slice ad len cap] w fun e w' => e = .returned (.bool true) ∧ Below w.heap.size w w' := by
  cases hf : fewB a b
  · have HF := Lib.hid hf
    clear hf
    go_enter Tryd.func7, Tryd.ntmps7
    go_wp2_with fail
    refine (few_any a b _).mono ?_
    rintro e w1 ⟨rfl, rfl⟩
    rw [HF.out]
    go_wp2_with fail
    refine (known_any _ hs).mono ?_
    rintro e wk ⟨rfl, hbk⟩
    go_wp2
    go_returns
    exact ⟨rfl, hbk⟩
  · obtain ⟨ha, hb⟩ := few_yes hf
    have HF := Lib.hid hf
    clear hf
    by_cases hl200 : 200 < len
    · have hl' : (200 : Int) < (len : Int) := by omega
      go_enter Tryd.func7, Tryd.ntmps7
      go_wp2_with fail
      refine (few_any a b _).mono ?_
      rintro e w1 ⟨rfl, rfl⟩
      rw [HF.out]
      go_wp2_with fail
      refine (known_any _ hs).mono ?_
      rintro e wk ⟨rfl, hbk⟩
      go_wp2
      go_returns
      exact ⟨rfl, hbk⟩
    · have hl' : (len : Int) ≤ 200 := by omega
      have hdl : decide ((200 : Int) < (len : Int)) = false := by simp; omega
      obtain ⟨a, rfl⟩ := Int.eq_ofNat_of_zero_le ha.1
      obtain ⟨b, rfl⟩ := Int.eq_ofNat_of_zero_le hb.1
      obtain ⟨i, hi, hz, h1, h8⟩ := info3p
      have hmk : ∀ w : World, (Instr.makeSlice 45 (.int .i64 ((a : Int) + (b : Int) + 1)) (.int .i64 ((a : Int) + (b : Int) + 1))).run Tryd.prog w = .ok (.slice (some ⟨w.heap.size, 0, none⟩) (a + b + 1) (a + b + 1)) (w.alloc (.cells (madeCells #[.int .i64 0] (a + b + 1)) 3)) := fun w => by
        have := run_makeSlice w 45 3 i (.int .i64 0) Tryd.underlying45 hi hz .i64 .i64 ((a : Int) + (b : Int) + 1) ((a : Int) + (b : Int) + 1) (by omega) (Int.le_refl _) (by rw [h1]; omega) (by rw [h8]; omega) (by omega)
        rw [this, h1, show ((a : Int) + (b : Int) + 1).toNat = a + b + 1 by omega, Nat.mul_one]
        rfl
      clear hi hz h1 h8
      go_enter Tryd.func7, Tryd.ntmps7
      go_wp2_with fail
      refine (few_any a b _).mono ?_
      rintro e w1 ⟨rfl, rfl⟩
      rw [HF.out]
      go_wp2_with fail
      refine (begin_any 1000 0 a b (by omega) (by omega) (by omega) (by omega) (by omega) _ hs).mono ?_
      rintro e w1 ⟨A, L, rfl, hN, hb1⟩
      have HN := Lib.hid hN
      have HB1 := Lib.hid hb1
      have HSM := Lib.hid (ar_sm (L := L) (base := 0) (by omega) (show a ≤ 40 by omega) (show b ≤ 40 by omega))
      clear hN hb1
      go_wp2_with fail
      have hI0 := Iv.start HN.out (hs.below HB1.out)
      have hLM : L < w1.heap.size := World.block_lt_of_cell? _ _ HN.out.l
      have hAM : A < w1.heap.size := World.block_lt_of_cell? _ _ HN.out.at_.c0
      have hAL := HN.out.ne
      have hwL := HN.out.lo
      have hwM := HB1.out.size
      have h0w : 0 < w.heap.size := World.block_lt_of_cell? _ _ hs.1
      have HI0 := Lib.hid hI0
      clear hI0 hmk
      generalize hMM : w1.heap.size = M at HI0 hLM hAM hwM ⊢
      generalize w1.alloc (.cells (madeCells #[.int .i64 0] (a + b + 1)) 3) = w2 at HI0 ⊢
      have HMM := Lib.hid hMM
      have HIN := Lib.hid hin
      clear hMM hin
      go_loopw [10] (fun iv wr => ∃ (j : Nat) (C : Nat → Int), j ≤ len ∧ iv = .int .i64 (j : Int) ∧ Hid (Iv A (ar 0 a b L) L M (a + b) w1 j C wr)) (fun iv _ => len - (intOf iv).toNat)
      case atStart => exact ⟨0, _, Nat.zero_le _, rfl, HI0⟩
      case round =>
        obtain ⟨j, C, hj, rfl, HI⟩ := hrel
        by_cases hjl : j < len
        · obtain ⟨bb, off, rfl, hcl0⟩ := HIN.out j hjl
          have hbw : bb < w.heap.size := World.block_lt_of_cell? _ _ hcl0
          have hcl1 : w1.cell? ⟨bb, off + j, none⟩ = some (.int .i64 (zs j)) := keep HB1.out hcl0
          have hcl : wr.cell? ⟨bb, off + j, none⟩ = some (.int .i64 (zs j)) := (HI.out.kp.cell (by simp only; omega) (by simp only; omega)).trans hcl1
          generalize zs j = x at hcl hcl1 hcl0
          have hMr : M < wr.heap.size := by obtain ⟨_, _, _, hl⟩ := HI.out.lv; have := hl.sz; omega
          by_cases hx : 1 ≤ x ∧ x ≤ (a : Int) + b
          · obtain ⟨n, rfl⟩ := Int.eq_ofNat_of_zero_le (show 0 ≤ x by omega)
            have cM := HI.out.cell n (by omega)
            have fM := HI.out.fr n
            have hbd := HI.out.bd n
            have hxx : (1 : Int) ≤ (n : Int) := hx.1
            have hxy : (n : Int) ≤ (a : Int) + (b : Int) := hx.2
            clear hcl0 hcl1
            go_wp2_with fail
            obtain ⟨⟨m, lv, v, hlv⟩, hat⟩ := HI.out.set_lv n hLM hAM hAL (.int .i64 (C n + 1))
            obtain ⟨fc, fd, hfn⟩ := fnd_is a b n (by omega)
            have HFN := Lib.hid hfn
            clear hfn cM fM
            refine (born_any A (ar 0 a b L) HSM.out n (by omega) (M + 1) L rfl (by omega) hAL C (by omega) m lv v _ hat hlv HFN.out).mono ?_
            rintro e w4 ⟨rfl, hlv4, hk4⟩
            have hI4 := HI.out.born n (by omega) hAM hAL hLM (by omega) (by omega) hlv4 hk4
            have hcl4 : w4.cell? ⟨bb, off + j, none⟩ = some (.int .i64 (n : Int)) := by
              rw [hk4.cell (by simp only; omega) (by simp only; omega), cset_other (fun e => by have h := congrArg Addr.block e; simp only at h; omega)]; exact hcl
            have hup : up C n n = C n + 1 := by simp [up]
            have HUP := Lib.hid hup
            have HI4 := Lib.hid hI4
            clear hlv hat hlv4 hk4 hI4 hcl hup
            go_wp2_with fail
            obtain ⟨m4, lv4, v4, hlv4⟩ := HI4.out.lv
            refine (life_any A (ar 0 a b L) HSM.out n (by omega) (M + 1) L rfl (up C n) m4 lv4 v4 _ HI4.out.at_ hlv4 HFN.out).mono ?_
            rintro e w5 ⟨rfl, hb5⟩
            have HI5 := Lib.hid (HI4.out.below hb5 (by have := hlv4.sz; omega))
            clear hb5 hlv4
            rw [HUP.out]
            go_wp2_with fail
            refine ⟨?_, ?_⟩
            · first
                | exact ⟨j + 1, _, by omega, by simp, HI5⟩
                | ((repeat apply Exists.intro); refine ⟨?_, rfl⟩; exact ⟨j + 1, _, by omega, by simp, HI5⟩)
            · simp [intOf]; omega
          · obtain ⟨fc, fd, hfn⟩ := fnd_no a b x (by omega)
            have HFN := Lib.hid hfn
            clear hfn hcl0 hcl1
            have hx2 : x < 1 ∨ ((1 ≤ x) ∧ (a : Int) + b < x) := by omega
            clear hx
            rcases hx2 with hx | ⟨hx0, hx⟩
            all_goals
              go_wp2_with fail
              refine (born_no A (ar 0 a b L) HSM.out x _ HI.out.at_ HFN.out).mono ?_
              rintro e w4 ⟨rfl, hb4⟩
              have HI4 := Lib.hid (HI.out.below hb4 hMr)
              have hcl4 := keep hb4 hcl
              have hM4 : M < w4.heap.size := Nat.lt_of_lt_of_le hMr hb4.size
              clear hb4
              go_wp2_with fail
              refine (life_no A (ar 0 a b L) HSM.out x _ HI4.out.at_ HFN.out).mono ?_
              rintro e w5 ⟨rfl, hb5⟩
              have HI5 := Lib.hid ((HI4.out.below hb5 hM4).step)
              clear hb5
              go_wp2_with fail
              refine ⟨?_, ?_⟩
              · first
                  | exact ⟨j + 1, _, by omega, by simp, HI5⟩
                  | ((repeat apply Exists.intro); refine ⟨?_, rfl⟩; exact ⟨j + 1, _, by omega, by simp, HI5⟩)
              · simp [intOf]; omega
        · have hje : (j : Int) = len := by omega
          have hjd : decide ((j : Int) < (len : Int)) = false := by simp; omega
          go_wp2_with fail
          clear hje hjd hjl hj
          go_loopw [12] (fun iv wr => ∃ q : Nat, q ≤ a + b ∧ iv = .int .i64 ((q : Int) + 1) ∧ Hid (Iv A (ar 0 a b L) L M (a + b) w1 j C wr)) (fun iv _ => a + b + 1 - (intOf iv).toNat)
          case atStart => exact ⟨0, Nat.zero_le _, rfl, HI⟩
          case round =>
            obtain ⟨q, hq, rfl, HJ⟩ := hrel
            by_cases hqt : q < a + b
            · have hqi : (q : Int) + 1 ≤ (a : Int) + (b : Int) := by omega
              obtain ⟨fc, fd, hfn⟩ := fnd_is a b (q + 1) (by omega)
              have HFN := Lib.hid hfn
              obtain ⟨m4, lv4, v4, hlv4⟩ := HJ.out.lv
              have hMr : M < wr.heap.size := by have := hlv4.sz; omega
              have HLV := Lib.hid hlv4
              clear hfn hlv4
              go_wp2_with fail
              have hqn : ((q : Int) + 1).toNat = q + 1 := by omega
              have hcM : ∀ {w' : World}, Below wr.heap.size wr w' → w'.cell? ⟨M, q + 1, none⟩ = some (.int .i64 (C (q + 1))) := fun hb => keep hb (HJ.out.cell (q + 1) (by omega))
              have hdr : Below wr.heap.size wr wr.drew := (Below.refl _ _).drew
              have hq0 : (0 : Int) ≤ (q : Int) + 1 := by omega
              have hq1 : (q : Int) + 1 < (a : Int) + (b : Int) + 1 := by omega
              have hq2 : ¬ ((q : Int) + 1 < 0) := by omega
              go_region_held3 (fun w' => w'.cell? ⟨M, q + 1, none⟩ = some (.int .i64 (C (q + 1)))) (exact hcM (by go_grown))
                (first
                  | (go_at_call 24; refine (life_any A (ar 0 a b L) HSM.out (q + 1) (by omega) (M + 1) L rfl C m4 lv4 v4 _ (HJ.out.at_.below hdr) (HLV.out.below hdr) HFN.out).mono ?_
                     rintro e w5 ⟨rfl, hb5⟩
                     have hb5' : Below wr.heap.size wr w5 := hdr.trans hb5
                     clear hb5))
              all_goals
                have HJ5 := Lib.hid (HJ.out.below hb5' hMr)
                clear hb5'
                go_wp2_with fail
                refine ⟨?_, ?_⟩
                · first
                    | exact ⟨q + 1, by omega, by simp, HJ5⟩
                    | ((repeat apply Exists.intro); refine ⟨?_, rfl⟩; exact ⟨q + 1, by omega, by simp, HJ5⟩)
                · simp [intOf]; omega
            · have hqi : (a : Int) + (b : Int) < (q : Int) + 1 := by omega
              have hqd : decide ((q : Int) + 1 ≤ (a : Int) + (b : Int)) = false := by simp; omega
              go_wp2_with fail
              refine (known_any _ HJ.out.z).mono ?_
              rintro e wk ⟨rfl, hbk⟩
              have hbj : Below w.heap.size w wr := HJ.out.kp.below HB1.out hwL (by omega)
              have HBK := Lib.hid (hbj.trans (hbk.mono hbj.size))
              clear hbk hbj
              go_wp2
              go_returns
              exact ⟨rfl, HBK.out⟩

end Go.Proofs.YtmolccpihmbniaaDoor
