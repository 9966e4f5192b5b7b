/- The law SmrLists: the walk, where something is put. -/
import Derived.Test.YtebnjfpffdlbbaaB6a
import Derived.Test.YtebnjfpffdlbbaaW2
import Derived.Deep.CutRange
import Derived.BigQuiet
namespace Go.Proofs.Ytebnjfpffdlbbaa
open Go.RowKit
set_option linter.unusedVariables false
set_option linter.unusedSimpArgs false

theorem OldsIn.below {ad : Option Addr} {n : Nat} {gf : Nat → O} {w w' : World} (h : OldsIn ad n gf w) (hb : Below w.heap.size w w') : OldsIn ad n gf w' := fun i hi => by
  obtain ⟨b, off, e, hc⟩ := h i hi
  have hl : b < w.heap.size := World.block_lt_of_cell? _ _ ((hc 0 (by decide)).trans (show (ent (gf i))[0]? = some (.int .u64 (gf i).1) from rfl))
  exact ⟨b, off, e, fun j hj => (hb.cell (p := ⟨b, off + i * 3 + j, none⟩) hl).trans (hc j hj)⟩

theorem Ps.grown {W L : Nat} {id : Int} {gs : Nat → O} {base k : Nat} {sa : Option Addr} {sc : Nat} {ra : Option Addr} {rc : Nat} {xs ys : List Value} {Es : Nat → Nat} {w w0 w' : World} (h : Ps W L id gs base k sa sc ra rc xs ys Es w0 w') (hb : Below w.heap.size w w0) (hs : w.heap.size ≤ base) (hW : w.heap.size ≤ W) (hL : w.heap.size ≤ L) : Below w.heap.size w w' :=
  ⟨h.os.trans hb.os, h.tape.trans hb.tape, h.output.trans hb.output, Nat.le_trans hb.size h.hsz, fun j hj => (h.block j (by omega) (by omega) (by omega)).trans (hb.block j hj)⟩

/-- What each operation of the law's last statement comes to where the list is empty. -/
def V0 (ad : Option Addr) (cap : Nat) : Nat → Value → World → Prop
  | 0, v, _ => v = .slice ad 0 cap
  | 1, v, _ => v = .int .i64 0
  | 2, v, _ => v = .bool true
  | 3, v, _ => v = .bool true
  | 4, _, _ => True
  | 5, _, _ => True
  | 6, _, _ => True
  | 7, _, _ => True
  | 8, _, _ => True
  | 9, _, _ => True
  | 10, _, _ => True
  | 11, _, _ => True
  | 12, _, _ => True
  | _, v, _ => v = .bool true
theorem V0_below {ad : Option Addr} {cap : Nat} (i : Nat) (v : Value) (w w' : World) (h : V0 ad cap i v w) (hb : Below w.heap.size w w') : V0 ad cap i v w' := by
  unfold V0 at h ⊢
  split at h <;> first | exact h | simp_all
/-- .. and where it is not. -/
def V1 (b off q cap B T : Nat) (h bi s : Int) : Nat → Value → World → Prop
  | 0, v, _ => v = .slice (some ⟨b, off, none⟩) q cap
  | 1, v, _ => v = .int .i64 q
  | 2, v, _ => v = .bool false
  | 3, v, _ => v = .bool false
  | 4, v, _ => v = .pointer (some ⟨B, 0, none⟩)
  | 5, v, _ => v = .int .i64 T
  | 6, v, w => ∃ g cg, v = .slice (some ⟨g, 0, none⟩) q cg ∧ w.cell? ⟨g, 0, none⟩ = some (.int .u64 h) ∧ w.cell? ⟨g, 1, none⟩ = some (.int .u64 bi) ∧ w.cell? ⟨g, 2, none⟩ = some (.int .u64 s)
  | 7, v, w => ∃ g, v = .pointer (some ⟨g, 0, none⟩) ∧ w.cell? ⟨g, 0, none⟩ = some (.int .u64 h) ∧ w.cell? ⟨g, 1, none⟩ = some (.int .u64 bi) ∧ w.cell? ⟨g, 2, none⟩ = some (.int .u64 s)
  | 8, v, _ => v = .agg #[.int .u64 h, .int .u64 bi, .int .u64 s]
  | 9, v, _ => v = .slice (some ⟨b, off, none⟩) q cap
  | 10, v, _ => v = .pointer (some ⟨b, off, none⟩)
  | 11, v, _ => v = .agg #[.int .u64 h, .int .u64 bi, .int .u64 s]
  | _, v, _ => v = .bool true
theorem V1_below {b off q cap B T : Nat} {hh bi s : Int} (i : Nat) (v : Value) (w w' : World) (h : V1 b off q cap B T hh bi s i v w) (hb : Below w.heap.size w w') : V1 b off q cap B T hh bi s i v w' := by
  unfold V1 at h ⊢
  split at h
  · exact h
  · exact h
  · exact h
  · exact h
  · exact h
  · exact h
  · obtain ⟨g, cg, h1, h2, h3, h4⟩ := h
    exact ⟨g, cg, h1, keep hb h2, keep hb h3, keep hb h4⟩
  · obtain ⟨g, h1, h2, h3, h4⟩ := h
    exact ⟨g, h1, keep hb h2, keep hb h3, keep hb h4⟩
  · exact h
  · exact h
  · exact h
  · exact h
  · first | exact h | (split <;> first | exact h | simp_all)

theorem wrap_idx (h : Int) (h0 : 0 ≤ h) : IntKind.i64.wrap (h.tmod 4194304) = h % 4194304 := by
  rw [Int.tmod_eq_emod_of_nonneg h0]
  rw [IntKind.wrap_i64]
  omega

set_option maxRecDepth 100000 in
set_option maxHeartbeats 8000000 in
theorem lists_main (T : Nat) (hT : 1 ≤ T ∧ T ≤ 16) (ad : Option Addr) (n cap : Nat) (hn : n ≤ 60) (gf : Nat → O) (hok : OksIn n gf) (w : World) (hin : OldsIn ad n gf w) :
    Calls Try.prog 6 #[.int .i64 T, .slice ad n cap] w fun e w' => e = .returned (.bool true) ∧ Below w.heap.size w w' := by
  have h1 : decide ((T : Int) < 1) = false := by simp; omega
  have h2 : decide (16 < (T : Int)) = false := by simp; omega
  have h3 : decide (60 < (n : Int)) = false := by simp; omega
  have HT := Lib.hid hT
  have HN := Lib.hid hn
  have HOK := Lib.hid hok
  have HIN := Lib.hid hin
  clear hT hn hok hin
  go_enter Try.func6, Try.ntmps6
  go_wp2_with fail
  refine (vNew_l 8 T (by decide) HT.out _).mono ?_
  rintro e w1 ⟨W, v, ys, Ts, wi, rfl, m1, hW, hbi, -, -, c3⟩
  obtain ⟨gw, cw, rfl, -, -⟩ := m1.rg.form (by omega)
  have HB1 := Lib.hid (show Below w.heap.size w w1 from m1.grown hbi (by omega))
  have M1 := Lib.hid m1
  have C3 := Lib.hid c3
  have HW := Lib.hid hW
  clear m1 c3 hbi hW
  go_wp2_with fail
  refine (sNew_l T HT.out (some ⟨W, 0, none⟩) 0 _).mono ?_
  rintro e w2 ⟨B, v, ys2, Ls, w02, rfl, m2, hb2, hB, hq⟩
  obtain ⟨gr, cr, rfl, hBg, hBs⟩ := bs_of HT.out m2 hq
  have ST := Lib.hid (start_all HT.out M1.out C3.out m2 hb2 hB hBs)
  have HB2 := Lib.hid (show Below w1.heap.size w1 w2 from m2.grown hb2 hB)
  have HLs := Lib.hid (show w1.heap.size ≤ Ls T from by have := (m2.th T (by omega)).2.1; omega)
  have M2 := Lib.hid (show w2.cell? ⟨W, 1, none⟩ = some (.slice (some ⟨gw, 0, none⟩) (T + 1) cw) from ST.out.c1)
  have MR := Lib.hid (show w2.ownsRow (W + 1) 48 1 (.slice (some ⟨gw, 0, none⟩) (T + 1) cw) (T + 1) ys from own_below M1.out.rg HB2.out)
  clear m2 hb2 hB hq hBg hBs
  go_wp2_with fail
  refine (setup_l M2.out HT.out.2 MR.out (M1.out.get T (by omega))).mono ?_
  rintro e w3 ⟨rfl, js, hj⟩
  have hb3 : Below w2.heap.size w2 w3 := by rw [hj]; exact below_drewN (Below.refl _ _) _
  have hWs : w.heap.size ≤ W := by have := HW.out; omega
  have hLs : w.heap.size ≤ Ls T := Nat.le_trans HB1.out.size HLs.out
  have HB := Lib.hid (show Below w.heap.size w w2 from below_then HB1.out HB2.out)
  have HPS := Lib.hid (fun Es => (ST.out.ps gf Es).below hb3)
  have HBS := Lib.hid ST.out.bs
  have HBS3 := Lib.hid (ST.out.bs.below hb3)
  have HTH := Lib.hid ST.out.thr
  have HX := Lib.hid ST.out.lt
  have HY := Lib.hid (And.intro ST.out.nW ST.out.nL)
  have HC1 := Lib.hid (show w2.cell? ⟨W, 1, none⟩ = some (.slice (some ⟨gw, 0, none⟩) (T + 1) cw) from ST.out.c1)
  have HL0 := Lib.hid (show w2.cell? ⟨Ls 0, 0, none⟩ = some (.slice none 0 0) from ST.out.l0)
  have HS := Lib.hid (show w.heap.size ≤ w2.heap.size ∧ w.heap.size ≤ W ∧ w.heap.size ≤ Ls T from ⟨(below_then HB1.out HB2.out).size, hWs, hLs⟩)
  clear hj hb3 hWs hLs M1 C3 HW HB1 HB2 HLs M2 MR ST
  have hneq := fun w => neq_same44 W w
  go_wp2_with fail
  refine HBS3.out.world.mono ?_
  rintro e w4 ⟨rfl, rfl⟩
  go_wp2_with fail
  clear HBS3 hneq
  go_loopw [9] (fun v9 wr => ∃ (k : Nat) (sa : Option Addr) (sc : Nat) (ra : Option Addr) (rc : Nat) (xs zs : List Value) (Es : Nat → Nat), k ≤ n ∧ v9 = .int .i64 (k : Int) ∧ Hid (Ps W (Ls T) T gf w2.heap.size k sa sc ra rc xs zs Es w2 wr)) (fun v9 _ => n - (intOf v9).toNat)
  case atStart => exact ⟨0, _, _, _, _, _, _, fun _ => 0, Nat.zero_le _, rfl, Lib.hid (HPS.out _)⟩
  case round =>
    rename World => wl
    obtain ⟨k, sa, sc, ra, rc, xs, zs, Es, hk, rfl, HP⟩ := hrel
    have hn60 := HN.out
    by_cases hlt : k < n
    · have hlt' : (k : Int) < (n : Int) := by omega
      have hbw : Below w.heap.size w wl := HP.out.grown HB.out HS.out.1 HS.out.2.1 HS.out.2.2
      obtain ⟨b, off, rfl, hc⟩ := (HIN.out.below hbw) k hlt
      obtain ⟨⟨h, bi, s⟩, hg⟩ : ∃ o, gf k = o := ⟨_, rfl⟩
      have hO := (HOK.out k hlt).1
      rw [hg] at hc hO
      have c0 : wl.cell? ⟨b, off + k * 3, none⟩ = some (.int .u64 h) := hc 0 (by decide)
      have c1 : wl.cell? ⟨b, off + k * 3 + 1, none⟩ = some (.int .u64 bi) := hc 1 (by decide)
      have c2 : wl.cell? ⟨b, off + k * 3 + 2, none⟩ = some (.int .u64 s) := hc 2 (by decide)
      have HPUT := Lib.hid (put_l HP.out (HP.out.bs HBS.out ⟨HX.out.1, HY.out.1.1, HY.out.2.1⟩ ⟨HX.out.2.1, HY.out.1.2.1, HY.out.2.2.1⟩) (HP.out.thr HTH.out ⟨HX.out.2.2.1, HY.out.1.2.2.1, HY.out.2.2.2.1⟩) (show k ≤ 100 by omega) h bi s hg hO)
      clear hc hO hg hbw
      go_wp2_with fail
      refine HPUT.out.mono ?_
      rintro e w4 ⟨rfl, sa', sc', ra', rc', xs', zs', Es', hp'⟩
      have HP' := Lib.hid hp'
      clear hp'
      go_wp2
      exact ⟨⟨k + 1, _, _, _, _, _, _, _, by omega, by go_num, HP'⟩, by simp [intOf]; omega⟩
    · obtain rfl : k = n := by omega
      have hnlt : ¬ ((k : Int) < (k : Int)) := by omega
      have HOLD := Lib.hid (old_l HP.out (HP.out.bs HBS.out ⟨HX.out.1, HY.out.1.1, HY.out.2.1⟩ ⟨HX.out.2.1, HY.out.1.2.1, HY.out.2.2.1⟩) (show k ≤ 100 by omega))
      go_wp2_with fail
      refine HOLD.out.mono ?_
      rintro e w4 ⟨oa, oc, os', rfl, ho4, hz4, hb4⟩
      have HEV := Lib.hid (events_ps (HP.out.below hb4) (keep hb4 ((HP.out.othW 1 (by decide)).trans HC1.out)) (by omega) (by omega))
      have HO4 := Lib.hid (And.intro ho4 hz4)
      have HB4 := Lib.hid hb4
      clear ho4 hz4 hb4
      go_wp2_with fail
      refine HEV.out.mono ?_
      rintro e w5 ⟨ea, ec, rfl, he5, hb5⟩
      obtain ⟨og, eg, hg0, hg2⟩ := g2_start HP.out HO4.out.1 HO4.out.2 HB4.out he5 hb5
      have HB5 := Lib.hid (show Below wl.heap.size wl w5 from below_then HB4.out hb5)
      have HG0 := Lib.hid hg0
      have HG2 := Lib.hid hg2
      have HP5 := Lib.hid (HP.out.below HB5.out)
      have HBS5 := Lib.hid (HP5.out.bs HBS.out ⟨HX.out.1, HY.out.1.1, HY.out.2.1⟩ ⟨HX.out.2.1, HY.out.1.2.1, HY.out.2.2.1⟩)
      have R1 := Lib.hid (fun wq (hq : Below w5.heap.size w5 wq) => retired_at (c := cr) T (show T < T + 1 by omega) (by have := HT.out; omega) wq (keep hq HBS5.out.c12) (keep hq (HBS5.out.rows T (by omega))) (keep hq HP5.out.l0))
      have R2 := Lib.hid (fun wq (hq : Below w5.heap.size w5 wq) => retired_at (c := cr) 0 (show 0 < T + 1 by omega) (by have := HT.out; omega) wq (keep hq HBS5.out.c12) (keep hq (HBS5.out.rows 0 (by omega))) (keep hq (HP5.out.cell0 HX.out.2.2.2 HY.out.1.2.2.2 HY.out.2.2.2.2 HL0.out)))
      have R3 := Lib.hid (fun wq (hq : Below w5.heap.size w5 wq) => retired_out (-1) (Or.inl (by decide)) wq (keep hq HBS5.out.c12) (by simp; omega))
      have R4 := Lib.hid (fun wq (hq : Below w5.heap.size w5 wq) => retired_out ((T : Int) + 1) (Or.inr (by omega)) wq (keep hq HBS5.out.c12) (by simp; omega))
      clear hb5 he5 hg0 hg2 HEV HOLD
      have hT16 : (T : Int) ≤ 16 := by have := HT.out; omega
      go_wp2_with fail
      refine (R1.out _ (Below.refl _ _)).mono ?_
      rintro e w6 ⟨rfl, rfl⟩
      go_wp2_with fail
      refine (R2.out _ (Below.refl _ _)).mono ?_
      rintro e w6 ⟨rfl, rfl⟩
      go_wp2_with fail
      refine (R3.out _ (Below.refl _ _)).mono ?_
      rintro e w6 ⟨rfl, rfl⟩
      go_wp2_with fail
      refine (R4.out _ (Below.refl _ _)).mono ?_
      rintro e w6 ⟨rfl, rfl⟩
      clear R1 R2 R3 R4
      go_wp2_with fail
      have HBW := Lib.hid (show Below w.heap.size w wl from HP.out.grown HB.out HS.out.1 HS.out.2.1 HS.out.2.2)
      go_loopw [12, 13] (fun v12 _ wr => ∃ (q : Nat), q ≤ k ∧ v12 = .int .i64 (q : Int) ∧ Hid (G2 og eg (T : Int) gf k q wl wr)) (fun v12 _ _ => k - (intOf v12).toNat)
      case atStart => exact ⟨0, Nat.zero_le _, rfl, HG2⟩
      case round =>
        obtain ⟨q, hq, rfl, HQ⟩ := hrel
        by_cases hlt2 : q < k
        · have hlt2' : (q : Int) < (k : Int) := by omega
          obtain ⟨rfl, rfl⟩ := HG0.out (by omega)
          have hbw : Below w.heap.size w wr := below_then HBW.out HQ.out.bel
          obtain ⟨b, off, rfl, hc⟩ := (HIN.out.below hbw) q hlt2
          have hge := HQ.out.got q (Nat.le_refl _) hlt2
          have hev := HQ.out.evs q hlt2
          have hfz := HQ.out.fz hlt2
          obtain ⟨⟨h, bi, s⟩, hg⟩ : ∃ o, gf q = o := ⟨_, rfl⟩
          have HOO := Lib.hid (HOK.out q hlt2)
          rw [hg] at hc HOO hge hev
          have c0 : wr.cell? ⟨b, off + q * 3, none⟩ = some (.int .u64 h) := hc 0 (by decide)
          have c1 : wr.cell? ⟨b, off + q * 3 + 1, none⟩ = some (.int .u64 bi) := hc 1 (by decide)
          have c2 : wr.cell? ⟨b, off + q * 3 + 2, none⟩ = some (.int .u64 s) := hc 2 (by decide)
          have g0 : wr.cell? ⟨og, q * 3, none⟩ = some (.int .u64 h) := hge 0 (by decide)
          have g1 : wr.cell? ⟨og, q * 3 + 1, none⟩ = some (.int .u64 bi) := hge 1 (by decide)
          have g2 : wr.cell? ⟨og, q * 3 + 2, none⟩ = some (.int .u64 s) := hge 2 (by decide)
          have e1 : wr.cell? ⟨eg, q * 16 + 1, none⟩ = some (.int .i64 T) := hev 1 (by decide)
          have e3 : wr.cell? ⟨eg, q * 16 + 3, none⟩ = some (.int .i64 5) := hev 3 (by decide)
          have n0 : wr.cell? ⟨eg, q * 16 + 8, none⟩ = some (.int .i64 8) := hev 8 (by decide)
          have n1 : wr.cell? ⟨eg, q * 16 + 9, none⟩ = some (.int .i64 (h % 4194304)) := hev 9 (by decide)
          have n2 : wr.cell? ⟨eg, q * 16 + 10, none⟩ = some (.int .i64 0) := hev 10 (by decide)
          have n3 : wr.cell? ⟨eg, q * 16 + 11, none⟩ = some (.int .i64 0) := hev 11 (by decide)
          have n4 : wr.cell? ⟨eg, q * 16 + 12, none⟩ = some (.int .i64 0) := hev 12 (by decide)
          have n5 : wr.cell? ⟨eg, q * 16 + 13, none⟩ = some (.int .i64 0) := hev 13 (by decide)
          have n6 : wr.cell? ⟨eg, q * 16 + 14, none⟩ = some (.int .u64 s) := hev 14 (by decide)
          have n7 : wr.cell? ⟨eg, q * 16 + 15, none⟩ = some (.int .i64 0) := hev 15 (by decide)
          have f2 := hfz (q * 3 + 2)
          have lb : b < wr.heap.size := World.block_lt_of_cell? _ _ c0
          have lo : og < wr.heap.size := World.block_lt_of_cell? _ _ g0
          have le : eg < wr.heap.size := World.block_lt_of_cell? _ _ e1
          clear hc hge hev hfz hg hbw
          go_wp2_with fail
          have hm : IntKind.i64.wrap (h.tmod 4194304) = h % 4194304 := wrap_idx h HOO.out.1.1
          go_cut [13] from 115 to 127 (fun v13 wc => v13 = .pointer (some ⟨wr.heap.size, 0, none⟩) ∧ wc.heap[wr.heap.size]? = some (.cells #[.int .i64 8, .int .i64 (h % 4194304), .int .i64 0, .int .i64 0, .int .i64 0, .int .i64 0, .int .u64 s, .int .i64 0] 57 (0, 0)) ∧ Below wr.heap.size wr wc)
          case first =>
            go_region_law (fail)
            all_goals
              go_wp2_with fail
              go_meet
              exact ⟨rfl, by rw [← hm]; exact al_heap_new _ _, by go_grown⟩
          case rest =>
            obtain ⟨rfl, hbox, hB⟩ := hcut
            have b0 : wc.cell? ⟨wr.heap.size, 0, none⟩ = some (.int .i64 8) := row_cell hbox 0
            have b1 : wc.cell? ⟨wr.heap.size, 1, none⟩ = some (.int .i64 (h % 4194304)) := row_cell hbox 1
            have b2 : wc.cell? ⟨wr.heap.size, 2, none⟩ = some (.int .i64 0) := row_cell hbox 2
            have b3 : wc.cell? ⟨wr.heap.size, 3, none⟩ = some (.int .i64 0) := row_cell hbox 3
            have b4 : wc.cell? ⟨wr.heap.size, 4, none⟩ = some (.int .i64 0) := row_cell hbox 4
            have b5 : wc.cell? ⟨wr.heap.size, 5, none⟩ = some (.int .i64 0) := row_cell hbox 5
            have b6 : wc.cell? ⟨wr.heap.size, 6, none⟩ = some (.int .u64 s) := row_cell hbox 6
            have b7 : wc.cell? ⟨wr.heap.size, 7, none⟩ = some (.int .i64 0) := row_cell hbox 7
            have HQC := Lib.hid (HQ.out.below hB)
            have HBC := Lib.hid hB
            have q0 := keep hB c0
            have q1 := keep hB c1
            have q2 := keep hB c2
            have r0 := keep hB g0
            have r1 := keep hB g1
            have r2 := keep hB g2
            have s1 := keep hB e1
            have s3 := keep hB e3
            have t0 := keep hB n0
            have t1 := keep hB n1
            have t2 := keep hB n2
            have t3 := keep hB n3
            have t4 := keep hB n4
            have t5 := keep hB n5
            have t6 := keep hB n6
            have t7 := keep hB n7
            have f3 : wc.frozen? ⟨og, q * 3 + 2, none⟩ = false := HQC.out.fz hlt2 _
            clear hbox hB c0 c1 c2 g0 g1 g2 e1 e3 n0 n1 n2 n3 n4 n5 n6 n7 f2 HQ
            go_wp2_with fail
            go_quiet (fail)
            go_wp2_with fail
            exact ⟨⟨q + 1, by omega, by go_num, Lib.hid ((HQC.out.below (below_drewN (Below.refl _ _) nq)).step hlt2 _)⟩, by simp [intOf]; omega⟩
        · obtain rfl : q = k := by omega
          have hnlt2 : ¬ ((q : Int) < (q : Int)) := by omega
          have HPE := Lib.hid (HP.out.below HQ.out.bel)
          have HOLD2 := Lib.hid (fun wq (hq : Below wr.heap.size wr wq) => old_l (HPE.out.below hq) ((HPE.out.below hq).bs HBS.out ⟨HX.out.1, HY.out.1.1, HY.out.2.1⟩ ⟨HX.out.2.1, HY.out.1.2.1, HY.out.2.2.1⟩) (show q ≤ 100 by omega))
          have hbw : Below w.heap.size w wr := below_then HBW.out HQ.out.bel
          rcases Nat.eq_zero_or_pos q with h0 | h0
          · subst h0
            go_wp2_with fail
            refine wp_region_grow (by kernel_rfl) (fun x => ⟨#[Value.int IntKind.i64 ↑T, Value.slice ad 0 cap, undef, undef, x 17, Value.pointer (some { block := W, off := 0 }), Value.int IntKind.i64 0, Value.pointer (some { block := B, off := 0 }), Value.pointer (some { block := Ts T, off := 0 }), Value.int IntKind.i64 0, Value.slice oa 0 oc, Value.slice ea 0 ec, Value.int IntKind.i64 0, u13, Value.int IntKind.i64 ↑T, Value.bool false, Value.bool false, Value.int IntKind.i64 ↑T, Value.bool false, Value.bool false, Value.bool false, Value.slice ad 0 cap, Value.int IntKind.i64 0, Value.bool false, Value.bool false, undef, Value.tuple #[Value.pointer (some { block := W, off := 0 }), Value.int IntKind.i64 0], Value.int IntKind.i64 ↑T, Value.tuple #[Value.pointer (some { block := W, off := 0 }), Value.int IntKind.i64 0], Value.pointer (some { block := W, off := 0 }), Value.int IntKind.i64 0, Value.int IntKind.i64 0, Value.bool false, Value.bool false, Value.pointer (some { block := W, off := 0 }), Value.bool false, Value.bool false, Value.int IntKind.i64 ↑T, Value.agg #[Value.int IntKind.i64 ↑T, Value.int IntKind.i64 0, Value.int IntKind.i64 0, Value.int IntKind.i64 0, Value.int IntKind.i64 0, Value.int IntKind.i64 0, Value.int IntKind.u64 0], Value.pointer (some { block := W, off := 0 }), Value.pointer (some { block := B, off := 0 }), Value.pointer (some { block := W, off := 0 }), Value.pointer (some { block := Ts T, off := 0 }), Value.pointer (some { block := B, off := 0 }), Value.bool false, Value.bool false, Value.pointer (some { block := Ts T, off := 0 }), Value.bool false, Value.bool false, Value.bool false, Value.pointer (some { block := B, off := 0 }), Value.pointer (some { block := W, off := 0 }), Value.pointer (some { block := W, off := 0 }), Value.bool false, Value.bool false, Value.int IntKind.i64 0, Value.slice ad 0 cap, Value.int IntKind.i64 0, Value.bool false, u59, u60, u61, u62, u63, u64, u65, u66, u67, u68, u69, u70, Value.pointer (some { block := B, off := 0 }), Value.int IntKind.i64 ↑T, Value.slice oa 0 oc, Value.pointer (some { block := W, off := 0 }), Value.slice ea 0 ec, Value.slice oa 0 oc, Value.int IntKind.i64 0, Value.slice ad 0 cap, Value.int IntKind.i64 0, Value.bool false, Value.bool false, Value.slice ea 0 ec, Value.int IntKind.i64 0, Value.slice ad 0 cap, Value.int IntKind.i64 0, Value.bool false, Value.bool false, Value.bool false, Value.pointer (some { block := B, off := 0 }), Value.int IntKind.i64 ↑T, Value.int IntKind.i64 0, Value.slice ad 0 cap, Value.int IntKind.i64 0, Value.bool false, Value.bool false, Value.bool false, Value.pointer (some { block := B, off := 0 }), Value.int IntKind.i64 0, Value.pointer (some { block := B, off := 0 }), Value.int IntKind.i64 0, Value.int IntKind.i64 0, Value.pointer (some { block := B, off := 0 }), Value.int IntKind.i64 ↑T, Value.int IntKind.i64 (↑T + 1), Value.int IntKind.i64 0, Value.int IntKind.i64 0, Value.bool false, Value.bool false, Value.int IntKind.i64 0, Value.slice ad 0 cap, Value.int IntKind.i64 0, Value.bool false, u113, u114, u115, u116, u117, u118, u119, u120, u121, u122, u123, u124, u125, u126, u127, u128, u129, u130, u131, u132, u133, u134, u135, u136, u137, u138, u139, u140, u141, u142, u143, u144, u145, u146, u147, u148, u149, u150, u151, u152, u153, u154, u155, u156, u157, u158, u159, u160, u161, u162, u163, u164, u165, u166, u167, u168, u169, u170, x 0, x 1, x 2, x 3, x 4, x 5, x 6, x 7, x 8, x 9, x 10, x 11, x 12, x 13, x 14, x 15, x 16], []⟩) (V0 ad cap) (fun j => if j = 17 then u4 else undef) (back_of (by kernel_rfl)) (V0_below) ?_ ?_
            · intro i o ho x wx hbx hpre
              have hi : i < 18 := (Array.getElem?_eq_some_iff.1 ho).1
              rcases (show i = 0 ∨ i = 1 ∨ i = 2 ∨ i = 3 ∨ i = 4 ∨ i = 5 ∨ i = 6 ∨ i = 7 ∨ i = 8 ∨ i = 9 ∨ i = 10 ∨ i = 11 ∨ i = 12 ∨ i = 13 ∨ i = 14 ∨ i = 15 ∨ i = 16 ∨ i = 17 by omega) with rfl | rfl | rfl | rfl | rfl | rfl | rfl | rfl | rfl | rfl | rfl | rfl | rfl | rfl | rfl | rfl | rfl | rfl
              · obtain rfl := Option.some.inj ho
                refine wpOp_step rfl (fun K hK => ?_)
                simp only [upd, reduceIte, Nat.reduceEqDiff]
                go_simp
                exact hK _ _ ⟨_, rfl, rfl, Below.refl _ _⟩
              · obtain rfl := Option.some.inj ho
                have e0 := hpre ⟨0, .data⟩ (by simp) rfl
                clear hpre
                rw [upd_of e0]
                clear e0
                refine wpOp_step rfl (fun K hK => ?_)
                simp only [upd, reduceIte, Nat.reduceEqDiff]
                go_simp
                exact hK _ _ ⟨_, rfl, rfl, Below.refl _ _⟩
              · obtain rfl := Option.some.inj ho
                have e1 := hpre ⟨1, .data⟩ (by simp) rfl
                clear hpre
                rw [upd_of e1]
                clear e1
                refine wpOp_step rfl (fun K hK => ?_)
                simp only [upd, reduceIte, Nat.reduceEqDiff]
                go_simp
                exact hK _ _ ⟨_, rfl, rfl, Below.refl _ _⟩
              · obtain rfl := Option.some.inj ho
                have e2 := hpre ⟨2, .data⟩ (by simp) rfl
                clear hpre
                rw [upd_of e2]
                clear e2
                refine wpOp_step rfl (fun K hK => ?_)
                simp only [upd, reduceIte, Nat.reduceEqDiff]
                go_simp
                exact hK _ _ ⟨_, rfl, rfl, Below.refl _ _⟩
              · obtain rfl := Option.some.inj ho
                have e3 := hpre ⟨3, .guard⟩ (by simp) rfl
                clear hpre
                rw [upd_of e3]
                clear e3
                refine wpOp_step rfl (fun K hK => ?_)
                simp only [upd, reduceIte, Nat.reduceEqDiff]
                go_simp
                exact hK _ _ ⟨_, rfl, trivial, Below.refl _ _⟩
              · obtain rfl := Option.some.inj ho
                have e3 := hpre ⟨3, .guard⟩ (by simp) rfl
                clear hpre
                rw [upd_of e3]
                clear e3
                refine wpOp_step rfl (fun K hK => ?_)
                simp only [upd, reduceIte, Nat.reduceEqDiff]
                go_simp
                exact hK _ _ ⟨_, rfl, trivial, Below.refl _ _⟩
              · obtain rfl := Option.some.inj ho
                have e3 := hpre ⟨3, .guard⟩ (by simp) rfl
                clear hpre
                rw [upd_of e3]
                clear e3
                refine wpOp_step rfl (fun K hK => ?_)
                simp only [upd, reduceIte, Nat.reduceEqDiff]
                go_simp
                exact hK _ _ ⟨_, rfl, trivial, Below.refl _ _⟩
              · obtain rfl := Option.some.inj ho
                have e3 := hpre ⟨3, .guard⟩ (by simp) rfl
                clear hpre
                rw [upd_of e3]
                clear e3
                refine wpOp_step rfl (fun K hK => ?_)
                simp only [upd, reduceIte, Nat.reduceEqDiff]
                go_simp
                exact hK _ _ ⟨_, rfl, trivial, Below.refl _ _⟩
              · obtain rfl := Option.some.inj ho
                have e3 := hpre ⟨3, .guard⟩ (by simp) rfl
                clear hpre
                rw [upd_of e3]
                clear e3
                refine wpOp_step rfl (fun K hK => ?_)
                simp only [upd, reduceIte, Nat.reduceEqDiff]
                go_simp
                exact hK _ _ ⟨_, rfl, trivial, Below.refl _ _⟩
              · obtain rfl := Option.some.inj ho
                have e3 := hpre ⟨3, .guard⟩ (by simp) rfl
                clear hpre
                rw [upd_of e3]
                clear e3
                refine wpOp_step rfl (fun K hK => ?_)
                simp only [upd, reduceIte, Nat.reduceEqDiff]
                go_simp
                exact hK _ _ ⟨_, rfl, trivial, Below.refl _ _⟩
              · obtain rfl := Option.some.inj ho
                have e3 := hpre ⟨3, .guard⟩ (by simp) rfl
                clear hpre
                rw [upd_of e3]
                clear e3
                refine wpOp_step rfl (fun K hK => ?_)
                simp only [upd, reduceIte, Nat.reduceEqDiff]
                go_simp
                exact hK _ _ ⟨_, rfl, trivial, Below.refl _ _⟩
              · obtain rfl := Option.some.inj ho
                have e3 := hpre ⟨3, .guard⟩ (by simp) rfl
                clear hpre
                rw [upd_of e3]
                clear e3
                refine wpOp_step rfl (fun K hK => ?_)
                simp only [upd, reduceIte, Nat.reduceEqDiff]
                go_simp
                exact hK _ _ ⟨_, rfl, trivial, Below.refl _ _⟩
              · obtain rfl := Option.some.inj ho
                have e3 := hpre ⟨3, .guard⟩ (by simp) rfl
                clear hpre
                rw [upd_of e3]
                clear e3
                refine wpOp_step rfl (fun K hK => ?_)
                simp only [upd, reduceIte, Nat.reduceEqDiff]
                go_simp
                exact hK _ _ ⟨_, rfl, trivial, Below.refl _ _⟩
              · obtain rfl := Option.some.inj ho
                have e3 := hpre ⟨3, .data⟩ (by simp) rfl
                clear hpre
                rw [upd_of e3]
                clear e3
                refine wpOp_step rfl (fun K hK => ?_)
                simp only [upd, reduceIte, Nat.reduceEqDiff]
                go_simp
                exact hK _ _ ⟨_, rfl, rfl, Below.refl _ _⟩
              · obtain rfl := Option.some.inj ho
                have e13 := hpre ⟨13, .data⟩ (by simp) rfl
                clear hpre
                rw [upd_of e13]
                clear e13
                refine wpOp_step rfl (fun K hK => ?_)
                simp only [upd, reduceIte, Nat.reduceEqDiff]
                go_simp
                exact hK _ _ ⟨_, rfl, rfl, Below.refl _ _⟩
              · obtain rfl := Option.some.inj ho
                have e14 := hpre ⟨14, .guard⟩ (by simp) rfl
                clear hpre
                rw [upd_of e14]
                clear e14
                refine wpOp_step rfl (fun K hK => ?_)
                simp only [upd, reduceIte, Nat.reduceEqDiff]
                go_simp
                go_wp2_with (go_at_call 11; refine (known_any _).mono ?_; rintro e w7 ⟨rfl, hb7⟩)
                exact ⟨_, rfl, rfl, hb7⟩
              · obtain rfl := Option.some.inj ho
                have e14 := hpre ⟨14, .data⟩ (by simp) rfl
                have e15 := hpre ⟨15, .data⟩ (by simp) rfl
                clear hpre
                rw [upd_of e14]
                rw [upd_of e15]
                clear e14 e15
                refine wpOp_step rfl (fun K hK => ?_)
                simp only [upd, reduceIte, Nat.reduceEqDiff]
                go_simp
                exact hK _ _ ⟨_, rfl, rfl, Below.refl _ _⟩
              · obtain rfl := Option.some.inj ho
                have e16 := hpre ⟨16, .data⟩ (by simp) rfl
                clear hpre
                rw [upd_of e16]
                clear e16
                refine wpOp_step rfl (fun K hK => ?_)
                simp only [upd, reduceIte, Nat.reduceEqDiff]
                go_simp
                exact hK _ _ ⟨_, rfl, rfl, Below.refl _ _⟩
            · intro x wx hbx hall
              have e17 := hall 17 (by decide)
              rw [upd_of e17]
              clear e17 hall
              simp only [upd, reduceIte, Nat.reduceEqDiff]
              go_wp2
              go_returns
              exact ⟨rfl, below_then hbw hbx⟩
          · have hq0 : ((q : Int) == 0) = false := by simp; omega
            have hq1 : (0 : Int) < (q : Int) := by omega
            obtain ⟨b, off, rfl, hc⟩ := (HIN.out.below hbw) 0 h0
            obtain ⟨⟨h, bi, s⟩, hg⟩ : ∃ o, gf 0 = o := ⟨_, rfl⟩
            rw [hg] at hc
            have c0 : wr.cell? ⟨b, off, none⟩ = some (.int .u64 h) := hc 0 (by decide)
            have c1 : wr.cell? ⟨b, off + 1, none⟩ = some (.int .u64 bi) := hc 1 (by decide)
            have c2 : wr.cell? ⟨b, off + 2, none⟩ = some (.int .u64 s) := hc 2 (by decide)
            have HBW2 := Lib.hid hbw
            clear hbw hc
            go_wp2_with fail
            refine wp_region_grow (by kernel_rfl) (fun x => ⟨#[Value.int IntKind.i64 ↑T, Value.slice (some { block := b, off := off }) q cap, undef, undef, x 17, Value.pointer (some { block := W, off := 0 }), Value.int IntKind.i64 0, Value.pointer (some { block := B, off := 0 }), Value.pointer (some { block := Ts T, off := 0 }), Value.int IntKind.i64 ↑q, Value.slice oa q oc, Value.slice ea q ec, Value.int IntKind.i64 ↑q, u13, Value.int IntKind.i64 ↑T, Value.bool false, Value.bool false, Value.int IntKind.i64 ↑T, Value.bool false, Value.bool false, Value.bool false, Value.slice (some { block := b, off := off }) q cap, Value.int IntKind.i64 ↑q, Value.bool false, Value.bool false, undef, Value.tuple #[Value.pointer (some { block := W, off := 0 }), Value.int IntKind.i64 0], Value.int IntKind.i64 ↑T, Value.tuple #[Value.pointer (some { block := W, off := 0 }), Value.int IntKind.i64 0], Value.pointer (some { block := W, off := 0 }), Value.int IntKind.i64 0, Value.int IntKind.i64 0, Value.bool false, Value.bool false, Value.pointer (some { block := W, off := 0 }), Value.bool false, Value.bool false, Value.int IntKind.i64 ↑T, Value.agg #[Value.int IntKind.i64 ↑T, Value.int IntKind.i64 0, Value.int IntKind.i64 0, Value.int IntKind.i64 0, Value.int IntKind.i64 0, Value.int IntKind.i64 0, Value.int IntKind.u64 0], Value.pointer (some { block := W, off := 0 }), Value.pointer (some { block := B, off := 0 }), Value.pointer (some { block := W, off := 0 }), Value.pointer (some { block := Ts T, off := 0 }), Value.pointer (some { block := B, off := 0 }), Value.bool false, Value.bool false, Value.pointer (some { block := Ts T, off := 0 }), Value.bool false, Value.bool false, Value.bool false, Value.pointer (some { block := B, off := 0 }), Value.pointer (some { block := W, off := 0 }), Value.pointer (some { block := W, off := 0 }), Value.bool false, Value.bool false, Value.int IntKind.i64 ↑q, Value.slice (some { block := b, off := off }) q cap, Value.int IntKind.i64 ↑q, Value.bool false, u59, u60, u61, u62, u63, u64, u65, u66, u67, u68, u69, u70, Value.pointer (some { block := B, off := 0 }), Value.int IntKind.i64 ↑T, Value.slice oa q oc, Value.pointer (some { block := W, off := 0 }), Value.slice ea q ec, Value.slice oa q oc, Value.int IntKind.i64 ↑q, Value.slice (some { block := b, off := off }) q cap, Value.int IntKind.i64 ↑q, Value.bool false, Value.bool false, Value.slice ea q ec, Value.int IntKind.i64 ↑q, Value.slice (some { block := b, off := off }) q cap, Value.int IntKind.i64 ↑q, Value.bool false, Value.bool false, Value.bool false, Value.pointer (some { block := B, off := 0 }), Value.int IntKind.i64 ↑T, Value.int IntKind.i64 ↑q, Value.slice (some { block := b, off := off }) q cap, Value.int IntKind.i64 ↑q, Value.bool false, Value.bool false, Value.bool false, Value.pointer (some { block := B, off := 0 }), Value.int IntKind.i64 0, Value.pointer (some { block := B, off := 0 }), Value.int IntKind.i64 0, Value.int IntKind.i64 0, Value.pointer (some { block := B, off := 0 }), Value.int IntKind.i64 ↑T, Value.int IntKind.i64 (↑T + 1), Value.int IntKind.i64 0, Value.int IntKind.i64 0, Value.bool false, Value.bool false, Value.int IntKind.i64 ↑q, Value.slice (some { block := b, off := off }) q cap, Value.int IntKind.i64 ↑q, Value.bool false, u113, u114, u115, u116, u117, u118, u119, u120, u121, u122, u123, u124, u125, u126, u127, u128, u129, u130, u131, u132, u133, u134, u135, u136, u137, u138, u139, u140, u141, u142, u143, u144, u145, u146, u147, u148, u149, u150, u151, u152, u153, u154, u155, u156, u157, u158, u159, u160, u161, u162, u163, u164, u165, u166, u167, u168, u169, u170, x 0, x 1, x 2, x 3, x 4, x 5, x 6, x 7, x 8, x 9, x 10, x 11, x 12, x 13, x 14, x 15, x 16], []⟩) (V1 b off q cap B T h bi s) (fun j => if j = 17 then u4 else undef) (back_of (by kernel_rfl)) (V1_below) ?_ ?_
            · intro i o ho x wx hbx hpre
              have hi : i < 18 := (Array.getElem?_eq_some_iff.1 ho).1
              rcases (show i = 0 ∨ i = 1 ∨ i = 2 ∨ i = 3 ∨ i = 4 ∨ i = 5 ∨ i = 6 ∨ i = 7 ∨ i = 8 ∨ i = 9 ∨ i = 10 ∨ i = 11 ∨ i = 12 ∨ i = 13 ∨ i = 14 ∨ i = 15 ∨ i = 16 ∨ i = 17 by omega) with rfl | rfl | rfl | rfl | rfl | rfl | rfl | rfl | rfl | rfl | rfl | rfl | rfl | rfl | rfl | rfl | rfl | rfl
              · obtain rfl := Option.some.inj ho
                refine wpOp_step rfl (fun K hK => ?_)
                simp only [upd, reduceIte, Nat.reduceEqDiff]
                go_simp
                exact hK _ _ ⟨_, rfl, rfl, Below.refl _ _⟩
              · obtain rfl := Option.some.inj ho
                have e0 := hpre ⟨0, .data⟩ (by simp) rfl
                clear hpre
                rw [upd_of e0]
                clear e0
                refine wpOp_step rfl (fun K hK => ?_)
                simp only [upd, reduceIte, Nat.reduceEqDiff]
                go_simp
                exact hK _ _ ⟨_, rfl, rfl, Below.refl _ _⟩
              · obtain rfl := Option.some.inj ho
                have e1 := hpre ⟨1, .data⟩ (by simp) rfl
                clear hpre
                rw [upd_of e1]
                clear e1
                refine wpOp_step rfl (fun K hK => ?_)
                simp only [upd, reduceIte, Nat.reduceEqDiff]
                go_simp
                exact hK _ _ ⟨_, rfl, rfl, Below.refl _ _⟩
              · obtain rfl := Option.some.inj ho
                have e2 := hpre ⟨2, .data⟩ (by simp) rfl
                clear hpre
                rw [upd_of e2]
                clear e2
                refine wpOp_step rfl (fun K hK => ?_)
                simp only [upd, reduceIte, Nat.reduceEqDiff]
                go_simp
                exact hK _ _ ⟨_, rfl, rfl, Below.refl _ _⟩
              · obtain rfl := Option.some.inj ho
                have e3 := hpre ⟨3, .guard⟩ (by simp) rfl
                clear hpre
                rw [upd_of e3]
                clear e3
                refine wpOp_step rfl (fun K hK => ?_)
                simp only [upd, reduceIte, Nat.reduceEqDiff]
                go_simp
                exact hK _ _ ⟨_, rfl, rfl, Below.refl _ _⟩
              · obtain rfl := Option.some.inj ho
                have e3 := hpre ⟨3, .guard⟩ (by simp) rfl
                clear hpre
                rw [upd_of e3]
                clear e3
                refine wpOp_step rfl (fun K hK => ?_)
                simp only [upd, reduceIte, Nat.reduceEqDiff]
                go_simp
                exact hK _ _ ⟨_, rfl, rfl, Below.refl _ _⟩
              · obtain rfl := Option.some.inj ho
                have e4 := hpre ⟨4, .data⟩ (by simp) rfl
                have e5 := hpre ⟨5, .data⟩ (by simp) rfl
                have e3 := hpre ⟨3, .guard⟩ (by simp) rfl
                clear hpre
                rw [upd_of e4]
                rw [upd_of e5]
                rw [upd_of e3]
                clear e4 e5 e3
                refine wpOp_step rfl (fun K hK => ?_)
                simp only [upd, reduceIte, Nat.reduceEqDiff]
                go_simp
                go_wp2_with (go_at_call 27; refine (HOLD2.out _ hbx).mono ?_; rintro e w6 ⟨oa2, oc2, zs2, rfl, ho6, hz6, hb6⟩)
                obtain ⟨g, cg, hog, -, -⟩ := ho6.form h0
                obtain ⟨rfl, rfl⟩ : oa2 = some ⟨g, 0, none⟩ ∧ oc2 = cg := by simp at hog; exact ⟨hog.1, hog.2⟩
                have d0 : w6.cell? ⟨g, 0, none⟩ = some (.int .u64 h) := by rw [ho6.cellAt 0 (by omega)]; have := hz6 0 h0 0 (by decide); rw [hg] at this; exact this
                have d1 : w6.cell? ⟨g, 1, none⟩ = some (.int .u64 bi) := by rw [ho6.cellAt 1 (by omega)]; have := hz6 0 h0 1 (by decide); rw [hg] at this; exact this
                have d2 : w6.cell? ⟨g, 2, none⟩ = some (.int .u64 s) := by rw [ho6.cellAt 2 (by omega)]; have := hz6 0 h0 2 (by decide); rw [hg] at this; exact this
                exact ⟨_, rfl, ⟨g, _, rfl, d0, d1, d2⟩, hb6⟩
              · obtain rfl := Option.some.inj ho
                have e6 := hpre ⟨6, .data⟩ (by simp) rfl
                have e3 := hpre ⟨3, .guard⟩ (by simp) rfl
                obtain ⟨g, cg, e6, d0, d1, d2⟩ := e6
                clear hpre
                rw [upd_of e6]
                rw [upd_of e3]
                clear e6 e3
                refine wpOp_step rfl (fun K hK => ?_)
                simp only [upd, reduceIte, Nat.reduceEqDiff]
                go_simp
                exact hK _ _ ⟨_, rfl, ⟨g, rfl, d0, d1, d2⟩, Below.refl _ _⟩
              · obtain rfl := Option.some.inj ho
                have e7 := hpre ⟨7, .data⟩ (by simp) rfl
                have e3 := hpre ⟨3, .guard⟩ (by simp) rfl
                obtain ⟨g, e7, d0, d1, d2⟩ := e7
                clear hpre
                rw [upd_of e7]
                rw [upd_of e3]
                clear e7 e3
                refine wpOp_step rfl (fun K hK => ?_)
                simp only [upd, reduceIte, Nat.reduceEqDiff]
                go_simp
                exact hK _ _ ⟨_, rfl, rfl, Below.refl _ _⟩
              · obtain rfl := Option.some.inj ho
                have e3 := hpre ⟨3, .guard⟩ (by simp) rfl
                clear hpre
                rw [upd_of e3]
                clear e3
                refine wpOp_step rfl (fun K hK => ?_)
                simp only [upd, reduceIte, Nat.reduceEqDiff]
                go_simp
                exact hK _ _ ⟨_, rfl, rfl, Below.refl _ _⟩
              · obtain rfl := Option.some.inj ho
                have e9 := hpre ⟨9, .data⟩ (by simp) rfl
                have e3 := hpre ⟨3, .guard⟩ (by simp) rfl
                clear hpre
                rw [upd_of e9]
                rw [upd_of e3]
                clear e9 e3
                refine wpOp_step rfl (fun K hK => ?_)
                simp only [upd, reduceIte, Nat.reduceEqDiff]
                go_simp
                exact hK _ _ ⟨_, rfl, rfl, Below.refl _ _⟩
              · obtain rfl := Option.some.inj ho
                have e10 := hpre ⟨10, .data⟩ (by simp) rfl
                have e3 := hpre ⟨3, .guard⟩ (by simp) rfl
                have k0 := keep hbx c0
                have k1 := keep hbx c1
                have k2 := keep hbx c2
                clear hpre
                rw [upd_of e10]
                rw [upd_of e3]
                clear e10 e3
                refine wpOp_step rfl (fun K hK => ?_)
                simp only [upd, reduceIte, Nat.reduceEqDiff]
                go_simp
                exact hK _ _ ⟨_, rfl, rfl, Below.refl _ _⟩
              · obtain rfl := Option.some.inj ho
                have e8 := hpre ⟨8, .data⟩ (by simp) rfl
                have e11 := hpre ⟨11, .data⟩ (by simp) rfl
                have e3 := hpre ⟨3, .guard⟩ (by simp) rfl
                clear hpre
                rw [upd_of e8]
                rw [upd_of e11]
                rw [upd_of e3]
                clear e8 e11 e3
                refine wpOp_step rfl (fun K hK => ?_)
                simp only [upd, reduceIte, Nat.reduceEqDiff]
                go_simp
                exact hK _ _ ⟨_, rfl, rfl, Below.refl _ _⟩
              · obtain rfl := Option.some.inj ho
                have e3 := hpre ⟨3, .data⟩ (by simp) rfl
                have e12 := hpre ⟨12, .data⟩ (by simp) rfl
                clear hpre
                rw [upd_of e3]
                rw [upd_of e12]
                clear e3 e12
                refine wpOp_step rfl (fun K hK => ?_)
                simp only [upd, reduceIte, Nat.reduceEqDiff]
                go_simp
                exact hK _ _ ⟨_, rfl, rfl, Below.refl _ _⟩
              · obtain rfl := Option.some.inj ho
                have e13 := hpre ⟨13, .data⟩ (by simp) rfl
                clear hpre
                rw [upd_of e13]
                clear e13
                refine wpOp_step rfl (fun K hK => ?_)
                simp only [upd, reduceIte, Nat.reduceEqDiff]
                go_simp
                exact hK _ _ ⟨_, rfl, rfl, Below.refl _ _⟩
              · obtain rfl := Option.some.inj ho
                have e14 := hpre ⟨14, .guard⟩ (by simp) rfl
                clear hpre
                rw [upd_of e14]
                clear e14
                refine wpOp_step rfl (fun K hK => ?_)
                simp only [upd, reduceIte, Nat.reduceEqDiff]
                go_simp
                go_wp2_with (go_at_call 11; refine (known_any _).mono ?_; rintro e w7 ⟨rfl, hb7⟩)
                exact ⟨_, rfl, rfl, hb7⟩
              · obtain rfl := Option.some.inj ho
                have e14 := hpre ⟨14, .data⟩ (by simp) rfl
                have e15 := hpre ⟨15, .data⟩ (by simp) rfl
                clear hpre
                rw [upd_of e14]
                rw [upd_of e15]
                clear e14 e15
                refine wpOp_step rfl (fun K hK => ?_)
                simp only [upd, reduceIte, Nat.reduceEqDiff]
                go_simp
                exact hK _ _ ⟨_, rfl, rfl, Below.refl _ _⟩
              · obtain rfl := Option.some.inj ho
                have e16 := hpre ⟨16, .data⟩ (by simp) rfl
                clear hpre
                rw [upd_of e16]
                clear e16
                refine wpOp_step rfl (fun K hK => ?_)
                simp only [upd, reduceIte, Nat.reduceEqDiff]
                go_simp
                exact hK _ _ ⟨_, rfl, rfl, Below.refl _ _⟩
            · intro x wx hbx hall
              have e17 := hall 17 (by decide)
              rw [upd_of e17]
              clear e17 hall
              simp only [upd, reduceIte, Nat.reduceEqDiff]
              go_wp2
              go_returns
              exact ⟨rfl, below_then HBW2.out hbx⟩
end Go.Proofs.Ytebnjfpffdlbbaa
