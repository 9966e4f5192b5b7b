/- The contract of newReplay: a replay at first. -/
import Derived.Test.YtejfcmgnacimgaaDoorA7
import Derived.RegionTactic
import Derived.ChangeAlike
import Derived.Deep.OwnRows
namespace Go.Proofs.YtejfcmgnacimgaaDoor
open Go.RowKit
set_option linter.unusedVariables false
set_option linter.unusedSimpArgs false

def zSl : Sl := ⟨0, 0, 0, 0, 0, 0, fun _ => 0⟩
def zCells : Array Value := #[.int .i64 0, .int .i64 0, .int .i64 0, .int .i64 0, .int .i64 0, .int .i64 0, .int .u64 0, .int .u64 0, .int .u64 0, .int .u64 0, .int .u64 0, .int .u64 0, .int .u64 0, .int .u64 0]
theorem info80 : (Tryd.prog.info? 80).map (fun i => (i.zero.map (·.cells), i.size, i.bytes)) = some (some zCells, 14, 112) := by kernel_rfl

theorem made_cell (n i k : Nat) (hi : i < n) (hk : k < 14) : (madeCells zCells (n * 14))[i * 14 + k]? = some (scell zSl k) := by
  have hlt : i * 14 + k < n * 14 := by omega
  unfold madeCells
  have hsz : zCells.size = 14 := rfl
  simp only [Array.getElem?_map, hsz]
  rw [Array.getElem?_eq_getElem (by simpa using hlt)]
  simp only [Array.getElem_range, Option.map_some]
  have : (i * 14 + k) % 14 = k := by omega
  rw [this]
  match k, hk with
  | 0, _ | 1, _ | 2, _ | 3, _ | 4, _ | 5, _ | 6, _ | 7, _ | 8, _ | 9, _ | 10, _ | 11, _ | 12, _ | 13, _ => rfl
  | k + 14, h => omega

def rs0 (T B a b : Int) (m : Nat) (x : Sl) : RS := ⟨T, B, a, b, m, fun _ => x, fun _ _ => (0, 0)⟩
def rsK (T B a b : Int) (m k : Nat) : RS := ⟨T, B, a, b, m, fun i => if i < k then endS zSl else zSl, fun _ _ => (0, 0)⟩

theorem RepAt.congr {R S M : Nat} {s s' : RS} {w : World} (h : RepAt R S M s w) (hT : s'.T = s.T) (hB : s'.B = s.B) (ha : s'.a = s.a) (hb : s'.b = s.b) (hm : s'.m = s.m) (hG : s'.G = s.G) (hs : ∀ i, i < s.m → s'.sl i = s.sl i) : RepAt R S M s' w := by
  refine ⟨hT ▸ h.r0, hB ▸ h.r1, ha ▸ h.r2, hb ▸ h.r3, hm ▸ h.r4, h.r5, ?_, h.sf, hG ▸ h.map, h.z, h.nRS, h.nRM, h.nSM, h.lt⟩
  intro i hi k hk
  rw [hm] at hi
  rw [hs i hi]
  exact h.sc i hi k hk

theorem al_heap_new (w : World) (o : Obj) : (w.alloc o).heap[w.heap.size]? = some o := by
  show (w.heap.push o)[w.heap.size]? = _
  rw [Array.getElem?_push, if_pos rfl]
theorem al_heap_old (w : World) (o : Obj) {k : Nat} (h : k < w.heap.size) : (w.alloc o).heap[k]? = w.heap[k]? := Below.heap_alloc _ _ _ h
theorem al_size (w : World) (o : Obj) : (w.alloc o).heap.size = w.heap.size + 1 := by simp

theorem rep_first {R S M : Nat} {T B a b : Int} {m : Nat} {w : World} (hR : w.heap[R]? = some (.cells #[.int .i64 T, .int .i64 B, .int .i64 a, .int .i64 b, .slice (some ⟨S, 0, none⟩) m m, .map (some M)] 74 (0, 0)))
    (hS : w.heap[S]? = some (.cells (madeCells zCells (m * 14)) 80 (0, 0))) (hM : w.heap[M]? = some (.map #[] 0)) (hz : Sz w) (h1 : R ≠ S) (h2 : R ≠ M) (h3 : S ≠ M) : RepAt R S M (rsK T B a b m 0) w := by
  have lt : ∀ {k : Nat} {o : Obj}, w.heap[k]? = some o → k < w.heap.size := fun h => (Array.getElem?_eq_some_iff.1 h).1
  refine ⟨?_, ?_, ?_, ?_, ?_, ?_, ?_, ?_, ?_, hz, h1, h2, h3, lt hS, lt hM⟩
  · simp [World.cell?, hR, rsK]
  · simp [World.cell?, hR, rsK]
  · simp [World.cell?, hR, rsK]
  · simp [World.cell?, hR, rsK]
  · simp [World.cell?, hR, rsK]
  · simp [World.cell?, hR]
  · intro i hi k hk
    simp only [World.cell?, hS]
    exact made_cell m i k hi hk
  · intro o; simp [World.frozen?, hS]
  · exact ⟨#[], 0, hM, by simp, by simp, fun _ _ => rfl⟩

theorem rep_A (T B a b : Int) (m : Nat) (w2 : World) (hz : Sz w2) : RepAt (w2.heap.size + 1 + 1) (w2.heap.size) (w2.heap.size + 1) (rsK T B a b m 0) (World.drew (((w2.alloc (.cells (madeCells zCells (m * 14)) 80)).alloc (.map #[] 0)).alloc (.cells #[.int .i64 T, .int .i64 B, .int .i64 a, .int .i64 b, .slice (some ⟨w2.heap.size, 0, none⟩) m m, .map (some (w2.heap.size + 1))] 74))) ∧ Below w2.heap.size w2 (World.drew (((w2.alloc (.cells (madeCells zCells (m * 14)) 80)).alloc (.map #[] 0)).alloc (.cells #[.int .i64 T, .int .i64 B, .int .i64 a, .int .i64 b, .slice (some ⟨w2.heap.size, 0, none⟩) m m, .map (some (w2.heap.size + 1))] 74))) := by
  have s1 := al_size w2 (.cells (madeCells zCells (m * 14)) 80)
  have s2 := al_size (w2.alloc (.cells (madeCells zCells (m * 14)) 80)) (.map #[] 0)
  have h0 := al_heap_new w2 (.cells (madeCells zCells (m * 14)) 80)
  have h1 := al_heap_new (w2.alloc (.cells (madeCells zCells (m * 14)) 80)) (.map #[] 0)
  have h2 := al_heap_new ((w2.alloc (.cells (madeCells zCells (m * 14)) 80)).alloc (.map #[] 0)) (.cells #[.int .i64 T, .int .i64 B, .int .i64 a, .int .i64 b, .slice (some ⟨w2.heap.size, 0, none⟩) m m, .map (some (w2.heap.size + 1))] 74)
  have k0 := al_heap_old (w2.alloc (.cells (madeCells zCells (m * 14)) 80)) (.map #[] 0) (k := w2.heap.size) (by omega)
  have k1 := al_heap_old ((w2.alloc (.cells (madeCells zCells (m * 14)) 80)).alloc (.map #[] 0)) (.cells #[.int .i64 T, .int .i64 B, .int .i64 a, .int .i64 b, .slice (some ⟨w2.heap.size, 0, none⟩) m m, .map (some (w2.heap.size + 1))] 74) (k := w2.heap.size) (by omega)
  have k2 := al_heap_old ((w2.alloc (.cells (madeCells zCells (m * 14)) 80)).alloc (.map #[] 0)) (.cells #[.int .i64 T, .int .i64 B, .int .i64 a, .int .i64 b, .slice (some ⟨w2.heap.size, 0, none⟩) m m, .map (some (w2.heap.size + 1))] 74) (k := w2.heap.size + 1) (by omega)
  rw [s1] at h1
  rw [s2, s1] at h2
  have hb : Below w2.heap.size w2 (World.drew (((w2.alloc (.cells (madeCells zCells (m * 14)) 80)).alloc (.map #[] 0)).alloc (.cells #[.int .i64 T, .int .i64 B, .int .i64 a, .int .i64 b, .slice (some ⟨w2.heap.size, 0, none⟩) m m, .map (some (w2.heap.size + 1))] 74))) := by go_grown
  exact ⟨rep_first h2 (k1.trans (k0.trans h0)) (k2.trans h1) (hz.below hb) (by omega) (by omega) (by omega), hb⟩
theorem rep_B (T B a b : Int) (m : Nat) (w2 : World) (hz : Sz w2) : RepAt (w2.heap.size + 1 + 1) (w2.heap.size + 1) (w2.heap.size) (rsK T B a b m 0) (World.drew (((w2.alloc (.map #[] 0)).alloc (.cells (madeCells zCells (m * 14)) 80)).alloc (.cells #[.int .i64 T, .int .i64 B, .int .i64 a, .int .i64 b, .slice (some ⟨w2.heap.size + 1, 0, none⟩) m m, .map (some (w2.heap.size))] 74))) ∧ Below w2.heap.size w2 (World.drew (((w2.alloc (.map #[] 0)).alloc (.cells (madeCells zCells (m * 14)) 80)).alloc (.cells #[.int .i64 T, .int .i64 B, .int .i64 a, .int .i64 b, .slice (some ⟨w2.heap.size + 1, 0, none⟩) m m, .map (some (w2.heap.size))] 74))) := by
  have s1 := al_size w2 (.map #[] 0)
  have s2 := al_size (w2.alloc (.map #[] 0)) (.cells (madeCells zCells (m * 14)) 80)
  have h0 := al_heap_new w2 (.map #[] 0)
  have h1 := al_heap_new (w2.alloc (.map #[] 0)) (.cells (madeCells zCells (m * 14)) 80)
  have h2 := al_heap_new ((w2.alloc (.map #[] 0)).alloc (.cells (madeCells zCells (m * 14)) 80)) (.cells #[.int .i64 T, .int .i64 B, .int .i64 a, .int .i64 b, .slice (some ⟨w2.heap.size + 1, 0, none⟩) m m, .map (some (w2.heap.size))] 74)
  have k0 := al_heap_old (w2.alloc (.map #[] 0)) (.cells (madeCells zCells (m * 14)) 80) (k := w2.heap.size) (by omega)
  have k1 := al_heap_old ((w2.alloc (.map #[] 0)).alloc (.cells (madeCells zCells (m * 14)) 80)) (.cells #[.int .i64 T, .int .i64 B, .int .i64 a, .int .i64 b, .slice (some ⟨w2.heap.size + 1, 0, none⟩) m m, .map (some (w2.heap.size))] 74) (k := w2.heap.size) (by omega)
  have k2 := al_heap_old ((w2.alloc (.map #[] 0)).alloc (.cells (madeCells zCells (m * 14)) 80)) (.cells #[.int .i64 T, .int .i64 B, .int .i64 a, .int .i64 b, .slice (some ⟨w2.heap.size + 1, 0, none⟩) m m, .map (some (w2.heap.size))] 74) (k := w2.heap.size + 1) (by omega)
  rw [s1] at h1
  rw [s2, s1] at h2
  have hb : Below w2.heap.size w2 (World.drew (((w2.alloc (.map #[] 0)).alloc (.cells (madeCells zCells (m * 14)) 80)).alloc (.cells #[.int .i64 T, .int .i64 B, .int .i64 a, .int .i64 b, .slice (some ⟨w2.heap.size + 1, 0, none⟩) m m, .map (some (w2.heap.size))] 74))) := by go_grown
  exact ⟨rep_first h2 (k2.trans h1) (k1.trans (k0.trans h0)) (hz.below hb) (by omega) (by omega) (by omega), hb⟩

set_option maxHeartbeats 8000000 in
set_option maxRecDepth 100000 in
theorem newReplay_any (T B a b : Int) (hB : 0 ≤ B ∧ B ≤ 1000) (m : Nat) (hm : (m : Int) = 1 + clamp a 4096 + clamp b 4096) (w : World) (hz : Sz w) :
    Calls Tryd.prog 21 #[facts T B a b] w fun e w' => ∃ R S M, e = .returned (.pointer (some ⟨R, 0, none⟩)) ∧ RepAt R S M (rs0 (clamp T 16) B (clamp a 4096) (clamp b 4096) m (endS zSl)) w' ∧ Below w.heap.size w w' ∧ w.heap.size ≤ S ∧ w.heap.size ≤ M := by
  obtain ⟨i, z, hi, hiz, hc, h1, h8⟩ : ∃ i z, Tryd.prog.info? 80 = some i ∧ i.zero = some z ∧ z.cells = zCells ∧ i.size = 14 ∧ i.bytes = 112 := by
    have := info80
    cases hh : Tryd.prog.info? 80 with
    | none => rw [hh] at this; cases this
    | some i =>
      rw [hh] at this
      simp at this
      obtain ⟨⟨z, h1, h2⟩, h3, h4⟩ := this
      exact ⟨i, z, rfl, h1, h2, h3, h4⟩
  have hxa := clamp_bd (x := a) (show (0 : Int) ≤ 4096 by decide)
  have hxb := clamp_bd (x := b) (show (0 : Int) ≤ 4096 by decide)
  have HC := fun w => clamped_any T B a b w
  have hmk : ∀ w : World, (Instr.makeSlice 71 (.int .i64 (m : Int)) (.int .i64 (m : Int))).run Tryd.prog w = .ok (.slice (some ⟨w.heap.size, 0, none⟩) m m) (w.alloc (.cells (madeCells zCells (m * 14)) 80)) := fun w => by
    have := run_makeSlice w 71 80 i z Tryd.underlying71 hi hiz .i64 .i64 (m : Int) (m : Int) (by omega) (Int.le_refl _) (by rw [h1]; omega) (by rw [h8]; omega) (by omega)
    rw [this, h1, hc]; rfl
  have hmm := fun w => @run_makeMap Tryd.prog 72 w
  clear hi hiz hc h1 h8
  unfold facts at HC ⊢
  generalize clamp T 16 = ct at *
  generalize clamp a 4096 = ca at *
  generalize clamp b 4096 = cb at *
  obtain ⟨ha0, ha1⟩ := hxa
  obtain ⟨hb0, hb1⟩ := hxb
  have i0 := fun w => idx2_0 ca cb w
  have i1 := fun w => idx2_1 ca cb w
  have hbb : Below w.heap.size w (w.alloc (.cells #[.int .i64 T, .int .i64 B, .int .i64 a, .int .i64 b] 24)) := by go_grown
  have HB := Lib.hid hbb
  have HZ := Lib.hid hz
  have HM := Lib.hid hm
  clear hbb hz hm
  go_enter Tryd.func21, Tryd.ntmps21
  go_wp2_with fail
  refine (HC _).mono ?_
  rintro e w1 ⟨rfl, hbx⟩
  have d0 : w1.cell? ⟨w.heap.size, 0, none⟩ = some (.int .i64 T) := keep hbx (by simp [go_sem])
  have d1 : w1.cell? ⟨w.heap.size, 1, none⟩ = some (.int .i64 B) := keep hbx (by simp [go_sem])
  have d2 : w1.cell? ⟨w.heap.size, 2, none⟩ = some (.int .i64 a) := keep hbx (by simp [go_sem])
  have d3 : w1.cell? ⟨w.heap.size, 3, none⟩ = some (.int .i64 b) := keep hbx (by simp [go_sem])
  have fz : ∀ o, w1.frozen? ⟨w.heap.size, o, none⟩ = false := fun o => by
    rw [hbx.frozen (by simp)]; simp [go_sem]
  have hz1 : w.heap.size < w1.heap.size := World.block_lt_of_cell? _ _ d0
  have HB1 := Lib.hid (HB.out.trans (hbx.mono HB.out.size))
  clear hbx HC
  go_wp2_with fail
  have hW2 : ∃ w2, w2 = (((w1.setCell ⟨w.heap.size, 0, none⟩ (.int .i64 ct)).setCell ⟨w.heap.size, 1, none⟩ (.int .i64 B)).setCell ⟨w.heap.size, 2, none⟩ (.int .i64 ca)).setCell ⟨w.heap.size, 3, none⟩ (.int .i64 cb) := ⟨_, rfl⟩
  obtain ⟨w2, hw2⟩ := hW2
  have g0 : w2.cell? ⟨w.heap.size, 0, none⟩ = some (.int .i64 ct) := by subst hw2; exact (cset_other (by simp)).trans ((cset_other (by simp)).trans ((cset_other (by simp)).trans (cset_same d0)))
  have g1 : w2.cell? ⟨w.heap.size, 1, none⟩ = some (.int .i64 B) := by subst hw2; exact (cset_other (by simp)).trans ((cset_other (by simp)).trans (cset_same ((cset_other (by simp)).trans d1)))
  have g2 : w2.cell? ⟨w.heap.size, 2, none⟩ = some (.int .i64 ca) := by subst hw2; exact (cset_other (by simp)).trans (cset_same ((cset_other (by simp)).trans ((cset_other (by simp)).trans d2)))
  have g3 : w2.cell? ⟨w.heap.size, 3, none⟩ = some (.int .i64 cb) := by subst hw2; exact cset_same ((cset_other (by simp)).trans ((cset_other (by simp)).trans ((cset_other (by simp)).trans d3)))
  have hb2 : Below w.heap.size w w2 := by subst hw2; exact (((HB1.out.setCell (by simp) _).setCell (by simp) _).setCell (by simp) _).setCell (by simp) _
  have hz2 : w.heap.size < w2.heap.size := World.block_lt_of_cell? _ _ g0
  have HB2 := Lib.hid hb2
  have HZ2 := Lib.hid (show Sz w2 from ⟨(hb2.cell (World.block_lt_of_cell? _ _ HZ.out.1)).trans HZ.out.1, (hb2.cell (World.block_lt_of_cell? _ _ HZ.out.2)).trans HZ.out.2⟩)
  rw [← hw2]
  clear hw2 d0 d1 d2 d3 fz hz1 HB1 hb2
  have hmE : 1 + ca + cb = (m : Int) := HM.out.symm
  refine wp_loop_rounds 3 ?_
  rw [rounds_succ]
  go_wp2_with fail
  rw [rounds_succ]
  go_wp2_with fail
  rw [rounds_succ]
  go_wp2_with fail
  clear hmE
  go_region
  · obtain ⟨hp, hq⟩ := rep_A ct B ca cb m w2 HZ2.out
    go_wp2_with fail
    have HP := Lib.hid hp
    have hbw := HB2.out.trans (hq.mono HB2.out.size)
    have HBW := Lib.hid hbw
    have hS : w.heap.size ≤ w2.heap.size := by omega
    have hM : w.heap.size ≤ (w2.heap.size + 1) := by omega
    have hS0 : w2.heap.size ≠ 0 := by omega
    clear hp hq hbw g0 g1 g2 g3
    generalize World.drew (((w2.alloc (.cells (madeCells zCells (m * 14)) 80)).alloc (.map #[] 0)).alloc (.cells #[.int .i64 ct, .int .i64 B, .int .i64 ca, .int .i64 cb, .slice (some ⟨w2.heap.size, 0, none⟩) m m, .map (some ((w2.heap.size + 1)))] 74)) = w4 at *
    generalize w2.heap.size + 1 + 1 = R at *
    go_loopw [30] (fun v wr => ∃ k : Nat, k ≤ m ∧ v = .int .i64 k ∧ RepAt R (w2.heap.size) ((w2.heap.size + 1)) (rsK ct B ca cb m k) wr ∧ Below w.heap.size w wr) (fun v _ => m - (intOf v).toNat)
    case atStart => exact ⟨0, by omega, rfl, HP.out, HBW.out⟩
    case round =>
      rename_i wr
      obtain ⟨k, hk, rfl, hr, hb⟩ := hrel
      have HRR := Lib.hid hr
      have HBR := Lib.hid hb
      have c4 : wr.cell? ⟨R, 4, none⟩ = some (.slice (some ⟨w2.heap.size, 0, none⟩) m m) := hr.r4
      clear hr hb
      by_cases hlt : k < m
      · have hlt' : (k : Int) < m := by omega
        have hk9 : (k : Int) ≤ 10000 := by have := HM.out; omega
        go_wp2_with fail
        refine (end_any hS0 k hlt _ HRR.out).mono ?_
        rintro x w5 ⟨rfl, hr, hkq⟩
        have hr2 : RepAt R (w2.heap.size) ((w2.heap.size + 1)) (rsK ct B ca cb m (k + 1)) w5 := hr.congr rfl rfl rfl rfl rfl rfl (fun i hi => by
          simp only [rsK, setSl]
          by_cases e : i = k
          · subst e; rw [if_pos (by omega), if_pos rfl, if_neg (by omega)]
          · rw [if_neg e]
            by_cases e2 : i < k
            · rw [if_pos e2, if_pos (by omega)]
            · rw [if_neg e2, if_neg (by omega)])
        have HF := Lib.hid (And.intro hr2 (HBR.out.trans ((hkq w.heap.size).below hS hM (Nat.le_refl _))))
        clear hr hkq hr2 c4
        go_wp2
        go_roundw
        case rel => exact ⟨k + 1, by omega, by go_num, HF.out⟩
        case measure => simp [intOf]; omega
      · obtain rfl : k = m := by omega
        go_wp2
        go_returns
        exact ⟨_, _, _, rfl, HRR.out.congr rfl rfl rfl rfl rfl rfl (fun i hi => by
          have hi' : i < k := hi
          simp only [rs0, rsK]
          rw [if_pos hi']), HBR.out, hS, hM⟩
  · obtain ⟨hp, hq⟩ := rep_B ct B ca cb m w2 HZ2.out
    go_wp2_with fail
    have HP := Lib.hid hp
    have hbw := HB2.out.trans (hq.mono HB2.out.size)
    have HBW := Lib.hid hbw
    have hS : w.heap.size ≤ (w2.heap.size + 1) := by omega
    have hM : w.heap.size ≤ w2.heap.size := by omega
    have hS0 : (w2.heap.size + 1) ≠ 0 := by omega
    clear hp hq hbw g0 g1 g2 g3
    generalize World.drew (((w2.alloc (.map #[] 0)).alloc (.cells (madeCells zCells (m * 14)) 80)).alloc (.cells #[.int .i64 ct, .int .i64 B, .int .i64 ca, .int .i64 cb, .slice (some ⟨(w2.heap.size + 1), 0, none⟩) m m, .map (some (w2.heap.size))] 74)) = w4 at *
    generalize w2.heap.size + 1 + 1 = R at *
    go_loopw [30] (fun v wr => ∃ k : Nat, k ≤ m ∧ v = .int .i64 k ∧ RepAt R ((w2.heap.size + 1)) (w2.heap.size) (rsK ct B ca cb m k) wr ∧ Below w.heap.size w wr) (fun v _ => m - (intOf v).toNat)
    case atStart => exact ⟨0, by omega, rfl, HP.out, HBW.out⟩
    case round =>
      rename_i wr
      obtain ⟨k, hk, rfl, hr, hb⟩ := hrel
      have HRR := Lib.hid hr
      have HBR := Lib.hid hb
      have c4 : wr.cell? ⟨R, 4, none⟩ = some (.slice (some ⟨(w2.heap.size + 1), 0, none⟩) m m) := hr.r4
      clear hr hb
      by_cases hlt : k < m
      · have hlt' : (k : Int) < m := by omega
        have hk9 : (k : Int) ≤ 10000 := by have := HM.out; omega
        go_wp2_with fail
        refine (end_any hS0 k hlt _ HRR.out).mono ?_
        rintro x w5 ⟨rfl, hr, hkq⟩
        have hr2 : RepAt R ((w2.heap.size + 1)) (w2.heap.size) (rsK ct B ca cb m (k + 1)) w5 := hr.congr rfl rfl rfl rfl rfl rfl (fun i hi => by
          simp only [rsK, setSl]
          by_cases e : i = k
          · subst e; rw [if_pos (by omega), if_pos rfl, if_neg (by omega)]
          · rw [if_neg e]
            by_cases e2 : i < k
            · rw [if_pos e2, if_pos (by omega)]
            · rw [if_neg e2, if_neg (by omega)])
        have HF := Lib.hid (And.intro hr2 (HBR.out.trans ((hkq w.heap.size).below hS hM (Nat.le_refl _))))
        clear hr hkq hr2 c4
        go_wp2
        go_roundw
        case rel => exact ⟨k + 1, by omega, by go_num, HF.out⟩
        case measure => simp [intOf]; omega
      · obtain rfl : k = m := by omega
        go_wp2
        go_returns
        exact ⟨_, _, _, rfl, HRR.out.congr rfl rfl rfl rfl rfl rfl (fun i hi => by
          have hi' : i < k := hi
          simp only [rs0, rsK]
          rw [if_pos hi']), HBR.out, hS, hM⟩
end Go.Proofs.YtejfcmgnacimgaaDoor
