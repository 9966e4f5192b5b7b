/- The contract of write, where the slot that is written in is the thread's own. -/
import Derived.Test.YtejfcmgnacimgaaDoorB6
namespace Go.Proofs.YtejfcmgnacimgaaDoor
open Go.RowKit
set_option linter.unusedVariables false
set_option linter.unusedSimpArgs false

set_option maxHeartbeats 8000000 in
set_option maxRecDepth 100000 in
theorem write_own {R S M : Nat} {s : RS} (hS0 : S ≠ 0) (hs : s.Ok) (hwk : s.Wok) (at_ : Int) (e : Ev) (he : e.Ok) (hth : e.th ≠ -1) (w : World) (h : RepAt R S M s w) (ho : ownB s e.th (fndS s.B s.a s.b e.at_).1 = true) :
    Calls Tryd.prog 39 #[.pointer (some ⟨R, 0, none⟩), .int .i64 at_, .agg (evCells e)] w fun x w' => x = .returned (.tuple #[]) ∧ RepAt R S M (writeF s at_ e) w' ∧ Kq w.heap.size S M w w' := by
  obtain ⟨W, hW⟩ : ∃ W, W = ((w.alloc (.cells #[.pointer (some ⟨R, 0, none⟩)] 65)).alloc (.cells #[.int .i64 at_] 3)).alloc (.cells (evCells e) 54) := ⟨_, rfl⟩
  have hb0 : Below w.heap.size w W := by subst hW; go_grown
  have hr := h.below hb0
  have hE : EvAt (w.heap.size + 2) e W := by
    have := EvAt.new e ((w.alloc (.cells #[.pointer (some ⟨R, 0, none⟩)] 65)).alloc (.cells #[.int .i64 at_] 3)) 54
    rw [← hW] at this
    simpa using this
  have p1 : W.cell? ⟨w.heap.size, 0, none⟩ = some (.pointer (some ⟨R, 0, none⟩)) := by subst hW; simp [go_sem]
  have p2 : W.cell? ⟨w.heap.size + 1, 0, none⟩ = some (.int .i64 at_) := by subst hW; simp [go_sem]
  have hz : W.heap.size = w.heap.size + 3 := by subst hW; simp
  have hlt := h.lt
  have HB := Lib.hid hb0
  have HR := Lib.hid hr
  have HE := Lib.hid hE
  have r0 := hr.r0
  have r1 := hr.r1
  have r2 := hr.r2
  have r3 := hr.r3
  have c4 := hE.c4
  have hRw : R < w.heap.size := World.block_lt_of_cell? _ _ h.r0
  clear h hb0 hr hE
  unfold writeF
  rw [if_pos ho]
  · skip
    obtain ⟨n, hn1, hn2, -⟩ := ownB_yes ho
    have hk7 := fndS_le s.B s.a s.b e.at_
    have HN := Lib.hid hn2
    obtain ⟨kk, hkk⟩ : ∃ kk, (fndS s.B s.a s.b e.at_).2 = kk := ⟨_, rfl⟩
    have SL := Lib.hid (show ∀ W (h : RepAt R S M s W), Calls Tryd.prog 10 #[.agg #[.int .i64 s.T, .int .i64 s.B, .int .i64 s.a, .int .i64 s.b], .int .i64 e.at_] W fun e w' => e = .returned (.tuple #[.int .i64 n, .int .i64 kk]) ∧ Below W.heap.size W w' by
      intro W h
      have := slot_in hs e.at_ he.at_ W h
      rw [hn1, hkk] at this
      exact this)
    rw [hn1, hkk, Int.toNat_natCast]
    rw [hn1] at ho
    rw [hkk] at hk7
    have HO := Lib.hid ho
    have in0 : (0 : Int) ≤ n := by omega
    have in1 : (n : Int) < s.m := by omega
    clear ho hn1 hkk
    by_cases h0 : 0 ≤ kk
    · rw [if_pos h0]
      obtain ⟨j, rfl⟩ := Int.eq_ofNat_of_zero_le h0
      rw [Int.toNat_natCast]
      have hj8 : j < 8 := by omega
      have hj9 : (j : Int) < 8 := by omega
      go_enter Tryd.func39, Tryd.ntmps39
      go_wp2_with fail
      rw [← hW]
      clear hW
      go_region_with (go_at_call 10; refine (SL.out _ (RepAt.below HR.out (by go_grown))).mono ?_; rintro x w1 ⟨rfl, hb1⟩)
      all_goals
        have hbW : Below W.heap.size W w1 := Below.mono (Below.trans (by go_grown) hb1) (Nat.le_refl _)
        have HR1 := Lib.hid (HR.out.below hbW)
        have HE1 := Lib.hid (HE.out.below hbW)
        have HB1 := Lib.hid (HB.out.trans (hbW.mono HB.out.size))
        have hz1 : w.heap.size + 3 ≤ w1.heap.size := by rw [← hz]; exact hbW.size
        have hz2 : w.heap.size + 2 < w1.heap.size := by omega
        have hz3 : w.heap.size + 1 + 1 < w1.heap.size := by omega
        have p1' := keep hbW p1
        have p2' := keep hbW p2
        clear hbW hb1 r0 r1 r2 r3 c4 p1 p2 hz HR HE HB
        have c1 := HE1.out.c1
        have c6 := HE1.out.c6
        have r4 := HR1.out.r4
        go_wp2_with fail
        refine (owns_any _ _ _ HR1.out).mono ?_
        rintro x w' ⟨rfl, rfl⟩
        rw [HO.out]
        have dj := (HR1.out.below (Below.refl _ _).drew).sc n HN.out (6 + j) (by omega)
        rw [← Nat.add_assoc] at dj
        have sf := (HR1.out.below (Below.refl _ _).drew).sf
        go_wp2_with fail
        refine wp_region_still_tail 11 (by kernel_rfl) (by kernel_rfl) ?_
        simp only [List.take_succ_cons, List.take_zero, List.drop_succ_cons, List.drop_zero]
        repeat still_step
        refine wpStill_nil ?_
        change wpList _ _ _ _ _ (World.drew w1)
        have HR2 := Lib.hid (HR1.out.below (Below.refl _ _).drew)
        have HB2 := Lib.hid HB1.out.drew
        clear HR1 HB1 HE1 c1 c6 r4 p1' p2'
        generalize World.drew w1 = w2 at *
        go_wp2
        go_returns
        have hp := HR2.out.slot_cell hS0 n HN.out (6 + j) (by omega) (.int .u64 e.new) (wrS (s.sl n) j e.new) (by
          intro i hi
          match i, hi with
          | 0, _ | 1, _ | 2, _ | 3, _ | 4, _ | 5, _ => rw [if_neg (by omega)]; rfl
          | i + 6, hi =>
            by_cases e6 : i = j
            · subst e6; rw [if_pos (by omega)]; simp [scell, wrS]
            · rw [if_neg (by omega)]; simp [scell, wrS, e6])
        rw [← Nat.add_assoc] at hp
        exact ⟨rfl, hp, (Kq.of_below HB2.out (Nat.le_refl _)).set_S _ _⟩
    · rw [if_neg h0]
      have h0' : decide (0 ≤ kk) = false := by simpa using h0
      clear h0
      go_enter Tryd.func39, Tryd.ntmps39
      go_wp2_with fail
      rw [← hW]
      clear hW
      go_region_with (go_at_call 10; refine (SL.out _ (RepAt.below HR.out (by go_grown))).mono ?_; rintro x w1 ⟨rfl, hb1⟩)
      all_goals
        have hbW : Below W.heap.size W w1 := Below.mono (Below.trans (by go_grown) hb1) (Nat.le_refl _)
        have HR1 := Lib.hid (HR.out.below hbW)
        have HE1 := Lib.hid (HE.out.below hbW)
        have HB1 := Lib.hid (HB.out.trans (hbW.mono HB.out.size))
        have hz1 : w.heap.size + 3 ≤ w1.heap.size := by rw [← hz]; exact hbW.size
        have hz2 : w.heap.size + 2 < w1.heap.size := by omega
        have hz3 : w.heap.size + 1 + 1 < w1.heap.size := by omega
        have p1' := keep hbW p1
        have p2' := keep hbW p2
        clear hbW hb1 r0 r1 r2 r3 c4 p1 p2 hz HR HE HB
        have c1 := HE1.out.c1
        have c6 := HE1.out.c6
        have r4 := HR1.out.r4
        go_wp2_with fail
        refine (owns_any _ _ _ HR1.out).mono ?_
        rintro x w' ⟨rfl, rfl⟩
        rw [HO.out]
        go_wp2
        go_returns
        exact ⟨rfl, HR1.out, Kq.of_below HB1.out (Nat.le_refl _)⟩
end Go.Proofs.YtejfcmgnacimgaaDoor
