/- The document's own note of a protection. -/
import Derived.Test.YtejfcmgnacimgaaDoorT5
namespace Go.Proofs.YtejfcmgnacimgaaDoor
open Go.RowKit
set_option linter.unusedVariables false
set_option linter.unusedSimpArgs false

set_option maxHeartbeats 8000000 in
set_option maxRecDepth 100000 in
theorem note_prot_no {W S G : Nat} {B a b : Int} {cs cg : Nat} {u : U} (t : Nat) (ht : t < 3) (e : Ev) (w : World) (h : UAt W S G B a b cs cg u w) (hk : e.nk = 5) (hs : e.slot = 1) (gd : Nat) (hgd : gd < 12) (hg : e.guard = (gd : Int)) (h0 : u.s 0 = 1) :
    Calls Tryd.prog 41 #[.pointer (some ⟨W, 0, none⟩), .int .i64 t, .agg (nCells e)] w fun x w' => x = .returned (.tuple #[]) ∧ UAt W S G B a b cs cg (⟨u.s, upd u.g (t * 12 + gd) (-1), u.n⟩) w' ∧ Kz W S G w w' := by
  have hb1 : Below w.heap.size w (w.alloc (.cells (nCells e) 51)) := by go_grown
  have hu1 := h.below hb1
  obtain ⟨hlW, hlS, hlG⟩ := h.lt
  have e0 : (w.alloc (.cells (nCells e) 51)).cell? ⟨w.heap.size, 0, none⟩ = some (.int .i64 e.nk) := by simp [go_sem, nCells]
  have e1 : (w.alloc (.cells (nCells e) 51)).cell? ⟨w.heap.size, 1, none⟩ = some (.int .i64 e.slot) := by simp [go_sem, nCells]
  have e2 : (w.alloc (.cells (nCells e) 51)).cell? ⟨w.heap.size, 2, none⟩ = some (.int .i64 e.life) := by simp [go_sem, nCells]
  have e3 : (w.alloc (.cells (nCells e) 51)).cell? ⟨w.heap.size, 3, none⟩ = some (.int .i64 e.guard) := by simp [go_sem, nCells]
  have e4 : (w.alloc (.cells (nCells e) 51)).cell? ⟨w.heap.size, 4, none⟩ = some (.int .i64 e.read) := by simp [go_sem, nCells]
  have e5 : (w.alloc (.cells (nCells e) 51)).cell? ⟨w.heap.size, 5, none⟩ = some (.int .i64 e.cls) := by simp [go_sem, nCells]
  have e6 : (w.alloc (.cells (nCells e) 51)).cell? ⟨w.heap.size, 6, none⟩ = some (.int .u64 e.n) := by simp [go_sem, nCells]
  have e7 : (w.alloc (.cells (nCells e) 51)).cell? ⟨w.heap.size, 7, none⟩ = some (.int .i64 e.code) := by simp [go_sem, nCells]
  rw [hk] at e0
  rw [hs] at e1
  rw [hg] at e3
  have HB1 := Lib.hid hb1
  have HU1 := Lib.hid hu1
  have HL := Lib.hid (show W < w.heap.size ∧ S < w.heap.size ∧ G < w.heap.size from ⟨hlW, hlS, hlG⟩)
  have c4 := hu1.c4
  have n1 := h.nWS
  clear h hb1 hu1 hlW hlS hlG
  go_enter Tryd.func41, Tryd.ntmps41
  go_wp2_with fail
  generalize w.alloc (.cells (nCells e) 51) = w1 at *
  go_quiet (fail)
  have hq2 : Below w1.heap.size w1 (w1.drewN nq) := below_drewN (Below.refl _ _) _
  replace e0 := keep hq2 e0
  replace e1 := keep hq2 e1
  replace e2 := keep hq2 e2
  replace e3 := keep hq2 e3
  replace e4 := keep hq2 e4
  replace e5 := keep hq2 e5
  replace e6 := keep hq2 e6
  replace e7 := keep hq2 e7
  replace c4 := keep hq2 c4
  have HU2 := Lib.hid (HU1.out.below hq2)
  have HB2 := Lib.hid (HB1.out.trans (hq2.mono HB1.out.size))
  clear hq2
  generalize w1.drewN nq = w2 at *
  go_wp2_with fail
  go_quiet (fail)
  have hq3 : Below w2.heap.size w2 (w2.drewN nq) := below_drewN (Below.refl _ _) _
  replace e0 := keep hq3 e0
  replace e1 := keep hq3 e1
  replace e2 := keep hq3 e2
  replace e3 := keep hq3 e3
  replace e4 := keep hq3 e4
  replace e5 := keep hq3 e5
  replace e6 := keep hq3 e6
  replace e7 := keep hq3 e7
  replace c4 := keep hq3 c4
  have HU3 := Lib.hid (HU2.out.below hq3)
  have HB3 := Lib.hid (HB2.out.trans (hq3.mono HB2.out.size))
  clear hq3
  generalize w2.drewN nq = w3 at *
  have c5 := HU3.out.c5
  have gk := HU3.out.gc (t * 12 + gd) (by omega)
  have fG := HU3.out.fG
  have ht3 : (t : Int) < 3 := by omega
  have hgd12 : (gd : Int) < 12 := by omega
  have n2 := HU3.out.nWG
  have n3 := HU3.out.nSG
  have hnG : w.heap.size ≠ G := by have := HL.out; omega
  have hnG' : G ≠ w.heap.size := by have := HL.out; omega
  go_wp2_with fail
  have hq4 : Below w3.heap.size w3 w3.drew := (Below.refl _ _).drew
  have e0d := keep hq4 e0
  have e1d := keep hq4 e1
  have e3d := keep hq4 e3
  have e4d := keep hq4 e4
  have c4d := keep hq4 c4
  have c5d := keep hq4 c5
  have gkd := keep hq4 gk
  have HU4 := Lib.hid (HU3.out.below hq4)
  have HB4 := Lib.hid (HB3.out.trans (hq4.mono HB3.out.size))
  have fGd := HU4.out.fG
  clear hq4
  go_still_tail 12, (by kernel_rfl)
  change wpList _ _ _ _ _ w3.drew
  clear e0 e1 e3 e4 c4 c5 gk
  generalize w3.drew = w4 at *
  have s0 := HU4.out.s0
  have s3 := HU4.out.s3
  have s4 := HU4.out.s4
  have s5 := HU4.out.s5
  rw [h0] at s0
  go_wp2_with fail
  go_quiet (fail)
  go_wp2_with fail
  go_quiet (fail)
  go_wp2
  go_returns
  exact ⟨rfl, ((HU4.out.setG (t * 12 + gd) (by omega) (-1)).draw _).draw _, (((Kz.of_below (W := W) (S := S) (G := G) HB4.out).set (p := ⟨G, t * 12 + gd, none⟩) (Or.inr (Or.inr rfl)) _).draw _).draw _⟩

set_option maxHeartbeats 8000000 in
set_option maxRecDepth 100000 in
theorem note_prot_yes {W S G : Nat} {B a b : Int} {cs cg : Nat} {u : U} (t : Nat) (ht : t < 3) (e : Ev) (w : World) (h : UAt W S G B a b cs cg u w) (hk : e.nk = 5) (hs : e.slot = 1) (gd : Nat) (hgd : gd < 12) (hg : e.guard = (gd : Int)) (h0 : u.s 0 = 2) (h3 : decide (u.s 3 ≤ e.read) = true) (h4 : decide (0 ≤ u.s 4) = true) (h5 : decide (u.s 4 ≤ e.read) = true) :
    Calls Tryd.prog 41 #[.pointer (some ⟨W, 0, none⟩), .int .i64 t, .agg (nCells e)] w fun x w' => x = .returned (.tuple #[]) ∧ UAt W S G B a b cs cg (⟨u.s, upd (upd u.g (t * 12 + gd) (-1)) (t * 12 + gd) 1, u.n⟩) w' ∧ Kz W S G w w' := by
  have hb1 : Below w.heap.size w (w.alloc (.cells (nCells e) 51)) := by go_grown
  have hu1 := h.below hb1
  obtain ⟨hlW, hlS, hlG⟩ := h.lt
  have e0 : (w.alloc (.cells (nCells e) 51)).cell? ⟨w.heap.size, 0, none⟩ = some (.int .i64 e.nk) := by simp [go_sem, nCells]
  have e1 : (w.alloc (.cells (nCells e) 51)).cell? ⟨w.heap.size, 1, none⟩ = some (.int .i64 e.slot) := by simp [go_sem, nCells]
  have e2 : (w.alloc (.cells (nCells e) 51)).cell? ⟨w.heap.size, 2, none⟩ = some (.int .i64 e.life) := by simp [go_sem, nCells]
  have e3 : (w.alloc (.cells (nCells e) 51)).cell? ⟨w.heap.size, 3, none⟩ = some (.int .i64 e.guard) := by simp [go_sem, nCells]
  have e4 : (w.alloc (.cells (nCells e) 51)).cell? ⟨w.heap.size, 4, none⟩ = some (.int .i64 e.read) := by simp [go_sem, nCells]
  have e5 : (w.alloc (.cells (nCells e) 51)).cell? ⟨w.heap.size, 5, none⟩ = some (.int .i64 e.cls) := by simp [go_sem, nCells]
  have e6 : (w.alloc (.cells (nCells e) 51)).cell? ⟨w.heap.size, 6, none⟩ = some (.int .u64 e.n) := by simp [go_sem, nCells]
  have e7 : (w.alloc (.cells (nCells e) 51)).cell? ⟨w.heap.size, 7, none⟩ = some (.int .i64 e.code) := by simp [go_sem, nCells]
  rw [hk] at e0
  rw [hs] at e1
  rw [hg] at e3
  have HB1 := Lib.hid hb1
  have HU1 := Lib.hid hu1
  have HL := Lib.hid (show W < w.heap.size ∧ S < w.heap.size ∧ G < w.heap.size from ⟨hlW, hlS, hlG⟩)
  have c4 := hu1.c4
  have n1 := h.nWS
  clear h hb1 hu1 hlW hlS hlG
  go_enter Tryd.func41, Tryd.ntmps41
  go_wp2_with fail
  generalize w.alloc (.cells (nCells e) 51) = w1 at *
  go_quiet (fail)
  have hq2 : Below w1.heap.size w1 (w1.drewN nq) := below_drewN (Below.refl _ _) _
  replace e0 := keep hq2 e0
  replace e1 := keep hq2 e1
  replace e2 := keep hq2 e2
  replace e3 := keep hq2 e3
  replace e4 := keep hq2 e4
  replace e5 := keep hq2 e5
  replace e6 := keep hq2 e6
  replace e7 := keep hq2 e7
  replace c4 := keep hq2 c4
  have HU2 := Lib.hid (HU1.out.below hq2)
  have HB2 := Lib.hid (HB1.out.trans (hq2.mono HB1.out.size))
  clear hq2
  generalize w1.drewN nq = w2 at *
  go_wp2_with fail
  go_quiet (fail)
  have hq3 : Below w2.heap.size w2 (w2.drewN nq) := below_drewN (Below.refl _ _) _
  replace e0 := keep hq3 e0
  replace e1 := keep hq3 e1
  replace e2 := keep hq3 e2
  replace e3 := keep hq3 e3
  replace e4 := keep hq3 e4
  replace e5 := keep hq3 e5
  replace e6 := keep hq3 e6
  replace e7 := keep hq3 e7
  replace c4 := keep hq3 c4
  have HU3 := Lib.hid (HU2.out.below hq3)
  have HB3 := Lib.hid (HB2.out.trans (hq3.mono HB2.out.size))
  clear hq3
  generalize w2.drewN nq = w3 at *
  have c5 := HU3.out.c5
  have gk := HU3.out.gc (t * 12 + gd) (by omega)
  have fG := HU3.out.fG
  have ht3 : (t : Int) < 3 := by omega
  have hgd12 : (gd : Int) < 12 := by omega
  have n2 := HU3.out.nWG
  have n3 := HU3.out.nSG
  have hnG : w.heap.size ≠ G := by have := HL.out; omega
  have hnG' : G ≠ w.heap.size := by have := HL.out; omega
  go_wp2_with fail
  have hq4 : Below w3.heap.size w3 w3.drew := (Below.refl _ _).drew
  have e0d := keep hq4 e0
  have e1d := keep hq4 e1
  have e3d := keep hq4 e3
  have e4d := keep hq4 e4
  have c4d := keep hq4 c4
  have c5d := keep hq4 c5
  have gkd := keep hq4 gk
  have HU4 := Lib.hid (HU3.out.below hq4)
  have HB4 := Lib.hid (HB3.out.trans (hq4.mono HB3.out.size))
  have fGd := HU4.out.fG
  clear hq4
  go_still_tail 12, (by kernel_rfl)
  change wpList _ _ _ _ _ w3.drew
  clear e0 e1 e3 e4 c4 c5 gk
  generalize w3.drew = w4 at *
  have s0 := HU4.out.s0
  have s3 := HU4.out.s3
  have s4 := HU4.out.s4
  have s5 := HU4.out.s5
  rw [h0] at s0
  clear s3 s4 s5 s0
  go_wp2_with fail
  have HU5 := Lib.hid (HU4.out.setG (t * 12 + gd) (by omega) (-1))
  have HK5 := Lib.hid ((Kz.of_below (W := W) (S := S) (G := G) HB4.out).set (p := ⟨G, t * 12 + gd, none⟩) (Or.inr (Or.inr rfl)) (.int .i64 (-1)))
  have e0 : (w4.setCell ⟨G, t * 12 + gd, none⟩ (.int .i64 (-1))).cell? ⟨w.heap.size, 0, none⟩ = _ := (cset_o (blk_ne hnG')).trans e0d
  have e1 : (w4.setCell ⟨G, t * 12 + gd, none⟩ (.int .i64 (-1))).cell? ⟨w.heap.size, 1, none⟩ = _ := (cset_o (blk_ne hnG')).trans e1d
  have e3 : (w4.setCell ⟨G, t * 12 + gd, none⟩ (.int .i64 (-1))).cell? ⟨w.heap.size, 3, none⟩ = _ := (cset_o (blk_ne hnG')).trans e3d
  have e4 : (w4.setCell ⟨G, t * 12 + gd, none⟩ (.int .i64 (-1))).cell? ⟨w.heap.size, 4, none⟩ = _ := (cset_o (blk_ne hnG')).trans e4d
  clear e0d e1d e3d e4d c4d c5d gkd fGd
  generalize w4.setCell ⟨G, t * 12 + gd, none⟩ (.int .i64 (-1)) = w5 at *
  have s0 : w5.cell? ⟨S, 0, none⟩ = some (.int .i64 2) := by have := HU5.out.s0; rw [show (⟨u.s, upd u.g (t * 12 + gd) (-1), u.n⟩ : U).s 0 = 2 from h0] at this; exact this
  have s3 : w5.cell? ⟨S, 3, none⟩ = some (.int .i64 (u.s 3)) := HU5.out.s3
  have s4 : w5.cell? ⟨S, 4, none⟩ = some (.int .i64 (u.s 4)) := HU5.out.s4
  have c5 := HU5.out.c5
  have gk := HU5.out.gc (t * 12 + gd) (by omega)
  have HB5 := HK5
  go_quiet (fail)
  have hq6 : Below w5.heap.size w5 (w5.drewN nq) := below_drewN (Below.refl _ _) _
  replace e0 := keep hq6 e0
  replace e1 := keep hq6 e1
  replace e3 := keep hq6 e3
  replace e4 := keep hq6 e4
  replace s0 := keep hq6 s0
  replace s3 := keep hq6 s3
  replace s4 := keep hq6 s4
  replace c5 := keep hq6 c5
  replace gk := keep hq6 gk
  have HU6 := Lib.hid (HU5.out.below hq6)
  have HK6 := Lib.hid (HK5.out.draw nq)
  clear hq6
  generalize w5.drewN nq = w6 at *
  go_wp2_with fail
  go_quiet (fail)
  have hq7 : Below w6.heap.size w6 (w6.drewN nq) := below_drewN (Below.refl _ _) _
  replace e0 := keep hq7 e0
  replace e1 := keep hq7 e1
  replace e3 := keep hq7 e3
  replace e4 := keep hq7 e4
  replace s0 := keep hq7 s0
  replace s3 := keep hq7 s3
  replace s4 := keep hq7 s4
  replace c5 := keep hq7 c5
  replace gk := keep hq7 gk
  have HU7 := Lib.hid (HU6.out.below hq7)
  have HK7 := Lib.hid (HK6.out.draw nq)
  clear hq7
  generalize w6.drewN nq = w7 at *
  go_wp2_with fail
  have fG := HU7.out.fG
  have hq8 : Below w7.heap.size w7 w7.drew := (Below.refl _ _).drew
  have e0d := keep hq8 e0
  have e1d := keep hq8 e1
  have e3d := keep hq8 e3
  have e4d := keep hq8 e4
  have c5d := keep hq8 c5
  have gkd := keep hq8 gk
  have HU8 := Lib.hid (HU7.out.below hq8)
  have HK8 := Lib.hid (HK7.out.drew)
  have fGd := HU8.out.fG
  clear hq8
  go_still_tail 11, (by kernel_rfl)
  change wpList _ _ _ _ _ w7.drew
  clear e0 e1 e3 e4 c5 gk
  generalize w7.drew = w8 at *
  go_wp2
  go_returns
  exact ⟨rfl, HU8.out.setG (t * 12 + gd) (by omega) 1, HK8.out.set (p := ⟨G, t * 12 + gd, none⟩) (Or.inr (Or.inr rfl)) _⟩

end Go.Proofs.YtejfcmgnacimgaaDoor
