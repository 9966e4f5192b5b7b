/- The document's own Next, by cases. -/
import Derived.Test.YtejfcmgnacimgaaDoorT5b
namespace Go.Proofs.YtejfcmgnacimgaaDoor
open Go.RowKit
set_option linter.unusedVariables false
set_option linter.unusedSimpArgs false

set_option maxHeartbeats 8000000 in
set_option maxRecDepth 100000 in
theorem next_note {W S G : Nat} {B a b : Int} {cs cg : Nat} {u : U} (t : Nat) (ht : t < 3) (e : Ev) (hth : e.th = (t : Int)) (r : Int) (w : World) (h : UAt W S G B a b cs cg u w)
    (HR : ∀ w, UAt W S G B a b cs cg u w → Calls Tryd.prog 40 #[.pointer (some ⟨W, 0, none⟩), .agg (evCells e)] w fun x w' => x = .returned (.int .i64 r) ∧ Below w.heap.size w w') (u' : U)
    (HN : ∀ w, UAt W S G B a b cs cg u w → Calls Tryd.prog 41 #[.pointer (some ⟨W, 0, none⟩), .int .i64 e.th, .agg (nCells e)] w fun x w' => x = .returned (.tuple #[]) ∧ UAt W S G B a b cs cg u' w' ∧ Kz W S G w w')
    (hk : e.kind = 5) (hn : -1000 ≤ u'.n ∧ u'.n ≤ 1000) :
    Calls Tryd.prog 24 #[.pointer (some ⟨W, 0, none⟩), .agg (evCells e)] w fun x w' => x = .returned (.int .i64 r) ∧ UAt W S G B a b cs cg (⟨u'.s, u'.g, u'.n + 1⟩) w' ∧ Kz W S G w w' := by
  have hb1 : Below w.heap.size w (w.alloc (.cells (evCells e) 54)) := by go_grown
  have hu1 := h.below hb1
  obtain ⟨hlW, hlS, hlG⟩ := h.lt
  have e0 : (w.alloc (.cells (evCells e) 54)).cell? ⟨w.heap.size, 0, none⟩ = some (.int .i64 e.seq) := by simp [go_sem, evCells]
  have e1 : (w.alloc (.cells (evCells e) 54)).cell? ⟨w.heap.size, 1, none⟩ = some (.int .i64 e.th) := by simp [go_sem, evCells]
  have e2 : (w.alloc (.cells (evCells e) 54)).cell? ⟨w.heap.size, 2, none⟩ = some (.int .i64 e.by_) := by simp [go_sem, evCells]
  have e3 : (w.alloc (.cells (evCells e) 54)).cell? ⟨w.heap.size, 3, none⟩ = some (.int .i64 e.kind) := by simp [go_sem, evCells]
  have e4 : (w.alloc (.cells (evCells e) 54)).cell? ⟨w.heap.size, 4, none⟩ = some (.int .i64 e.at_) := by simp [go_sem, evCells]
  have e5 : (w.alloc (.cells (evCells e) 54)).cell? ⟨w.heap.size, 5, none⟩ = some (.int .u64 e.old) := by simp [go_sem, evCells]
  have e6 : (w.alloc (.cells (evCells e) 54)).cell? ⟨w.heap.size, 6, none⟩ = some (.int .u64 e.new) := by simp [go_sem, evCells]
  have e7 : (w.alloc (.cells (evCells e) 54)).cell? ⟨w.heap.size, 7, none⟩ = some (.bool e.ok) := by simp [go_sem, evCells]
  have e8 : (w.alloc (.cells (evCells e) 54)).cell? ⟨w.heap.size, 8, none⟩ = some (.int .i64 e.nk) := by simp [go_sem, evCells]
  have e9 : (w.alloc (.cells (evCells e) 54)).cell? ⟨w.heap.size, 9, none⟩ = some (.int .i64 e.slot) := by simp [go_sem, evCells]
  have e10 : (w.alloc (.cells (evCells e) 54)).cell? ⟨w.heap.size, 10, none⟩ = some (.int .i64 e.life) := by simp [go_sem, evCells]
  have e11 : (w.alloc (.cells (evCells e) 54)).cell? ⟨w.heap.size, 11, none⟩ = some (.int .i64 e.guard) := by simp [go_sem, evCells]
  have e12 : (w.alloc (.cells (evCells e) 54)).cell? ⟨w.heap.size, 12, none⟩ = some (.int .i64 e.read) := by simp [go_sem, evCells]
  have e13 : (w.alloc (.cells (evCells e) 54)).cell? ⟨w.heap.size, 13, none⟩ = some (.int .i64 e.cls) := by simp [go_sem, evCells]
  have e14 : (w.alloc (.cells (evCells e) 54)).cell? ⟨w.heap.size, 14, none⟩ = some (.int .u64 e.n) := by simp [go_sem, evCells]
  have e15 : (w.alloc (.cells (evCells e) 54)).cell? ⟨w.heap.size, 15, none⟩ = some (.int .i64 e.code) := by simp [go_sem, evCells]
  have HB1 := Lib.hid hb1
  have HU1 := Lib.hid hu1
  have HL := Lib.hid (show W < w.heap.size ∧ S < w.heap.size ∧ G < w.heap.size from ⟨hlW, hlS, hlG⟩)
  have c4 := hu1.c4
  have c5 := hu1.c5
  have n1 := h.nWS
  have d1 : decide (e.th < 0) = false := by simp; omega
  have d2 : decide (3 ≤ e.th) = false := by simp; omega
  have d3 : decide (e.kind < 1) = false := by rw [hk]; rfl
  have d4 : decide (5 < e.kind) = false := by rw [hk]; rfl
  have k5 : (e.kind == 5) = true := by rw [hk]; rfl
  obtain ⟨l0, l1⟩ := hn
  clear hth hk ht
  clear h hb1 hu1 hlW hlS hlG
  go_enter Tryd.func24, Tryd.ntmps24
  go_wp2_with fail
  generalize w.alloc (.cells (evCells e) 54) = w1 at *
  go_quiet (fail)
  have hq2 : Below w1.heap.size w1 (w1.drewN nq) := below_drewN (Below.refl _ _) _
  replace e0 := keep hq2 e0
  replace e1 := keep hq2 e1
  replace e2 := keep hq2 e2
  replace e3 := keep hq2 e3
  replace e4 := keep hq2 e4
  replace e5 := keep hq2 e5
  replace e6 := keep hq2 e6
  replace e7 := keep hq2 e7
  replace e8 := keep hq2 e8
  replace e9 := keep hq2 e9
  replace e10 := keep hq2 e10
  replace e11 := keep hq2 e11
  replace e12 := keep hq2 e12
  replace e13 := keep hq2 e13
  replace e14 := keep hq2 e14
  replace e15 := keep hq2 e15
  replace c4 := keep hq2 c4
  replace c5 := keep hq2 c5
  have HU2 := Lib.hid (HU1.out.below hq2)
  have HB2 := Lib.hid (HB1.out.trans (hq2.mono HB1.out.size))
  clear hq2
  generalize w1.drewN nq = w2 at *
  go_wp2_with fail
  refine (HR _ HU2.out).mono ?_
  rintro x w3 ⟨rfl, hb3⟩
  replace e0 := keep hb3 e0
  replace e1 := keep hb3 e1
  replace e2 := keep hb3 e2
  replace e3 := keep hb3 e3
  replace e4 := keep hb3 e4
  replace e5 := keep hb3 e5
  replace e6 := keep hb3 e6
  replace e7 := keep hb3 e7
  replace e8 := keep hb3 e8
  replace e9 := keep hb3 e9
  replace e10 := keep hb3 e10
  replace e11 := keep hb3 e11
  replace e12 := keep hb3 e12
  replace e13 := keep hb3 e13
  replace e14 := keep hb3 e14
  replace e15 := keep hb3 e15
  replace c4 := keep hb3 c4
  replace c5 := keep hb3 c5
  have HU3 := Lib.hid (HU2.out.below hb3)
  have HB3 := Lib.hid (HB2.out.trans (hb3.mono HB2.out.size))
  clear hb3
  go_wp2_with fail
  refine (HN _ HU3.out).mono ?_
  rintro x w4 ⟨rfl, hu4, hk4⟩
  have c6 := hu4.c6
  have fW := hu4.fW
  have HU4 := Lib.hid hu4
  have HK4 := Lib.hid ((Kz.of_below (W := W) (S := S) (G := G) HB3.out).trans hk4)
  clear hu4 hk4
  go_wp2
  go_returns
  exact ⟨rfl, HU4.out.setN _, HK4.out.set (p := ⟨W, 6, none⟩) (Or.inl rfl) _⟩

set_option maxHeartbeats 8000000 in
set_option maxRecDepth 100000 in
theorem next_load {W S G : Nat} {B a b : Int} {cs cg : Nat} {u : U} (t : Nat) (ht : t < 3) (e : Ev) (hth : e.th = (t : Int)) (r : Int) (w : World) (h : UAt W S G B a b cs cg u w)
    (HR : ∀ w, UAt W S G B a b cs cg u w → Calls Tryd.prog 40 #[.pointer (some ⟨W, 0, none⟩), .agg (evCells e)] w fun x w' => x = .returned (.int .i64 r) ∧ Below w.heap.size w w') (hk : e.kind = 1) (hn : -1000 ≤ u.n ∧ u.n ≤ 1000) :
    Calls Tryd.prog 24 #[.pointer (some ⟨W, 0, none⟩), .agg (evCells e)] w fun x w' => x = .returned (.int .i64 r) ∧ UAt W S G B a b cs cg (⟨u.s, u.g, u.n + 1⟩) w' ∧ Kz W S G w w' := by
  have hb1 : Below w.heap.size w (w.alloc (.cells (evCells e) 54)) := by go_grown
  have hu1 := h.below hb1
  obtain ⟨hlW, hlS, hlG⟩ := h.lt
  have e0 : (w.alloc (.cells (evCells e) 54)).cell? ⟨w.heap.size, 0, none⟩ = some (.int .i64 e.seq) := by simp [go_sem, evCells]
  have e1 : (w.alloc (.cells (evCells e) 54)).cell? ⟨w.heap.size, 1, none⟩ = some (.int .i64 e.th) := by simp [go_sem, evCells]
  have e2 : (w.alloc (.cells (evCells e) 54)).cell? ⟨w.heap.size, 2, none⟩ = some (.int .i64 e.by_) := by simp [go_sem, evCells]
  have e3 : (w.alloc (.cells (evCells e) 54)).cell? ⟨w.heap.size, 3, none⟩ = some (.int .i64 e.kind) := by simp [go_sem, evCells]
  have e4 : (w.alloc (.cells (evCells e) 54)).cell? ⟨w.heap.size, 4, none⟩ = some (.int .i64 e.at_) := by simp [go_sem, evCells]
  have e5 : (w.alloc (.cells (evCells e) 54)).cell? ⟨w.heap.size, 5, none⟩ = some (.int .u64 e.old) := by simp [go_sem, evCells]
  have e6 : (w.alloc (.cells (evCells e) 54)).cell? ⟨w.heap.size, 6, none⟩ = some (.int .u64 e.new) := by simp [go_sem, evCells]
  have e7 : (w.alloc (.cells (evCells e) 54)).cell? ⟨w.heap.size, 7, none⟩ = some (.bool e.ok) := by simp [go_sem, evCells]
  have e8 : (w.alloc (.cells (evCells e) 54)).cell? ⟨w.heap.size, 8, none⟩ = some (.int .i64 e.nk) := by simp [go_sem, evCells]
  have e9 : (w.alloc (.cells (evCells e) 54)).cell? ⟨w.heap.size, 9, none⟩ = some (.int .i64 e.slot) := by simp [go_sem, evCells]
  have e10 : (w.alloc (.cells (evCells e) 54)).cell? ⟨w.heap.size, 10, none⟩ = some (.int .i64 e.life) := by simp [go_sem, evCells]
  have e11 : (w.alloc (.cells (evCells e) 54)).cell? ⟨w.heap.size, 11, none⟩ = some (.int .i64 e.guard) := by simp [go_sem, evCells]
  have e12 : (w.alloc (.cells (evCells e) 54)).cell? ⟨w.heap.size, 12, none⟩ = some (.int .i64 e.read) := by simp [go_sem, evCells]
  have e13 : (w.alloc (.cells (evCells e) 54)).cell? ⟨w.heap.size, 13, none⟩ = some (.int .i64 e.cls) := by simp [go_sem, evCells]
  have e14 : (w.alloc (.cells (evCells e) 54)).cell? ⟨w.heap.size, 14, none⟩ = some (.int .u64 e.n) := by simp [go_sem, evCells]
  have e15 : (w.alloc (.cells (evCells e) 54)).cell? ⟨w.heap.size, 15, none⟩ = some (.int .i64 e.code) := by simp [go_sem, evCells]
  have HB1 := Lib.hid hb1
  have HU1 := Lib.hid hu1
  have HL := Lib.hid (show W < w.heap.size ∧ S < w.heap.size ∧ G < w.heap.size from ⟨hlW, hlS, hlG⟩)
  have c4 := hu1.c4
  have c5 := hu1.c5
  have n1 := h.nWS
  have d1 : decide (e.th < 0) = false := by simp; omega
  have d2 : decide (3 ≤ e.th) = false := by simp; omega
  have d3 : decide (e.kind < 1) = false := by rw [hk]; rfl
  have d4 : decide (5 < e.kind) = false := by rw [hk]; rfl
  have k5 : (e.kind == 5) = false := by rw [hk]; rfl
  have k2 : (e.kind == 2) = false := by rw [hk]; rfl
  have k3 : (e.kind == 3) = false := by rw [hk]; rfl
  obtain ⟨l0, l1⟩ := hn
  clear hth hk ht
  clear h hb1 hu1 hlW hlS hlG
  go_enter Tryd.func24, Tryd.ntmps24
  go_wp2_with fail
  generalize w.alloc (.cells (evCells e) 54) = w1 at *
  go_quiet (fail)
  have hq2 : Below w1.heap.size w1 (w1.drewN nq) := below_drewN (Below.refl _ _) _
  replace e0 := keep hq2 e0
  replace e1 := keep hq2 e1
  replace e2 := keep hq2 e2
  replace e3 := keep hq2 e3
  replace e4 := keep hq2 e4
  replace e5 := keep hq2 e5
  replace e6 := keep hq2 e6
  replace e7 := keep hq2 e7
  replace e8 := keep hq2 e8
  replace e9 := keep hq2 e9
  replace e10 := keep hq2 e10
  replace e11 := keep hq2 e11
  replace e12 := keep hq2 e12
  replace e13 := keep hq2 e13
  replace e14 := keep hq2 e14
  replace e15 := keep hq2 e15
  replace c4 := keep hq2 c4
  replace c5 := keep hq2 c5
  have HU2 := Lib.hid (HU1.out.below hq2)
  have HB2 := Lib.hid (HB1.out.trans (hq2.mono HB1.out.size))
  clear hq2
  generalize w1.drewN nq = w2 at *
  go_wp2_with fail
  refine (HR _ HU2.out).mono ?_
  rintro x w3 ⟨rfl, hb3⟩
  replace e0 := keep hb3 e0
  replace e1 := keep hb3 e1
  replace e2 := keep hb3 e2
  replace e3 := keep hb3 e3
  replace e4 := keep hb3 e4
  replace e5 := keep hb3 e5
  replace e6 := keep hb3 e6
  replace e7 := keep hb3 e7
  replace e8 := keep hb3 e8
  replace e9 := keep hb3 e9
  replace e10 := keep hb3 e10
  replace e11 := keep hb3 e11
  replace e12 := keep hb3 e12
  replace e13 := keep hb3 e13
  replace e14 := keep hb3 e14
  replace e15 := keep hb3 e15
  replace c4 := keep hb3 c4
  replace c5 := keep hb3 c5
  have HU3 := Lib.hid (HU2.out.below hb3)
  have HB3 := Lib.hid (HB2.out.trans (hb3.mono HB2.out.size))
  clear hb3
  have c6 := HU3.out.c6
  have fW := HU3.out.fW
  go_wp2
  go_returns
  exact ⟨rfl, HU3.out.setN _, (Kz.of_below (W := W) (S := S) (G := G) HB3.out).set (p := ⟨W, 6, none⟩) (Or.inl rfl) _⟩

set_option maxHeartbeats 8000000 in
set_option maxRecDepth 100000 in
theorem next_fail {W S G : Nat} {B a b : Int} {cs cg : Nat} {u : U} (t : Nat) (ht : t < 3) (e : Ev) (hth : e.th = (t : Int)) (r : Int) (w : World) (h : UAt W S G B a b cs cg u w)
    (HR : ∀ w, UAt W S G B a b cs cg u w → Calls Tryd.prog 40 #[.pointer (some ⟨W, 0, none⟩), .agg (evCells e)] w fun x w' => x = .returned (.int .i64 r) ∧ Below w.heap.size w w') (hk : e.kind = 3) (hok : e.ok = false) (hn : -1000 ≤ u.n ∧ u.n ≤ 1000) :
    Calls Tryd.prog 24 #[.pointer (some ⟨W, 0, none⟩), .agg (evCells e)] w fun x w' => x = .returned (.int .i64 r) ∧ UAt W S G B a b cs cg (⟨u.s, u.g, u.n + 1⟩) w' ∧ Kz W S G w w' := by
  have hb1 : Below w.heap.size w (w.alloc (.cells (evCells e) 54)) := by go_grown
  have hu1 := h.below hb1
  obtain ⟨hlW, hlS, hlG⟩ := h.lt
  have e0 : (w.alloc (.cells (evCells e) 54)).cell? ⟨w.heap.size, 0, none⟩ = some (.int .i64 e.seq) := by simp [go_sem, evCells]
  have e1 : (w.alloc (.cells (evCells e) 54)).cell? ⟨w.heap.size, 1, none⟩ = some (.int .i64 e.th) := by simp [go_sem, evCells]
  have e2 : (w.alloc (.cells (evCells e) 54)).cell? ⟨w.heap.size, 2, none⟩ = some (.int .i64 e.by_) := by simp [go_sem, evCells]
  have e3 : (w.alloc (.cells (evCells e) 54)).cell? ⟨w.heap.size, 3, none⟩ = some (.int .i64 e.kind) := by simp [go_sem, evCells]
  have e4 : (w.alloc (.cells (evCells e) 54)).cell? ⟨w.heap.size, 4, none⟩ = some (.int .i64 e.at_) := by simp [go_sem, evCells]
  have e5 : (w.alloc (.cells (evCells e) 54)).cell? ⟨w.heap.size, 5, none⟩ = some (.int .u64 e.old) := by simp [go_sem, evCells]
  have e6 : (w.alloc (.cells (evCells e) 54)).cell? ⟨w.heap.size, 6, none⟩ = some (.int .u64 e.new) := by simp [go_sem, evCells]
  have e7 : (w.alloc (.cells (evCells e) 54)).cell? ⟨w.heap.size, 7, none⟩ = some (.bool e.ok) := by simp [go_sem, evCells]
  have e8 : (w.alloc (.cells (evCells e) 54)).cell? ⟨w.heap.size, 8, none⟩ = some (.int .i64 e.nk) := by simp [go_sem, evCells]
  have e9 : (w.alloc (.cells (evCells e) 54)).cell? ⟨w.heap.size, 9, none⟩ = some (.int .i64 e.slot) := by simp [go_sem, evCells]
  have e10 : (w.alloc (.cells (evCells e) 54)).cell? ⟨w.heap.size, 10, none⟩ = some (.int .i64 e.life) := by simp [go_sem, evCells]
  have e11 : (w.alloc (.cells (evCells e) 54)).cell? ⟨w.heap.size, 11, none⟩ = some (.int .i64 e.guard) := by simp [go_sem, evCells]
  have e12 : (w.alloc (.cells (evCells e) 54)).cell? ⟨w.heap.size, 12, none⟩ = some (.int .i64 e.read) := by simp [go_sem, evCells]
  have e13 : (w.alloc (.cells (evCells e) 54)).cell? ⟨w.heap.size, 13, none⟩ = some (.int .i64 e.cls) := by simp [go_sem, evCells]
  have e14 : (w.alloc (.cells (evCells e) 54)).cell? ⟨w.heap.size, 14, none⟩ = some (.int .u64 e.n) := by simp [go_sem, evCells]
  have e15 : (w.alloc (.cells (evCells e) 54)).cell? ⟨w.heap.size, 15, none⟩ = some (.int .i64 e.code) := by simp [go_sem, evCells]
  have HB1 := Lib.hid hb1
  have HU1 := Lib.hid hu1
  have HL := Lib.hid (show W < w.heap.size ∧ S < w.heap.size ∧ G < w.heap.size from ⟨hlW, hlS, hlG⟩)
  have c4 := hu1.c4
  have c5 := hu1.c5
  have n1 := h.nWS
  have d1 : decide (e.th < 0) = false := by simp; omega
  have d2 : decide (3 ≤ e.th) = false := by simp; omega
  have d3 : decide (e.kind < 1) = false := by rw [hk]; rfl
  have d4 : decide (5 < e.kind) = false := by rw [hk]; rfl
  have k5 : (e.kind == 5) = false := by rw [hk]; rfl
  have k2 : (e.kind == 2) = false := by rw [hk]; rfl
  have k3 : (e.kind == 3) = true := by rw [hk]; rfl
  have HOK := Lib.hid hok
  clear hok
  obtain ⟨l0, l1⟩ := hn
  clear hth hk ht
  clear h hb1 hu1 hlW hlS hlG
  go_enter Tryd.func24, Tryd.ntmps24
  go_wp2_with fail
  generalize w.alloc (.cells (evCells e) 54) = w1 at *
  go_quiet (fail)
  have hq2 : Below w1.heap.size w1 (w1.drewN nq) := below_drewN (Below.refl _ _) _
  replace e0 := keep hq2 e0
  replace e1 := keep hq2 e1
  replace e2 := keep hq2 e2
  replace e3 := keep hq2 e3
  replace e4 := keep hq2 e4
  replace e5 := keep hq2 e5
  replace e6 := keep hq2 e6
  replace e7 := keep hq2 e7
  replace e8 := keep hq2 e8
  replace e9 := keep hq2 e9
  replace e10 := keep hq2 e10
  replace e11 := keep hq2 e11
  replace e12 := keep hq2 e12
  replace e13 := keep hq2 e13
  replace e14 := keep hq2 e14
  replace e15 := keep hq2 e15
  replace c4 := keep hq2 c4
  replace c5 := keep hq2 c5
  have HU2 := Lib.hid (HU1.out.below hq2)
  have HB2 := Lib.hid (HB1.out.trans (hq2.mono HB1.out.size))
  clear hq2
  generalize w1.drewN nq = w2 at *
  go_wp2_with fail
  refine (HR _ HU2.out).mono ?_
  rintro x w3 ⟨rfl, hb3⟩
  replace e0 := keep hb3 e0
  replace e1 := keep hb3 e1
  replace e2 := keep hb3 e2
  replace e3 := keep hb3 e3
  replace e4 := keep hb3 e4
  replace e5 := keep hb3 e5
  replace e6 := keep hb3 e6
  replace e7 := keep hb3 e7
  replace e8 := keep hb3 e8
  replace e9 := keep hb3 e9
  replace e10 := keep hb3 e10
  replace e11 := keep hb3 e11
  replace e12 := keep hb3 e12
  replace e13 := keep hb3 e13
  replace e14 := keep hb3 e14
  replace e15 := keep hb3 e15
  replace c4 := keep hb3 c4
  replace c5 := keep hb3 c5
  have HU3 := Lib.hid (HU2.out.below hb3)
  have HB3 := Lib.hid (HB2.out.trans (hb3.mono HB2.out.size))
  clear hb3
  rw [HOK.out] at e7
  have c6 := HU3.out.c6
  have fW := HU3.out.fW
  go_wp2
  go_returns
  exact ⟨rfl, HU3.out.setN _, (Kz.of_below (W := W) (S := S) (G := G) HB3.out).set (p := ⟨W, 6, none⟩) (Or.inl rfl) _⟩

set_option maxHeartbeats 8000000 in
set_option maxRecDepth 100000 in
theorem next_pub {W S G : Nat} {B a b : Int} {cs cg : Nat} {u : U} (t : Nat) (ht : t < 3) (e : Ev) (hth : e.th = (t : Int)) (r : Int) (w : World) (h : UAt W S G B a b cs cg u w)
    (HR : ∀ w, UAt W S G B a b cs cg u w → Calls Tryd.prog 40 #[.pointer (some ⟨W, 0, none⟩), .agg (evCells e)] w fun x w' => x = .returned (.int .i64 r) ∧ Below w.heap.size w w') (he : e.Ok) (hk : e.kind = 3) (hok : e.ok = true) (hby : e.by_ = 1) (hnew : e.new = 1) (hf : (fndS B a b e.at_).1 = 0) (h0 : u.s 0 = 1) (h2 : u.s 2 = (t : Int)) (hn : -1000 ≤ u.n ∧ u.n ≤ 1000) :
    Calls Tryd.prog 24 #[.pointer (some ⟨W, 0, none⟩), .agg (evCells e)] w fun x w' => x = .returned (.int .i64 r) ∧ UAt W S G B a b cs cg (⟨(pubU u).s, u.g, u.n + 1⟩) w' ∧ Kz W S G w w' := by
  have hb1 : Below w.heap.size w (w.alloc (.cells (evCells e) 54)) := by go_grown
  have hu1 := h.below hb1
  obtain ⟨hlW, hlS, hlG⟩ := h.lt
  have e0 : (w.alloc (.cells (evCells e) 54)).cell? ⟨w.heap.size, 0, none⟩ = some (.int .i64 e.seq) := by simp [go_sem, evCells]
  have e1 : (w.alloc (.cells (evCells e) 54)).cell? ⟨w.heap.size, 1, none⟩ = some (.int .i64 e.th) := by simp [go_sem, evCells]
  have e2 : (w.alloc (.cells (evCells e) 54)).cell? ⟨w.heap.size, 2, none⟩ = some (.int .i64 e.by_) := by simp [go_sem, evCells]
  have e3 : (w.alloc (.cells (evCells e) 54)).cell? ⟨w.heap.size, 3, none⟩ = some (.int .i64 e.kind) := by simp [go_sem, evCells]
  have e4 : (w.alloc (.cells (evCells e) 54)).cell? ⟨w.heap.size, 4, none⟩ = some (.int .i64 e.at_) := by simp [go_sem, evCells]
  have e5 : (w.alloc (.cells (evCells e) 54)).cell? ⟨w.heap.size, 5, none⟩ = some (.int .u64 e.old) := by simp [go_sem, evCells]
  have e6 : (w.alloc (.cells (evCells e) 54)).cell? ⟨w.heap.size, 6, none⟩ = some (.int .u64 e.new) := by simp [go_sem, evCells]
  have e7 : (w.alloc (.cells (evCells e) 54)).cell? ⟨w.heap.size, 7, none⟩ = some (.bool e.ok) := by simp [go_sem, evCells]
  have e8 : (w.alloc (.cells (evCells e) 54)).cell? ⟨w.heap.size, 8, none⟩ = some (.int .i64 e.nk) := by simp [go_sem, evCells]
  have e9 : (w.alloc (.cells (evCells e) 54)).cell? ⟨w.heap.size, 9, none⟩ = some (.int .i64 e.slot) := by simp [go_sem, evCells]
  have e10 : (w.alloc (.cells (evCells e) 54)).cell? ⟨w.heap.size, 10, none⟩ = some (.int .i64 e.life) := by simp [go_sem, evCells]
  have e11 : (w.alloc (.cells (evCells e) 54)).cell? ⟨w.heap.size, 11, none⟩ = some (.int .i64 e.guard) := by simp [go_sem, evCells]
  have e12 : (w.alloc (.cells (evCells e) 54)).cell? ⟨w.heap.size, 12, none⟩ = some (.int .i64 e.read) := by simp [go_sem, evCells]
  have e13 : (w.alloc (.cells (evCells e) 54)).cell? ⟨w.heap.size, 13, none⟩ = some (.int .i64 e.cls) := by simp [go_sem, evCells]
  have e14 : (w.alloc (.cells (evCells e) 54)).cell? ⟨w.heap.size, 14, none⟩ = some (.int .u64 e.n) := by simp [go_sem, evCells]
  have e15 : (w.alloc (.cells (evCells e) 54)).cell? ⟨w.heap.size, 15, none⟩ = some (.int .i64 e.code) := by simp [go_sem, evCells]
  have HB1 := Lib.hid hb1
  have HU1 := Lib.hid hu1
  have HL := Lib.hid (show W < w.heap.size ∧ S < w.heap.size ∧ G < w.heap.size from ⟨hlW, hlS, hlG⟩)
  have c4 := hu1.c4
  have c5 := hu1.c5
  have n1 := h.nWS
  have d1 : decide (e.th < 0) = false := by simp; omega
  have d2 : decide (3 ≤ e.th) = false := by simp; omega
  have d3 : decide (e.kind < 1) = false := by rw [hk]; rfl
  have d4 : decide (5 < e.kind) = false := by rw [hk]; rfl
  have k5 : (e.kind == 5) = false := by rw [hk]; rfl
  have k2 : (e.kind == 2) = false := by rw [hk]; rfl
  have k3 : (e.kind == 3) = true := by rw [hk]; rfl
  have by1 : (e.by_ == 1) = true := by rw [hby]; rfl
  have HOK := Lib.hid hok
  have HNEW := Lib.hid hnew
  have HTH := Lib.hid hth
  have H02 := Lib.hid (And.intro h0 h2)
  have HFD := fun w h => find_any W B a b 1 e.at_ he.at_ w h
  rw [hf] at HFD
  obtain ⟨l0, l1⟩ := hn
  clear hth hk ht hok hby hnew hf h0 h2
  clear h hb1 hu1 hlW hlS hlG
  go_enter Tryd.func24, Tryd.ntmps24
  go_wp2_with fail
  generalize w.alloc (.cells (evCells e) 54) = w1 at *
  go_quiet (fail)
  have hq2 : Below w1.heap.size w1 (w1.drewN nq) := below_drewN (Below.refl _ _) _
  replace e0 := keep hq2 e0
  replace e1 := keep hq2 e1
  replace e2 := keep hq2 e2
  replace e3 := keep hq2 e3
  replace e4 := keep hq2 e4
  replace e5 := keep hq2 e5
  replace e6 := keep hq2 e6
  replace e7 := keep hq2 e7
  replace e8 := keep hq2 e8
  replace e9 := keep hq2 e9
  replace e10 := keep hq2 e10
  replace e11 := keep hq2 e11
  replace e12 := keep hq2 e12
  replace e13 := keep hq2 e13
  replace e14 := keep hq2 e14
  replace e15 := keep hq2 e15
  replace c4 := keep hq2 c4
  replace c5 := keep hq2 c5
  have HU2 := Lib.hid (HU1.out.below hq2)
  have HB2 := Lib.hid (HB1.out.trans (hq2.mono HB1.out.size))
  clear hq2
  generalize w1.drewN nq = w2 at *
  go_wp2_with fail
  refine (HR _ HU2.out).mono ?_
  rintro x w3 ⟨rfl, hb3⟩
  replace e0 := keep hb3 e0
  replace e1 := keep hb3 e1
  replace e2 := keep hb3 e2
  replace e3 := keep hb3 e3
  replace e4 := keep hb3 e4
  replace e5 := keep hb3 e5
  replace e6 := keep hb3 e6
  replace e7 := keep hb3 e7
  replace e8 := keep hb3 e8
  replace e9 := keep hb3 e9
  replace e10 := keep hb3 e10
  replace e11 := keep hb3 e11
  replace e12 := keep hb3 e12
  replace e13 := keep hb3 e13
  replace e14 := keep hb3 e14
  replace e15 := keep hb3 e15
  replace c4 := keep hb3 c4
  replace c5 := keep hb3 c5
  have HU3 := Lib.hid (HU2.out.below hb3)
  have HB3 := Lib.hid (HB2.out.trans (hb3.mono HB2.out.size))
  clear hb3
  rw [HOK.out] at e7
  rw [HNEW.out] at e6
  rw [HTH.out] at e1
  have c6 := HU3.out.c6
  have fW := HU3.out.fW
  go_wp2_with fail
  refine (HFD _ HU3.out.wat).mono ?_
  rintro x w4 ⟨rfl, rfl⟩
  go_wp2_with fail
  go_quiet (fail)
  go_wp2_with fail
  refine (publish_u t H02.out.1 H02.out.2 _ (HU3.out.draw _)).mono ?_
  rintro x w4 ⟨rfl, hu4, hk4⟩
  have c6 : w4.cell? ⟨W, 6, none⟩ = some (.int .i64 u.n) := hu4.c6
  have fW := hu4.fW
  have HU4 := Lib.hid hu4
  have HK4 := Lib.hid (((Kz.of_below (W := W) (S := S) (G := G) HB3.out).draw _).trans hk4)
  clear hu4 hk4
  go_wp2
  go_returns
  exact ⟨rfl, HU4.out.setN _, HK4.out.set (p := ⟨W, 6, none⟩) (Or.inl rfl) _⟩

end Go.Proofs.YtejfcmgnacimgaaDoor
