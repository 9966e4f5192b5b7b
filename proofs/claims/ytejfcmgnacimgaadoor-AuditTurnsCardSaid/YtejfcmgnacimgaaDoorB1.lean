/- The contract of note, case by case. -/
import Derived.Test.YtejfcmgnacimgaaDoorA9
namespace Go.Proofs.YtejfcmgnacimgaaDoor
open Go.RowKit Go.ChangeMaps Go.Maps
set_option linter.unusedVariables false
set_option linter.unusedSimpArgs false

theorem mayProtect_s {R S M : Nat} {s : RS} (n : Nat) (hn : n < s.m) (read : Int) (w : World) (h : RepAt R S M s w) :
    Calls Tryd.prog 45 #[.pointer (some ⟨S, n * 14, none⟩), .int .i64 read] w fun e w' => e = .returned (.bool (mayP (s.sl n) read)) ∧ w' = w :=
  (mayProtect_any n hn read w h).mono fun _ _ ⟨h1, h2⟩ => ⟨h1, h2.symm⟩
theorem setSl_twice (s : RS) (n : Nat) (x y : Sl) : setSl (setSl s n x) n y = setSl s n y := by
  simp only [setSl]
  congr 1
  funext k
  by_cases e : k = n
  · simp [e]
  · simp [e]

set_option maxHeartbeats 4000000 in
set_option maxRecDepth 100000 in
theorem note_c3 {R S M : Nat} {s : RS} (hS0 : S ≠ 0) (at_ t : Int) (ht : (Lit.int .i64 t).wf = true) (e : Ev) (n : Nat) (hn : n < s.m) (hs : e.slot = (n : Int)) (w : World) (h : RepAt R S M s w)
    (k3 : (e.nk == 3) = true) :
    Calls Tryd.prog 37 #[.pointer (some ⟨R, 0, none⟩), .int .i64 at_, .int .i64 t, .agg (nCells e)] w fun x w' => x = .returned (.tuple #[]) ∧ RepAt R S M (setSl s n ⟨1, e.life, t, (endS (s.sl n)).pub, (endS (s.sl n)).ret, (endS (s.sl n)).ends, (endS (s.sl n)).ws⟩) w' ∧ Kq w.heap.size S M w w' := by
  have hb1 : Below w.heap.size w (w.alloc (.cells (nCells e) 51)) := by go_grown
  have hr1 := h.below hb1
  have r4 := hr1.r4
  have e0 : (w.alloc (.cells (nCells e) 51)).cell? ⟨w.heap.size, 0, none⟩ = some (.int .i64 e.nk) := by simp [go_sem, nCells]
  have e1 : (w.alloc (.cells (nCells e) 51)).cell? ⟨w.heap.size, 1, none⟩ = some (.int .i64 n) := by simp [go_sem, nCells, hs]
  have e2 : (w.alloc (.cells (nCells e) 51)).cell? ⟨w.heap.size, 2, none⟩ = some (.int .i64 e.life) := by simp [go_sem, nCells]
  have e3 : (w.alloc (.cells (nCells e) 51)).cell? ⟨w.heap.size, 3, none⟩ = some (.int .i64 e.guard) := by simp [go_sem, nCells]
  have e4 : (w.alloc (.cells (nCells e) 51)).cell? ⟨w.heap.size, 4, none⟩ = some (.int .i64 e.read) := by simp [go_sem, nCells]
  have e5 : (w.alloc (.cells (nCells e) 51)).cell? ⟨w.heap.size, 5, none⟩ = some (.int .i64 e.cls) := by simp [go_sem, nCells]
  have e6 : (w.alloc (.cells (nCells e) 51)).cell? ⟨w.heap.size, 6, none⟩ = some (.int .u64 e.n) := by simp [go_sem, nCells]
  have e7 : (w.alloc (.cells (nCells e) 51)).cell? ⟨w.heap.size, 7, none⟩ = some (.int .i64 e.code) := by simp [go_sem, nCells]
  have hz1 : w.heap.size < (w.alloc (.cells (nCells e) 51)).heap.size := by simp
  have hSw : w.heap.size ≠ S := by have := h.lt; omega
  have hMw : w.heap.size ≠ M := by have := h.lt; omega
  have HS := Lib.hid hs
  have HB1 := Lib.hid hb1
  have HR1 := Lib.hid hr1
  have HN := Lib.hid hn
  clear h hb1 hr1 hs
  have in0 : (0 : Int) ≤ n := by omega
  have in1 : (n : Int) < s.m := by omega
  go_enter Tryd.func37, Tryd.ntmps37
  go_wp2_with fail
  generalize w.alloc (.cells (nCells e) 51) = w1 at *
  go_quiet (fail)
  have hbq : Below w1.heap.size w1 (w1.drewN nq) := below_drewN (Below.refl _ _) _
  have HR := Lib.hid (HR1.out.below hbq)
  have HB := Lib.hid (HB1.out.trans (hbq.mono HB1.out.size))
  have HR1 := ()
  obtain ⟨d0, d1, d2, d3, d4, d5⟩ := HR.out.slot HN.out
  have sf := HR.out.sf
  replace r4 := HR.out.r4
  replace e0 := keep hbq e0
  replace e1 := keep hbq e1
  replace e2 := keep hbq e2
  replace e3 := keep hbq e3
  replace e4 := keep hbq e4
  replace e5 := keep hbq e5
  replace e6 := keep hbq e6
  replace e7 := keep hbq e7
  have hz2 : w.heap.size < (w1.drewN nq).heap.size := World.block_lt_of_cell? _ _ e0
  clear hbq HB1 hz1 HR1
  generalize w1.drewN nq = w2 at *
  go_wp2_with fail
  refine (end_any hS0 n HN.out _ HR.out).mono ?_
  rintro x w3 ⟨rfl, hr3, hk3⟩
  have HR3 := Lib.hid hr3
  have HK3 := Lib.hid ((Kq.of_below HB.out (Nat.le_refl _)).trans (hk3 w.heap.size))
  have f2 : w3.cell? ⟨w.heap.size, 2, none⟩ = some (.int .i64 e.life) := ((hk3 w2.heap.size).cell (by exact hz2) (by exact hSw) (by exact hMw)).trans e2
  obtain ⟨q0, q1, q2, -, -, -⟩ := HR3.out.slot (s := setSl s n (endS (s.sl n))) HN.out
  have sf3 := HR3.out.sf
  clear hr3 hk3 d0 d1 d2 d3 d4 d5 sf r4
  go_wp2
  go_returns
  have hp := HR3.out.slot3 hS0 n HN.out 0 1 2 (by decide) (by decide) (by decide) (.int .i64 1) (.int .i64 e.life) (.int .i64 t) ⟨1, e.life, t, (endS (s.sl n)).pub, (endS (s.sl n)).ret, (endS (s.sl n)).ends, (endS (s.sl n)).ws⟩ (by
    intro j hj
    simp only [setSl, if_pos]
    match j, hj with
    | 0, _ | 1, _ | 2, _ | 3, _ | 4, _ | 5, _ | 6, _ | 7, _ | 8, _ | 9, _ | 10, _ | 11, _ | 12, _ | 13, _ => rfl
    | j + 14, hj => omega)
  rw [setSl_twice] at hp
  exact ⟨rfl, hp, ((HK3.out.set_S _ _).set_S _ _).set_S _ _⟩

set_option maxHeartbeats 4000000 in
set_option maxRecDepth 100000 in
theorem note_c4 {R S M : Nat} {s : RS} (hS0 : S ≠ 0) (at_ t : Int) (ht : (Lit.int .i64 t).wf = true) (e : Ev) (n : Nat) (hn : n < s.m) (hs : e.slot = (n : Int)) (w : World) (h : RepAt R S M s w)
    (k3 : (e.nk == 3) = false) (k4 : (e.nk == 4) = true) :
    Calls Tryd.prog 37 #[.pointer (some ⟨R, 0, none⟩), .int .i64 at_, .int .i64 t, .agg (nCells e)] w fun x w' => x = .returned (.tuple #[]) ∧ RepAt R S M (setSl s n (endS (s.sl n))) w' ∧ Kq w.heap.size S M w w' := by
  have hb1 : Below w.heap.size w (w.alloc (.cells (nCells e) 51)) := by go_grown
  have hr1 := h.below hb1
  have r4 := hr1.r4
  have e0 : (w.alloc (.cells (nCells e) 51)).cell? ⟨w.heap.size, 0, none⟩ = some (.int .i64 e.nk) := by simp [go_sem, nCells]
  have e1 : (w.alloc (.cells (nCells e) 51)).cell? ⟨w.heap.size, 1, none⟩ = some (.int .i64 n) := by simp [go_sem, nCells, hs]
  have e2 : (w.alloc (.cells (nCells e) 51)).cell? ⟨w.heap.size, 2, none⟩ = some (.int .i64 e.life) := by simp [go_sem, nCells]
  have e3 : (w.alloc (.cells (nCells e) 51)).cell? ⟨w.heap.size, 3, none⟩ = some (.int .i64 e.guard) := by simp [go_sem, nCells]
  have e4 : (w.alloc (.cells (nCells e) 51)).cell? ⟨w.heap.size, 4, none⟩ = some (.int .i64 e.read) := by simp [go_sem, nCells]
  have e5 : (w.alloc (.cells (nCells e) 51)).cell? ⟨w.heap.size, 5, none⟩ = some (.int .i64 e.cls) := by simp [go_sem, nCells]
  have e6 : (w.alloc (.cells (nCells e) 51)).cell? ⟨w.heap.size, 6, none⟩ = some (.int .u64 e.n) := by simp [go_sem, nCells]
  have e7 : (w.alloc (.cells (nCells e) 51)).cell? ⟨w.heap.size, 7, none⟩ = some (.int .i64 e.code) := by simp [go_sem, nCells]
  have hz1 : w.heap.size < (w.alloc (.cells (nCells e) 51)).heap.size := by simp
  have hSw : w.heap.size ≠ S := by have := h.lt; omega
  have hMw : w.heap.size ≠ M := by have := h.lt; omega
  have HS := Lib.hid hs
  have HB1 := Lib.hid hb1
  have HR1 := Lib.hid hr1
  have HN := Lib.hid hn
  clear h hb1 hr1 hs
  have in0 : (0 : Int) ≤ n := by omega
  have in1 : (n : Int) < s.m := by omega
  go_enter Tryd.func37, Tryd.ntmps37
  go_wp2_with fail
  generalize w.alloc (.cells (nCells e) 51) = w1 at *
  go_quiet (fail)
  have hbq : Below w1.heap.size w1 (w1.drewN nq) := below_drewN (Below.refl _ _) _
  have HR := Lib.hid (HR1.out.below hbq)
  have HB := Lib.hid (HB1.out.trans (hbq.mono HB1.out.size))
  have HR1 := ()
  obtain ⟨d0, d1, d2, d3, d4, d5⟩ := HR.out.slot HN.out
  have sf := HR.out.sf
  replace r4 := HR.out.r4
  replace e0 := keep hbq e0
  replace e1 := keep hbq e1
  replace e2 := keep hbq e2
  replace e3 := keep hbq e3
  replace e4 := keep hbq e4
  replace e5 := keep hbq e5
  replace e6 := keep hbq e6
  replace e7 := keep hbq e7
  have hz2 : w.heap.size < (w1.drewN nq).heap.size := World.block_lt_of_cell? _ _ e0
  clear hbq HB1 hz1 HR1
  generalize w1.drewN nq = w2 at *
  go_wp2_with fail
  refine (end_any hS0 n HN.out _ HR.out).mono ?_
  rintro x w3 ⟨rfl, hr3, hk3⟩
  have HR3 := Lib.hid hr3
  have HK3 := Lib.hid ((Kq.of_below HB.out (Nat.le_refl _)).trans (hk3 w.heap.size))
  clear hr3 hk3
  go_wp2
  go_returns
  exact ⟨rfl, HR3.out, HK3.out⟩

set_option maxHeartbeats 4000000 in
set_option maxRecDepth 100000 in
theorem note_c9 {R S M : Nat} {s : RS} (hS0 : S ≠ 0) (at_ t : Int) (ht : (Lit.int .i64 t).wf = true) (e : Ev) (n : Nat) (hn : n < s.m) (hs : e.slot = (n : Int)) (w : World) (h : RepAt R S M s w)
    (k3 : (e.nk == 3) = false) (k4 : (e.nk == 4) = false) (k9 : (e.nk == 9) = true) :
    Calls Tryd.prog 37 #[.pointer (some ⟨R, 0, none⟩), .int .i64 at_, .int .i64 t, .agg (nCells e)] w fun x w' => x = .returned (.tuple #[]) ∧ RepAt R S M (setSl s n (endS (s.sl n))) w' ∧ Kq w.heap.size S M w w' := by
  have hb1 : Below w.heap.size w (w.alloc (.cells (nCells e) 51)) := by go_grown
  have hr1 := h.below hb1
  have r4 := hr1.r4
  have e0 : (w.alloc (.cells (nCells e) 51)).cell? ⟨w.heap.size, 0, none⟩ = some (.int .i64 e.nk) := by simp [go_sem, nCells]
  have e1 : (w.alloc (.cells (nCells e) 51)).cell? ⟨w.heap.size, 1, none⟩ = some (.int .i64 n) := by simp [go_sem, nCells, hs]
  have e2 : (w.alloc (.cells (nCells e) 51)).cell? ⟨w.heap.size, 2, none⟩ = some (.int .i64 e.life) := by simp [go_sem, nCells]
  have e3 : (w.alloc (.cells (nCells e) 51)).cell? ⟨w.heap.size, 3, none⟩ = some (.int .i64 e.guard) := by simp [go_sem, nCells]
  have e4 : (w.alloc (.cells (nCells e) 51)).cell? ⟨w.heap.size, 4, none⟩ = some (.int .i64 e.read) := by simp [go_sem, nCells]
  have e5 : (w.alloc (.cells (nCells e) 51)).cell? ⟨w.heap.size, 5, none⟩ = some (.int .i64 e.cls) := by simp [go_sem, nCells]
  have e6 : (w.alloc (.cells (nCells e) 51)).cell? ⟨w.heap.size, 6, none⟩ = some (.int .u64 e.n) := by simp [go_sem, nCells]
  have e7 : (w.alloc (.cells (nCells e) 51)).cell? ⟨w.heap.size, 7, none⟩ = some (.int .i64 e.code) := by simp [go_sem, nCells]
  have hz1 : w.heap.size < (w.alloc (.cells (nCells e) 51)).heap.size := by simp
  have hSw : w.heap.size ≠ S := by have := h.lt; omega
  have hMw : w.heap.size ≠ M := by have := h.lt; omega
  have HS := Lib.hid hs
  have HB1 := Lib.hid hb1
  have HR1 := Lib.hid hr1
  have HN := Lib.hid hn
  clear h hb1 hr1 hs
  have in0 : (0 : Int) ≤ n := by omega
  have in1 : (n : Int) < s.m := by omega
  go_enter Tryd.func37, Tryd.ntmps37
  go_wp2_with fail
  generalize w.alloc (.cells (nCells e) 51) = w1 at *
  go_quiet (fail)
  have hbq : Below w1.heap.size w1 (w1.drewN nq) := below_drewN (Below.refl _ _) _
  have HR := Lib.hid (HR1.out.below hbq)
  have HB := Lib.hid (HB1.out.trans (hbq.mono HB1.out.size))
  have HR1 := ()
  obtain ⟨d0, d1, d2, d3, d4, d5⟩ := HR.out.slot HN.out
  have sf := HR.out.sf
  replace r4 := HR.out.r4
  replace e0 := keep hbq e0
  replace e1 := keep hbq e1
  replace e2 := keep hbq e2
  replace e3 := keep hbq e3
  replace e4 := keep hbq e4
  replace e5 := keep hbq e5
  replace e6 := keep hbq e6
  replace e7 := keep hbq e7
  have hz2 : w.heap.size < (w1.drewN nq).heap.size := World.block_lt_of_cell? _ _ e0
  clear hbq HB1 hz1 HR1
  generalize w1.drewN nq = w2 at *
  go_wp2_with fail
  refine (end_any hS0 n HN.out _ HR.out).mono ?_
  rintro x w3 ⟨rfl, hr3, hk3⟩
  have HR3 := Lib.hid hr3
  have HK3 := Lib.hid ((Kq.of_below HB.out (Nat.le_refl _)).trans (hk3 w.heap.size))
  clear hr3 hk3
  go_wp2
  go_returns
  exact ⟨rfl, HR3.out, HK3.out⟩

set_option maxHeartbeats 4000000 in
set_option maxRecDepth 100000 in
theorem note_c8 {R S M : Nat} {s : RS} (hS0 : S ≠ 0) (at_ t : Int) (ht : (Lit.int .i64 t).wf = true) (e : Ev) (n : Nat) (hn : n < s.m) (hs : e.slot = (n : Int)) (w : World) (h : RepAt R S M s w)
    (k3 : (e.nk == 3) = false) (k4 : (e.nk == 4) = false) (k9 : (e.nk == 9) = false) (k8 : (e.nk == 8) = true) :
    Calls Tryd.prog 37 #[.pointer (some ⟨R, 0, none⟩), .int .i64 at_, .int .i64 t, .agg (nCells e)] w fun x w' => x = .returned (.tuple #[]) ∧ RepAt R S M (setSl s n ⟨3, (s.sl n).life, t, (s.sl n).pub, at_, (s.sl n).ends, (s.sl n).ws⟩) w' ∧ Kq w.heap.size S M w w' := by
  have hb1 : Below w.heap.size w (w.alloc (.cells (nCells e) 51)) := by go_grown
  have hr1 := h.below hb1
  have r4 := hr1.r4
  have e0 : (w.alloc (.cells (nCells e) 51)).cell? ⟨w.heap.size, 0, none⟩ = some (.int .i64 e.nk) := by simp [go_sem, nCells]
  have e1 : (w.alloc (.cells (nCells e) 51)).cell? ⟨w.heap.size, 1, none⟩ = some (.int .i64 n) := by simp [go_sem, nCells, hs]
  have e2 : (w.alloc (.cells (nCells e) 51)).cell? ⟨w.heap.size, 2, none⟩ = some (.int .i64 e.life) := by simp [go_sem, nCells]
  have e3 : (w.alloc (.cells (nCells e) 51)).cell? ⟨w.heap.size, 3, none⟩ = some (.int .i64 e.guard) := by simp [go_sem, nCells]
  have e4 : (w.alloc (.cells (nCells e) 51)).cell? ⟨w.heap.size, 4, none⟩ = some (.int .i64 e.read) := by simp [go_sem, nCells]
  have e5 : (w.alloc (.cells (nCells e) 51)).cell? ⟨w.heap.size, 5, none⟩ = some (.int .i64 e.cls) := by simp [go_sem, nCells]
  have e6 : (w.alloc (.cells (nCells e) 51)).cell? ⟨w.heap.size, 6, none⟩ = some (.int .u64 e.n) := by simp [go_sem, nCells]
  have e7 : (w.alloc (.cells (nCells e) 51)).cell? ⟨w.heap.size, 7, none⟩ = some (.int .i64 e.code) := by simp [go_sem, nCells]
  have hz1 : w.heap.size < (w.alloc (.cells (nCells e) 51)).heap.size := by simp
  have hSw : w.heap.size ≠ S := by have := h.lt; omega
  have hMw : w.heap.size ≠ M := by have := h.lt; omega
  have HS := Lib.hid hs
  have HB1 := Lib.hid hb1
  have HR1 := Lib.hid hr1
  have HN := Lib.hid hn
  clear h hb1 hr1 hs
  have in0 : (0 : Int) ≤ n := by omega
  have in1 : (n : Int) < s.m := by omega
  go_enter Tryd.func37, Tryd.ntmps37
  go_wp2_with fail
  generalize w.alloc (.cells (nCells e) 51) = w1 at *
  go_quiet (fail)
  have hbq : Below w1.heap.size w1 (w1.drewN nq) := below_drewN (Below.refl _ _) _
  have HR := Lib.hid (HR1.out.below hbq)
  have HB := Lib.hid (HB1.out.trans (hbq.mono HB1.out.size))
  have HR1 := ()
  obtain ⟨d0, d1, d2, d3, d4, d5⟩ := HR.out.slot HN.out
  have sf := HR.out.sf
  replace r4 := HR.out.r4
  replace e0 := keep hbq e0
  replace e1 := keep hbq e1
  replace e2 := keep hbq e2
  replace e3 := keep hbq e3
  replace e4 := keep hbq e4
  replace e5 := keep hbq e5
  replace e6 := keep hbq e6
  replace e7 := keep hbq e7
  have hz2 : w.heap.size < (w1.drewN nq).heap.size := World.block_lt_of_cell? _ _ e0
  clear hbq HB1 hz1 HR1
  generalize w1.drewN nq = w2 at *
  go_wp2
  go_returns
  have hp := HR.out.slot3 hS0 n HN.out 0 2 4 (by decide) (by decide) (by decide) (.int .i64 3) (.int .i64 t) (.int .i64 at_) ⟨3, (s.sl n).life, t, (s.sl n).pub, at_, (s.sl n).ends, (s.sl n).ws⟩ (by
    intro j hj
    match j, hj with
    | 0, _ | 1, _ | 2, _ | 3, _ | 4, _ | 5, _ | 6, _ | 7, _ | 8, _ | 9, _ | 10, _ | 11, _ | 12, _ | 13, _ => rfl
    | j + 14, hj => omega)
  exact ⟨rfl, hp, (((Kq.of_below HB.out (Nat.le_refl _)).set_S _ _).set_S _ _).set_S _ _⟩

set_option maxHeartbeats 4000000 in
set_option maxRecDepth 100000 in
theorem note_c0 {R S M : Nat} {s : RS} (hS0 : S ≠ 0) (at_ t : Int) (ht : (Lit.int .i64 t).wf = true) (e : Ev) (n : Nat) (hn : n < s.m) (hs : e.slot = (n : Int)) (w : World) (h : RepAt R S M s w)
    (k3 : (e.nk == 3) = false) (k4 : (e.nk == 4) = false) (k9 : (e.nk == 9) = false) (k8 : (e.nk == 8) = false) (k5 : (e.nk == 5) = false) (k6 : (e.nk == 6) = false) :
    Calls Tryd.prog 37 #[.pointer (some ⟨R, 0, none⟩), .int .i64 at_, .int .i64 t, .agg (nCells e)] w fun x w' => x = .returned (.tuple #[]) ∧ RepAt R S M (s) w' ∧ Kq w.heap.size S M w w' := by
  have hb1 : Below w.heap.size w (w.alloc (.cells (nCells e) 51)) := by go_grown
  have hr1 := h.below hb1
  have r4 := hr1.r4
  have e0 : (w.alloc (.cells (nCells e) 51)).cell? ⟨w.heap.size, 0, none⟩ = some (.int .i64 e.nk) := by simp [go_sem, nCells]
  have e1 : (w.alloc (.cells (nCells e) 51)).cell? ⟨w.heap.size, 1, none⟩ = some (.int .i64 n) := by simp [go_sem, nCells, hs]
  have e2 : (w.alloc (.cells (nCells e) 51)).cell? ⟨w.heap.size, 2, none⟩ = some (.int .i64 e.life) := by simp [go_sem, nCells]
  have e3 : (w.alloc (.cells (nCells e) 51)).cell? ⟨w.heap.size, 3, none⟩ = some (.int .i64 e.guard) := by simp [go_sem, nCells]
  have e4 : (w.alloc (.cells (nCells e) 51)).cell? ⟨w.heap.size, 4, none⟩ = some (.int .i64 e.read) := by simp [go_sem, nCells]
  have e5 : (w.alloc (.cells (nCells e) 51)).cell? ⟨w.heap.size, 5, none⟩ = some (.int .i64 e.cls) := by simp [go_sem, nCells]
  have e6 : (w.alloc (.cells (nCells e) 51)).cell? ⟨w.heap.size, 6, none⟩ = some (.int .u64 e.n) := by simp [go_sem, nCells]
  have e7 : (w.alloc (.cells (nCells e) 51)).cell? ⟨w.heap.size, 7, none⟩ = some (.int .i64 e.code) := by simp [go_sem, nCells]
  have hz1 : w.heap.size < (w.alloc (.cells (nCells e) 51)).heap.size := by simp
  have hSw : w.heap.size ≠ S := by have := h.lt; omega
  have hMw : w.heap.size ≠ M := by have := h.lt; omega
  have HS := Lib.hid hs
  have HB1 := Lib.hid hb1
  have HR1 := Lib.hid hr1
  have HN := Lib.hid hn
  clear h hb1 hr1 hs
  have in0 : (0 : Int) ≤ n := by omega
  have in1 : (n : Int) < s.m := by omega
  go_enter Tryd.func37, Tryd.ntmps37
  go_wp2_with fail
  generalize w.alloc (.cells (nCells e) 51) = w1 at *
  go_quiet (fail)
  have hbq : Below w1.heap.size w1 (w1.drewN nq) := below_drewN (Below.refl _ _) _
  have HR := Lib.hid (HR1.out.below hbq)
  have HB := Lib.hid (HB1.out.trans (hbq.mono HB1.out.size))
  have HR1 := ()
  obtain ⟨d0, d1, d2, d3, d4, d5⟩ := HR.out.slot HN.out
  have sf := HR.out.sf
  replace r4 := HR.out.r4
  replace e0 := keep hbq e0
  replace e1 := keep hbq e1
  replace e2 := keep hbq e2
  replace e3 := keep hbq e3
  replace e4 := keep hbq e4
  replace e5 := keep hbq e5
  replace e6 := keep hbq e6
  replace e7 := keep hbq e7
  have hz2 : w.heap.size < (w1.drewN nq).heap.size := World.block_lt_of_cell? _ _ e0
  clear hbq HB1 hz1 HR1
  generalize w1.drewN nq = w2 at *
  go_wp2
  go_returns
  exact ⟨rfl, HR.out, Kq.of_below HB.out (Nat.le_refl _)⟩
end Go.Proofs.YtejfcmgnacimgaaDoor
