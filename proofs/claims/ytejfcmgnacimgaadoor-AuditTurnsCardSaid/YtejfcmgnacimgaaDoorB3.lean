/- The contract of note, case by case. -/
import Derived.Test.YtejfcmgnacimgaaDoorB2
namespace Go.Proofs.YtejfcmgnacimgaaDoor
open Go.RowKit Go.ChangeMaps Go.Maps
set_option linter.unusedVariables false
set_option linter.unusedSimpArgs false

set_option maxHeartbeats 4000000 in
set_option maxRecDepth 100000 in
theorem note_c6 {R S M : Nat} {s : RS} (hS0 : S ≠ 0) (at_ t : Int) (ht : (Lit.int .i64 t).wf = true) (e : Ev) (n : Nat) (hn : n < s.m) (hs : e.slot = (n : Int)) (w : World) (h : RepAt R S M s w)
    (k3 : (e.nk == 3) = false) (k4 : (e.nk == 4) = false) (k9 : (e.nk == 9) = false) (k8 : (e.nk == 8) = false) (k5 : (e.nk == 5) = false) (k6 : (e.nk == 6) = true) :
    Calls Tryd.prog 37 #[.pointer (some ⟨R, 0, none⟩), .int .i64 at_, .int .i64 t, .agg (nCells e)] w fun x w' => x = .returned (.tuple #[]) ∧ RepAt R S M (protF s t n e.guard (rightB s t n)) w' ∧ Kq w.heap.size S M w w' := by
  have hb1 : Below w.heap.size w (w.alloc (.cells (nCells e) 51)) := by go_grown
  have hr1 := h.below hb1
  have r4 := hr1.r4
  have e0 : (w.alloc (.cells (nCells e) 51)).cell? ⟨w.heap.size, 0, none⟩ = some (.int .i64 e.nk) := by simp [go_sem, nCells]
  have e1 : (w.alloc (.cells (nCells e) 51)).cell? ⟨w.heap.size, 1, none⟩ = some (.int .i64 n) := by simp [go_sem, nCells, hs]
  have e2 : (w.alloc (.cells (nCells e) 51)).cell? ⟨w.heap.size, 2, none⟩ = some (.int .i64 e.life) := by simp [go_sem, nCells]
  have e3 : (w.alloc (.cells (nCells e) 51)).cell? ⟨w.heap.size, 3, none⟩ = some (.int .i64 e.guard) := by simp [go_sem, nCells]
  have e4 : (w.alloc (.cells (nCells e) 51)).cell? ⟨w.heap.size, 4, none⟩ = some (.int .i64 e.read) := by simp [go_sem, nCells]
  have e5 : (w.alloc (.cells (nCells e) 51)).cell? ⟨w.heap.size, 5, none⟩ = some (.int .i64 e.cls) := by simp [go_sem, nCells]
  have e6 : (w.alloc (.cells (nCells e) 51)).cell? ⟨w.heap.size, 6, none⟩ = some (.int .u64 e.n) := by simp [go_sem, nCells]
  have e7 : (w.alloc (.cells (nCells e) 51)).cell? ⟨w.heap.size, 7, none⟩ = some (.int .i64 e.code) := by simp [go_sem, nCells]
  have hz1 : w.heap.size < (w.alloc (.cells (nCells e) 51)).heap.size := by simp
  have hSw : w.heap.size ≠ S := by have := h.lt; omega
  have hMw : w.heap.size ≠ M := by have := h.lt; omega
  have HS := Lib.hid hs
  have HB1 := Lib.hid hb1
  have HR1 := Lib.hid hr1
  have HN := Lib.hid hn
  clear h hb1 hr1 hs
  have in0 : (0 : Int) ≤ n := by omega
  have in1 : (n : Int) < s.m := by omega
  go_enter Tryd.func37, Tryd.ntmps37
  go_wp2_with fail
  generalize w.alloc (.cells (nCells e) 51) = w1 at *
  go_quiet (fail)
  have hbq : Below w1.heap.size w1 (w1.drewN nq) := below_drewN (Below.refl _ _) _
  have HR := Lib.hid (HR1.out.below hbq)
  have HB := Lib.hid (HB1.out.trans (hbq.mono HB1.out.size))
  have HR1 := ()
  obtain ⟨d0, d1, d2, d3, d4, d5⟩ := HR.out.slot HN.out
  have sf := HR.out.sf
  replace r4 := HR.out.r4
  replace e0 := keep hbq e0
  replace e1 := keep hbq e1
  replace e2 := keep hbq e2
  replace e3 := keep hbq e3
  replace e4 := keep hbq e4
  replace e5 := keep hbq e5
  replace e6 := keep hbq e6
  replace e7 := keep hbq e7
  have hz2 : w.heap.size < (w1.drewN nq).heap.size := World.block_lt_of_cell? _ _ e0
  clear hbq HB1 hz1 HR1
  generalize w1.drewN nq = w2 at *
  go_wp2_with fail
  go_region_with (first
    | (go_at_call 31; refine (hasRight_any t n ht _ (HR.out.below (by go_grown))).mono ?_; rintro x x5 ⟨rfl, hb5⟩; have HB5 := Lib.hid hb5; have p0 := keep hb5 e0; have p1 := keep hb5 e1; have p2 := keep hb5 e2; have p3 := keep hb5 e3; have p4 := keep hb5 e4; have p5 := keep hb5 e5; have p6 := keep hb5 e6; have p7 := keep hb5 e7; clear hb5)
    | (go_at_call 44; refine (protect_n t ht e n HN.out HS.out _ _ ((HR.out.below (by go_grown)).below HB5.out |>.below (by go_grown))).mono ?_; rintro x w6 ⟨rfl, hr, hk⟩))
  all_goals
    have hw5 : Below w.heap.size w x5 := HB.out.trans (Below.mono (Below.trans (by go_grown) HB5.out) HB.out.size)
    have hF : Kq w.heap.size S M w w6 := ((Kq.of_below hw5 (Nat.le_refl _)).trans ⟨rfl, rfl, rfl, Nat.le_refl _, fun _ _ _ _ => rfl⟩).trans (hk.mono (by have := hw5.size; simpa using this))
    have HF := Lib.hid (And.intro hr hF)
    clear hr hk hw5 hF
    go_wp2
    go_returns
    exact ⟨rfl, HF.out⟩

end Go.Proofs.YtejfcmgnacimgaaDoor
