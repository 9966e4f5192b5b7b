/- The contract of note, case by case. -/
import Derived.Test.YtejfcmgnacimgaaDoorB1
namespace Go.Proofs.YtejfcmgnacimgaaDoor
open Go.RowKit Go.ChangeMaps Go.Maps
set_option linter.unusedVariables false
set_option linter.unusedSimpArgs false

theorem protect_n {R S M : Nat} {s : RS} (t : Int) (ht : (Lit.int .i64 t).wf = true) (e : Ev) (n : Nat) (hn : n < s.m) (hs : e.slot = (n : Int)) (b : Bool) (w : World) (h : RepAt R S M s w) :
    Calls Tryd.prog 44 #[.pointer (some ⟨R, 0, none⟩), .int .i64 t, .agg #[.int .i64 e.nk, .int .i64 n, .int .i64 e.life, .int .i64 e.guard, .int .i64 e.read, .int .i64 e.cls, .int .u64 e.n, .int .i64 e.code], .bool b] w fun x w' => x = .returned (.tuple #[]) ∧ RepAt R S M (protF s t n e.guard b) w' ∧ Kq w.heap.size S M w w' := by
  have := protect_any t ht e n hn hs b w h
  unfold nCells at this
  rw [hs] at this
  exact this

set_option maxHeartbeats 4000000 in
set_option maxRecDepth 100000 in
theorem note_c5 {R S M : Nat} {s : RS} (hS0 : S ≠ 0) (at_ t : Int) (ht : (Lit.int .i64 t).wf = true) (e : Ev) (n : Nat) (hn : n < s.m) (hs : e.slot = (n : Int)) (w : World) (h : RepAt R S M s w)
    (k3 : (e.nk == 3) = false) (k4 : (e.nk == 4) = false) (k9 : (e.nk == 9) = false) (k8 : (e.nk == 8) = false) (k5 : (e.nk == 5) = true) :
    Calls Tryd.prog 37 #[.pointer (some ⟨R, 0, none⟩), .int .i64 at_, .int .i64 t, .agg (nCells e)] w fun x w' => x = .returned (.tuple #[]) ∧ RepAt R S M (protF s t n e.guard (mayP (s.sl n) e.read)) w' ∧ Kq w.heap.size S M w w' := by
  have hb1 : Below w.heap.size w (w.alloc (.cells (nCells e) 51)) := by go_grown
  have hr1 := h.below hb1
  have r4 := hr1.r4
  have e0 : (w.alloc (.cells (nCells e) 51)).cell? ⟨w.heap.size, 0, none⟩ = some (.int .i64 e.nk) := by simp [go_sem, nCells]
  have e1 : (w.alloc (.cells (nCells e) 51)).cell? ⟨w.heap.size, 1, none⟩ = some (.int .i64 n) := by simp [go_sem, nCells, hs]
  have e2 : (w.alloc (.cells (nCells e) 51)).cell? ⟨w.heap.size, 2, none⟩ = some (.int .i64 e.life) := by simp [go_sem, nCells]
  have e3 : (w.alloc (.cells (nCells e) 51)).cell? ⟨w.heap.size, 3, none⟩ = some (.int .i64 e.guard) := by simp [go_sem, nCells]
  have e4 : (w.alloc (.cells (nCells e) 51)).cell? ⟨w.heap.size, 4, none⟩ = some (.int .i64 e.read) := by simp [go_sem, nCells]
  have e5 : (w.alloc (.cells (nCells e) 51)).cell? ⟨w.heap.size, 5, none⟩ = some (.int .i64 e.cls) := by simp [go_sem, nCells]
  have e6 : (w.alloc (.cells (nCells e) 51)).cell? ⟨w.heap.size, 6, none⟩ = some (.int .u64 e.n) := by simp [go_sem, nCells]
  have e7 : (w.alloc (.cells (nCells e) 51)).cell? ⟨w.heap.size, 7, none⟩ = some (.int .i64 e.code) := by simp [go_sem, nCells]
  have hz1 : w.heap.size < (w.alloc (.cells (nCells e) 51)).heap.size := by simp
  have hSw : w.heap.size ≠ S := by have := h.lt; omega
  have hMw : w.heap.size ≠ M := by have := h.lt; omega
  have HS := Lib.hid hs
  have HB1 := Lib.hid hb1
  have HR1 := Lib.hid hr1
  have HN := Lib.hid hn
  clear h hb1 hr1 hs
  have in0 : (0 : Int) ≤ n := by omega
  have in1 : (n : Int) < s.m := by omega
  go_enter Tryd.func37, Tryd.ntmps37
  go_wp2_with fail
  generalize w.alloc (.cells (nCells e) 51) = w1 at *
  go_quiet (fail)
  have hbq : Below w1.heap.size w1 (w1.drewN nq) := below_drewN (Below.refl _ _) _
  have HR := Lib.hid (HR1.out.below hbq)
  have HB := Lib.hid (HB1.out.trans (hbq.mono HB1.out.size))
  have HR1 := ()
  obtain ⟨d0, d1, d2, d3, d4, d5⟩ := HR.out.slot HN.out
  have sf := HR.out.sf
  replace r4 := HR.out.r4
  replace e0 := keep hbq e0
  replace e1 := keep hbq e1
  replace e2 := keep hbq e2
  replace e3 := keep hbq e3
  replace e4 := keep hbq e4
  replace e5 := keep hbq e5
  replace e6 := keep hbq e6
  replace e7 := keep hbq e7
  have hz2 : w.heap.size < (w1.drewN nq).heap.size := World.block_lt_of_cell? _ _ e0
  clear hbq HB1 hz1 HR1
  generalize w1.drewN nq = w2 at *
  go_wp2_with fail
  refine wp_region_still_tail 7 (by kernel_rfl) (by kernel_rfl) ?_
  simp only [List.take_succ_cons, List.take_zero, List.drop_succ_cons, List.drop_zero]
  repeat still_step
  change wpStill _ _ (World.drew w2) _ _ _
  have HRd := Lib.hid (HR.out.below (Below.refl _ _).drew)
  have HBd := Lib.hid HB.out.drew
  refine wpStill_step (fun K hK => ?_)
  go_simp
  refine ⟨_, mayProtect_s n HN.out e.read _ HRd.out, hK _ ?_⟩
  clear hK K
  refine wpStill_nil ?_
  change wpList _ _ _ _ _ (World.drew w2)
  clear HR HB d0 d1 d2 d3 d4 d5 r4 sf e0 e1 e2 e3 e4 e5 e6 e7
  generalize World.drew w2 = w3 at *
  go_wp2_with fail
  refine (protect_n t ht e n HN.out HS.out _ _ HRd.out).mono ?_
  rintro x w4 ⟨rfl, hr, hk⟩
  have HF := Lib.hid (⟨hr, (Kq.of_below HBd.out (Nat.le_refl _)).trans (hk.mono HBd.out.size)⟩ : _ ∧ Kq w.heap.size S M w w4)
  clear hr hk
  go_wp2
  go_returns
  exact ⟨rfl, HF.out⟩
end Go.Proofs.YtejfcmgnacimgaaDoor
