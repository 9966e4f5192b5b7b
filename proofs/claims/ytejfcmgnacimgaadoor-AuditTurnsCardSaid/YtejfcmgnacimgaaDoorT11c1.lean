/- AuditTurns: the walk, of class 1. -/
import Derived.Test.YtejfcmgnacimgaaDoorT11
import Derived.Great.Walk
import Derived.Deep.Cut
import Derived.Deep.CutRange
import Derived.Deep.CutBlock
namespace Go.Proofs.YtejfcmgnacimgaaDoor
open Go.RowKit Go.ChangeMaps
set_option linter.unusedVariables false
set_option linter.unusedSimpArgs false

theorem rs_same1 {w : World} {B : Nat} {cs : Array Value} {t : TypeId} (h : w.heap[B]? = some (.cells cs t (0, 0))) (i : Nat) (v : Value) : (w.setCell ⟨B, i, none⟩ v).heap[B]? = some (.cells (cs.setIfInBounds i v) t (0, 0)) := heap_setCell_same _ _ _ _ _ _ h
theorem rs_other1 {w : World} {B D : Nat} {o : Obj} (h : w.heap[B]? = some o) (hn : B ≠ D) (i : Nat) (v : Value) : (w.setCell ⟨D, i, none⟩ v).heap[B]? = some o := (Below.heap_setCell _ _ _ _ hn).trans h

/-- Where the switch ends. -/
structure RT1 (w : World) (k t g : Nat) (wc : World) : Prop where
  rL : wc.heap[w.heap.size + 1]? = some (.cells (rowOf (story (k : Nat) t 1 g)) 54 (0, 0))
  rN : wc.heap[w.heap.size]? = some (.cells #[.int .i64 2, .int .i64 5, .int .i64 0, .int .i64 1] 24 (0, 0))
  rD : wc.heap[w.heap.size + 2]? = some (.cells #[.int .i64 (wantV k t).at_, .int .i64 (wantV k t).fault, .int .i64 (wantV k t).th, .int .i64 (wantV k t).slot] 43 (0, 0))
  hB : Below w.heap.size w wc

set_option maxHeartbeats 16000000 in
set_option maxRecDepth 100000 in
theorem turns_1 (turn thread cla gua : Int) (k t g : Nat) (hk : k < 10) (ht : t < 2) (hg : g < 12) (h1 : (IntKind.u64.wrap turn).tmod 10 = k) (h2 : wrap64 ((IntKind.u64.wrap thread).tmod 2) = t) (h3 : wrap64 ((IntKind.u64.wrap cla).tmod 2) = 1) (h4 : wrap64 ((IntKind.u64.wrap gua).tmod 12) = g) (w : World) (hz : Sz w) :
    Calls Tryd.prog 5 #[.int .i64 turn, .int .i64 thread, .int .i64 cla, .int .i64 gua] w fun x w' => x = .returned (.bool true) ∧ Below w.heap.size w w' := by
  have ht2 : (t : Int) < 2 := by omega
  have hg2 : (g : Int) < 12 := by omega
  have H1 := Lib.hid h1
  have HZ := Lib.hid hz
  clear h1 hz
  go_enter Tryd.func5, Tryd.ntmps5
  go_upto_block 0 with (refine Great.wpList_buildSliceTo rfl 39 54 11 _ rfl (w.heap.size + 1) (by simp) (some 80) rfl Tryd.underlying39 (rowOf (story 0 t 1 g)) (by kernel_rfl) ?_)
  have HR3 := Lib.hid (show _ ∧ _ ∧ _ from ⟨rows3a w (rowOf (story 0 t 1 g)) 0 1, rows3b w (rowOf (story 0 t 1 g)) 0 1, rows3c w (rowOf (story 0 t 1 g)) 0 1⟩)
  have HB3 := Lib.hid (rows3d w (rowOf (story 0 t 1 g)) 0 1)
  generalize ((w.alloc (.cells #[.int .i64 2, .int .i64 5, .int .i64 0, .int .i64 1] 24)).alloc (.cells (rowOf (story 0 t 1 g)) 54)).alloc (.cells #[.int .i64 (-1), .int .i64 0, .int .i64 0, .int .i64 0] 43) = w3 at *
  go_cut [] from 85 to 165 (fun wc => RT1 w k t g wc)
  case first =>
    have fL : ∀ o, w3.frozen? ⟨w.heap.size + 1, o, none⟩ = false := fun o => row_frozen HR3.out.2.1 o
    have fD : ∀ o, w3.frozen? ⟨w.heap.size + 2, o, none⟩ = false := fun o => row_frozen HR3.out.2.2 o
    have y0 : w3.cell? ⟨w.heap.size + 2, 0, none⟩ = some (.int .i64 (-1)) := row_cell HR3.out.2.2 0
    have y1 : w3.cell? ⟨w.heap.size + 2, 1, none⟩ = some (.int .i64 0) := row_cell HR3.out.2.2 1
    have y2 : w3.cell? ⟨w.heap.size + 2, 2, none⟩ = some (.int .i64 0) := row_cell HR3.out.2.2 2
    have y3 : w3.cell? ⟨w.heap.size + 2, 3, none⟩ = some (.int .i64 0) := row_cell HR3.out.2.2 3
    rcases (show k = 0 ∨ k = 1 ∨ k = 2 ∨ k = 3 ∨ k = 4 ∨ k = 5 ∨ k = 6 ∨ k = 7 ∨ k = 8 ∨ k = 9 by omega) with rfl | rfl | rfl | rfl | rfl | rfl | rfl | rfl | rfl | rfl
    · have h1 : (IntKind.u64.wrap turn).tmod 10 = 0 := H1.out
      have hset : (rowOf (story 0 t 1 g)) = rowOf (story (0 : Nat) t 1 g) := by kernel_rfl
      go_wp2_with fail
      go_meet
      case rel => exact ⟨by rw [← hset]; exact HR3.out.2.1, HR3.out.1, (show _ from HR3.out.2.2), HB3.out⟩
    · have h1 : (IntKind.u64.wrap turn).tmod 10 = 1 := H1.out
      have hset : (Array.setIfInBounds (rowOf (story 0 t 1 g)) 81 (.int .i64 (t : Int))) = rowOf (story (1 : Nat) t 1 g) := by kernel_rfl
      have x81 : w3.cell? ⟨w.heap.size + 1, 81, none⟩ = some (.int .i64 (1 - (t : Int))) := (row_cell HR3.out.2.1 81).trans (by kernel_rfl)
      go_wp2_with fail
      go_meet
      case rel => exact ⟨by rw [← hset]; exact (rs_other1 (rs_other1 (rs_other1 (rs_other1 (rs_same1 HR3.out.2.1 81 (.int .i64 (t : Int))) (show w.heap.size + 1 ≠ w.heap.size + 2 by omega) 0 _) (show w.heap.size + 1 ≠ w.heap.size + 2 by omega) 1 _) (show w.heap.size + 1 ≠ w.heap.size + 2 by omega) 2 _) (show w.heap.size + 1 ≠ w.heap.size + 2 by omega) 3 _), (rs_other1 (rs_other1 (rs_other1 (rs_other1 (rs_other1 HR3.out.1 (show w.heap.size ≠ w.heap.size + 1 by omega) 81 _) (show w.heap.size ≠ w.heap.size + 2 by omega) 0 _) (show w.heap.size ≠ w.heap.size + 2 by omega) 1 _) (show w.heap.size ≠ w.heap.size + 2 by omega) 2 _) (show w.heap.size ≠ w.heap.size + 2 by omega) 3 _), (show _ from (rs_same1 (rs_same1 (rs_same1 (rs_same1 (rs_other1 HR3.out.2.2 (show w.heap.size + 2 ≠ w.heap.size + 1 by omega) 81 _) 0 (.int .i64 5)) 1 (.int .i64 1)) 2 (.int .i64 (t : Int))) 3 (.int .i64 1))), (Below.setCell (Below.setCell (Below.setCell (Below.setCell (Below.setCell HB3.out (p := ⟨w.heap.size + 1, 81, none⟩) (by simp) _) (p := ⟨w.heap.size + 2, 0, none⟩) (by simp) _) (p := ⟨w.heap.size + 2, 1, none⟩) (by simp) _) (p := ⟨w.heap.size + 2, 2, none⟩) (by simp) _) (p := ⟨w.heap.size + 2, 3, none⟩) (by simp) _)⟩
    · have h1 : (IntKind.u64.wrap turn).tmod 10 = 2 := H1.out
      have hset : (Array.setIfInBounds (rowOf (story 0 t 1 g)) 84 (.int .i64 6)) = rowOf (story (2 : Nat) t 1 g) := by kernel_rfl
      have x84 : w3.cell? ⟨w.heap.size + 1, 84, none⟩ = some (.int .i64 7) := (row_cell HR3.out.2.1 84).trans (by kernel_rfl)
      go_wp2_with fail
      go_meet
      case rel => exact ⟨by rw [← hset]; exact (rs_other1 (rs_other1 (rs_other1 (rs_other1 (rs_same1 HR3.out.2.1 84 (.int .i64 6)) (show w.heap.size + 1 ≠ w.heap.size + 2 by omega) 0 _) (show w.heap.size + 1 ≠ w.heap.size + 2 by omega) 1 _) (show w.heap.size + 1 ≠ w.heap.size + 2 by omega) 2 _) (show w.heap.size + 1 ≠ w.heap.size + 2 by omega) 3 _), (rs_other1 (rs_other1 (rs_other1 (rs_other1 (rs_other1 HR3.out.1 (show w.heap.size ≠ w.heap.size + 1 by omega) 84 _) (show w.heap.size ≠ w.heap.size + 2 by omega) 0 _) (show w.heap.size ≠ w.heap.size + 2 by omega) 1 _) (show w.heap.size ≠ w.heap.size + 2 by omega) 2 _) (show w.heap.size ≠ w.heap.size + 2 by omega) 3 _), (show _ from (rs_same1 (rs_same1 (rs_same1 (rs_same1 (rs_other1 HR3.out.2.2 (show w.heap.size + 2 ≠ w.heap.size + 1 by omega) 84 _) 0 (.int .i64 5)) 1 (.int .i64 2)) 2 (.int .i64 (1 - (t : Int)))) 3 (.int .i64 1))), (Below.setCell (Below.setCell (Below.setCell (Below.setCell (Below.setCell HB3.out (p := ⟨w.heap.size + 1, 84, none⟩) (by simp) _) (p := ⟨w.heap.size + 2, 0, none⟩) (by simp) _) (p := ⟨w.heap.size + 2, 1, none⟩) (by simp) _) (p := ⟨w.heap.size + 2, 2, none⟩) (by simp) _) (p := ⟨w.heap.size + 2, 3, none⟩) (by simp) _)⟩
    · have h1 : (IntKind.u64.wrap turn).tmod 10 = 3 := H1.out
      have hset : (Array.setIfInBounds (rowOf (story 0 t 1 g)) 152 (.int .i64 7)) = rowOf (story (3 : Nat) t 1 g) := by kernel_rfl
      have x152 : w3.cell? ⟨w.heap.size + 1, 152, none⟩ = some (.int .i64 9) := (row_cell HR3.out.2.1 152).trans (by kernel_rfl)
      go_wp2_with fail
      go_meet
      case rel => exact ⟨by rw [← hset]; exact (rs_other1 (rs_other1 (rs_other1 (rs_other1 (rs_same1 HR3.out.2.1 152 (.int .i64 7)) (show w.heap.size + 1 ≠ w.heap.size + 2 by omega) 0 _) (show w.heap.size + 1 ≠ w.heap.size + 2 by omega) 1 _) (show w.heap.size + 1 ≠ w.heap.size + 2 by omega) 2 _) (show w.heap.size + 1 ≠ w.heap.size + 2 by omega) 3 _), (rs_other1 (rs_other1 (rs_other1 (rs_other1 (rs_other1 HR3.out.1 (show w.heap.size ≠ w.heap.size + 1 by omega) 152 _) (show w.heap.size ≠ w.heap.size + 2 by omega) 0 _) (show w.heap.size ≠ w.heap.size + 2 by omega) 1 _) (show w.heap.size ≠ w.heap.size + 2 by omega) 2 _) (show w.heap.size ≠ w.heap.size + 2 by omega) 3 _), (show _ from (rs_same1 (rs_same1 (rs_same1 (rs_same1 (rs_other1 HR3.out.2.2 (show w.heap.size + 2 ≠ w.heap.size + 1 by omega) 152 _) 0 (.int .i64 10)) 1 (.int .i64 3)) 2 (.int .i64 (t : Int))) 3 (.int .i64 1))), (Below.setCell (Below.setCell (Below.setCell (Below.setCell (Below.setCell HB3.out (p := ⟨w.heap.size + 1, 152, none⟩) (by simp) _) (p := ⟨w.heap.size + 2, 0, none⟩) (by simp) _) (p := ⟨w.heap.size + 2, 1, none⟩) (by simp) _) (p := ⟨w.heap.size + 2, 2, none⟩) (by simp) _) (p := ⟨w.heap.size + 2, 3, none⟩) (by simp) _)⟩
    · have h1 : (IntKind.u64.wrap turn).tmod 10 = 4 := H1.out
      have hset : (Array.setIfInBounds (rowOf (story 0 t 1 g)) 170 (.int .i64 3)) = rowOf (story (4 : Nat) t 1 g) := by kernel_rfl
      have x170 : w3.cell? ⟨w.heap.size + 1, 170, none⟩ = some (.int .i64 2) := (row_cell HR3.out.2.1 170).trans (by kernel_rfl)
      go_wp2_with fail
      go_meet
      case rel => exact ⟨by rw [← hset]; exact (rs_other1 (rs_other1 (rs_other1 (rs_other1 (rs_same1 HR3.out.2.1 170 (.int .i64 3)) (show w.heap.size + 1 ≠ w.heap.size + 2 by omega) 0 _) (show w.heap.size + 1 ≠ w.heap.size + 2 by omega) 1 _) (show w.heap.size + 1 ≠ w.heap.size + 2 by omega) 2 _) (show w.heap.size + 1 ≠ w.heap.size + 2 by omega) 3 _), (rs_other1 (rs_other1 (rs_other1 (rs_other1 (rs_other1 HR3.out.1 (show w.heap.size ≠ w.heap.size + 1 by omega) 170 _) (show w.heap.size ≠ w.heap.size + 2 by omega) 0 _) (show w.heap.size ≠ w.heap.size + 2 by omega) 1 _) (show w.heap.size ≠ w.heap.size + 2 by omega) 2 _) (show w.heap.size ≠ w.heap.size + 2 by omega) 3 _), (show _ from (rs_same1 (rs_same1 (rs_same1 (rs_same1 (rs_other1 HR3.out.2.2 (show w.heap.size + 2 ≠ w.heap.size + 1 by omega) 170 _) 0 (.int .i64 10)) 1 (.int .i64 4)) 2 (.int .i64 (t : Int))) 3 (.int .i64 1))), (Below.setCell (Below.setCell (Below.setCell (Below.setCell (Below.setCell HB3.out (p := ⟨w.heap.size + 1, 170, none⟩) (by simp) _) (p := ⟨w.heap.size + 2, 0, none⟩) (by simp) _) (p := ⟨w.heap.size + 2, 1, none⟩) (by simp) _) (p := ⟨w.heap.size + 2, 2, none⟩) (by simp) _) (p := ⟨w.heap.size + 2, 3, none⟩) (by simp) _)⟩
    · have h1 : (IntKind.u64.wrap turn).tmod 10 = 5 := H1.out
      have hset : (Array.setIfInBounds (rowOf (story 0 t 1 g)) 104 (.int .i64 4)) = rowOf (story (5 : Nat) t 1 g) := by kernel_rfl
      have x104 : w3.cell? ⟨w.heap.size + 1, 104, none⟩ = some (.int .i64 8) := (row_cell HR3.out.2.1 104).trans (by kernel_rfl)
      go_wp2_with fail
      go_meet
      case rel => exact ⟨by rw [← hset]; exact (rs_other1 (rs_other1 (rs_other1 (rs_other1 (rs_same1 HR3.out.2.1 104 (.int .i64 4)) (show w.heap.size + 1 ≠ w.heap.size + 2 by omega) 0 _) (show w.heap.size + 1 ≠ w.heap.size + 2 by omega) 1 _) (show w.heap.size + 1 ≠ w.heap.size + 2 by omega) 2 _) (show w.heap.size + 1 ≠ w.heap.size + 2 by omega) 3 _), (rs_other1 (rs_other1 (rs_other1 (rs_other1 (rs_other1 HR3.out.1 (show w.heap.size ≠ w.heap.size + 1 by omega) 104 _) (show w.heap.size ≠ w.heap.size + 2 by omega) 0 _) (show w.heap.size ≠ w.heap.size + 2 by omega) 1 _) (show w.heap.size ≠ w.heap.size + 2 by omega) 2 _) (show w.heap.size ≠ w.heap.size + 2 by omega) 3 _), (show _ from (rs_same1 (rs_same1 (rs_same1 (rs_same1 (rs_other1 HR3.out.2.2 (show w.heap.size + 2 ≠ w.heap.size + 1 by omega) 104 _) 0 (.int .i64 6)) 1 (.int .i64 5)) 2 (.int .i64 (t : Int))) 3 (.int .i64 1))), (Below.setCell (Below.setCell (Below.setCell (Below.setCell (Below.setCell HB3.out (p := ⟨w.heap.size + 1, 104, none⟩) (by simp) _) (p := ⟨w.heap.size + 2, 0, none⟩) (by simp) _) (p := ⟨w.heap.size + 2, 1, none⟩) (by simp) _) (p := ⟨w.heap.size + 2, 2, none⟩) (by simp) _) (p := ⟨w.heap.size + 2, 3, none⟩) (by simp) _)⟩
    · have h1 : (IntKind.u64.wrap turn).tmod 10 = 6 := H1.out
      have hset : (Array.setIfInBounds (rowOf (story 0 t 1 g)) 39 (.bool false)) = rowOf (story (6 : Nat) t 1 g) := by kernel_rfl
      have x39 : w3.cell? ⟨w.heap.size + 1, 39, none⟩ = some (.bool true) := (row_cell HR3.out.2.1 39).trans (by kernel_rfl)
      go_wp2_with fail
      go_meet
      case rel => exact ⟨by rw [← hset]; exact (rs_other1 (rs_other1 (rs_other1 (rs_other1 (rs_same1 HR3.out.2.1 39 (.bool false)) (show w.heap.size + 1 ≠ w.heap.size + 2 by omega) 0 _) (show w.heap.size + 1 ≠ w.heap.size + 2 by omega) 1 _) (show w.heap.size + 1 ≠ w.heap.size + 2 by omega) 2 _) (show w.heap.size + 1 ≠ w.heap.size + 2 by omega) 3 _), (rs_other1 (rs_other1 (rs_other1 (rs_other1 (rs_other1 HR3.out.1 (show w.heap.size ≠ w.heap.size + 1 by omega) 39 _) (show w.heap.size ≠ w.heap.size + 2 by omega) 0 _) (show w.heap.size ≠ w.heap.size + 2 by omega) 1 _) (show w.heap.size ≠ w.heap.size + 2 by omega) 2 _) (show w.heap.size ≠ w.heap.size + 2 by omega) 3 _), (show _ from (rs_same1 (rs_same1 (rs_same1 (rs_same1 (rs_other1 HR3.out.2.2 (show w.heap.size + 2 ≠ w.heap.size + 1 by omega) 39 _) 0 (.int .i64 5)) 1 (.int .i64 1)) 2 (.int .i64 (1 - (t : Int)))) 3 (.int .i64 1))), (Below.setCell (Below.setCell (Below.setCell (Below.setCell (Below.setCell HB3.out (p := ⟨w.heap.size + 1, 39, none⟩) (by simp) _) (p := ⟨w.heap.size + 2, 0, none⟩) (by simp) _) (p := ⟨w.heap.size + 2, 1, none⟩) (by simp) _) (p := ⟨w.heap.size + 2, 2, none⟩) (by simp) _) (p := ⟨w.heap.size + 2, 3, none⟩) (by simp) _)⟩
    · have h1 : (IntKind.u64.wrap turn).tmod 10 = 7 := H1.out
      have hset : (Array.setIfInBounds (rowOf (story 0 t 1 g)) 104 (.int .i64 9)) = rowOf (story (7 : Nat) t 1 g) := by kernel_rfl
      have x104 : w3.cell? ⟨w.heap.size + 1, 104, none⟩ = some (.int .i64 8) := (row_cell HR3.out.2.1 104).trans (by kernel_rfl)
      go_wp2_with fail
      go_meet
      case rel => exact ⟨by rw [← hset]; exact (rs_other1 (rs_other1 (rs_other1 (rs_other1 (rs_same1 HR3.out.2.1 104 (.int .i64 9)) (show w.heap.size + 1 ≠ w.heap.size + 2 by omega) 0 _) (show w.heap.size + 1 ≠ w.heap.size + 2 by omega) 1 _) (show w.heap.size + 1 ≠ w.heap.size + 2 by omega) 2 _) (show w.heap.size + 1 ≠ w.heap.size + 2 by omega) 3 _), (rs_other1 (rs_other1 (rs_other1 (rs_other1 (rs_other1 HR3.out.1 (show w.heap.size ≠ w.heap.size + 1 by omega) 104 _) (show w.heap.size ≠ w.heap.size + 2 by omega) 0 _) (show w.heap.size ≠ w.heap.size + 2 by omega) 1 _) (show w.heap.size ≠ w.heap.size + 2 by omega) 2 _) (show w.heap.size ≠ w.heap.size + 2 by omega) 3 _), (show _ from (rs_same1 (rs_same1 (rs_same1 (rs_same1 (rs_other1 HR3.out.2.2 (show w.heap.size + 2 ≠ w.heap.size + 1 by omega) 104 _) 0 (.int .i64 6)) 1 (.int .i64 7)) 2 (.int .i64 (t : Int))) 3 (.int .i64 1))), (Below.setCell (Below.setCell (Below.setCell (Below.setCell (Below.setCell HB3.out (p := ⟨w.heap.size + 1, 104, none⟩) (by simp) _) (p := ⟨w.heap.size + 2, 0, none⟩) (by simp) _) (p := ⟨w.heap.size + 2, 1, none⟩) (by simp) _) (p := ⟨w.heap.size + 2, 2, none⟩) (by simp) _) (p := ⟨w.heap.size + 2, 3, none⟩) (by simp) _)⟩
    · have h1 : (IntKind.u64.wrap turn).tmod 10 = 8 := H1.out
      have hset : (Array.setIfInBounds (rowOf (story 0 t 1 g)) 139 (.int .i64 ((g : Int) + 1))) = rowOf (story (8 : Nat) t 1 g) := by kernel_rfl
      have x139 : w3.cell? ⟨w.heap.size + 1, 139, none⟩ = some (.int .i64 (g : Int)) := (row_cell HR3.out.2.1 139).trans (by kernel_rfl)
      go_wp2_with fail
      go_meet
      case rel => exact ⟨by rw [← hset]; exact (rs_other1 (rs_other1 (rs_other1 (rs_other1 (rs_same1 HR3.out.2.1 139 (.int .i64 ((g : Int) + 1))) (show w.heap.size + 1 ≠ w.heap.size + 2 by omega) 0 _) (show w.heap.size + 1 ≠ w.heap.size + 2 by omega) 1 _) (show w.heap.size + 1 ≠ w.heap.size + 2 by omega) 2 _) (show w.heap.size + 1 ≠ w.heap.size + 2 by omega) 3 _), (rs_other1 (rs_other1 (rs_other1 (rs_other1 (rs_other1 HR3.out.1 (show w.heap.size ≠ w.heap.size + 1 by omega) 139 _) (show w.heap.size ≠ w.heap.size + 2 by omega) 0 _) (show w.heap.size ≠ w.heap.size + 2 by omega) 1 _) (show w.heap.size ≠ w.heap.size + 2 by omega) 2 _) (show w.heap.size ≠ w.heap.size + 2 by omega) 3 _), (show _ from (rs_same1 (rs_same1 (rs_same1 (rs_same1 (rs_other1 HR3.out.2.2 (show w.heap.size + 2 ≠ w.heap.size + 1 by omega) 139 _) 0 (.int .i64 9)) 1 (.int .i64 8)) 2 (.int .i64 (t : Int))) 3 (.int .i64 1))), (Below.setCell (Below.setCell (Below.setCell (Below.setCell (Below.setCell HB3.out (p := ⟨w.heap.size + 1, 139, none⟩) (by simp) _) (p := ⟨w.heap.size + 2, 0, none⟩) (by simp) _) (p := ⟨w.heap.size + 2, 1, none⟩) (by simp) _) (p := ⟨w.heap.size + 2, 2, none⟩) (by simp) _) (p := ⟨w.heap.size + 2, 3, none⟩) (by simp) _)⟩
    · have h1 : (IntKind.u64.wrap turn).tmod 10 = 9 := H1.out
      have hset : (Array.setIfInBounds (Array.setIfInBounds (rowOf (story 0 t 1 g)) 136 (.int .i64 8)) 137 (.int .i64 2)) = rowOf (story (9 : Nat) t 1 g) := by kernel_rfl
      have x136 : w3.cell? ⟨w.heap.size + 1, 136, none⟩ = some (.int .i64 7) := (row_cell HR3.out.2.1 136).trans (by kernel_rfl)
      have x137 : w3.cell? ⟨w.heap.size + 1, 137, none⟩ = some (.int .i64 0) := (row_cell HR3.out.2.1 137).trans (by kernel_rfl)
      go_wp2_with fail
      go_meet
      case rel => exact ⟨by rw [← hset]; exact (rs_same1 (rs_other1 (rs_other1 (rs_other1 (rs_other1 (rs_same1 HR3.out.2.1 136 (.int .i64 8)) (show w.heap.size + 1 ≠ w.heap.size + 2 by omega) 0 _) (show w.heap.size + 1 ≠ w.heap.size + 2 by omega) 1 _) (show w.heap.size + 1 ≠ w.heap.size + 2 by omega) 2 _) (show w.heap.size + 1 ≠ w.heap.size + 2 by omega) 3 _) 137 (.int .i64 2)), (rs_other1 (rs_other1 (rs_other1 (rs_other1 (rs_other1 (rs_other1 HR3.out.1 (show w.heap.size ≠ w.heap.size + 1 by omega) 136 _) (show w.heap.size ≠ w.heap.size + 2 by omega) 0 _) (show w.heap.size ≠ w.heap.size + 2 by omega) 1 _) (show w.heap.size ≠ w.heap.size + 2 by omega) 2 _) (show w.heap.size ≠ w.heap.size + 2 by omega) 3 _) (show w.heap.size ≠ w.heap.size + 1 by omega) 137 _), (show _ from (rs_other1 (rs_same1 (rs_same1 (rs_same1 (rs_same1 (rs_other1 HR3.out.2.2 (show w.heap.size + 2 ≠ w.heap.size + 1 by omega) 136 _) 0 (.int .i64 8)) 1 (.int .i64 6)) 2 (.int .i64 (1 - (t : Int)))) 3 (.int .i64 0)) (show w.heap.size + 2 ≠ w.heap.size + 1 by omega) 137 _)), (Below.setCell (Below.setCell (Below.setCell (Below.setCell (Below.setCell (Below.setCell HB3.out (p := ⟨w.heap.size + 1, 136, none⟩) (by simp) _) (p := ⟨w.heap.size + 2, 0, none⟩) (by simp) _) (p := ⟨w.heap.size + 2, 1, none⟩) (by simp) _) (p := ⟨w.heap.size + 2, 2, none⟩) (by simp) _) (p := ⟨w.heap.size + 2, 3, none⟩) (by simp) _) (p := ⟨w.heap.size + 1, 137, none⟩) (by simp) _)⟩

  case rest =>
    obtain ⟨va, vf, vt, vs, hV⟩ : ∃ va vf vt vs, wantV k t = ⟨va, vf, vt, vs⟩ := ⟨_, _, _, _, rfl⟩
    obtain ⟨rL, rN, rD, hB⟩ := hcut
    have hb := both (c := 1) (by decide) hk ht hg
    rw [hV] at rD hb
    have hin : EvsIn (some ⟨w.heap.size + 1, 0, none⟩) (story (k : Nat) t 1 g) wc := evsIn_row rL
    have hok := story_ok k t g hk ht hg 1 (by decide)
    have hlen : (story (k : Nat) t 1 g).length = 11 := rfl
    have CK := Lib.hid (show ∀ W, Below wc.heap.size wc W → Calls Tryd.prog 14 #[.agg #[.int .i64 2, .int .i64 5, .int .i64 0, .int .i64 1], .slice (some ⟨w.heap.size + 1, 0, none⟩) 11 11] W fun x w' => x = .returned (.agg #[.int .i64 va, .int .i64 vf, .int .i64 vt, .int .i64 vs]) ∧ Below W.heap.size W w' from fun W hW => by
      have := check_any 2 5 0 1 (by decide) (some ⟨w.heap.size + 1, 0, none⟩) 11 11 _ hlen (by decide) hok W ((HZ.out.below hB).below hW) (hin.below hW)
      rw [show chkF (start 2 5 0 1) 0 (story (k : Nat) t 1 g) = _ from hb.1] at this
      exact this)
    have CR := Lib.hid (show ∀ W, Below wc.heap.size wc W → Calls Tryd.prog 15 #[.agg #[.int .i64 2, .int .i64 5, .int .i64 0, .int .i64 1], .slice (some ⟨w.heap.size + 1, 0, none⟩) 11 11] W fun x w' => x = .returned (.agg #[.int .i64 va, .int .i64 vf, .int .i64 vt, .int .i64 vs]) ∧ Below W.heap.size W w' from fun W hW => by
      exact refCheck_any 0 1 (by decide) (some ⟨w.heap.size + 1, 0, none⟩) 11 11 _ hlen (by decide) hok _ hb.2 W (hin.below hW))
    have n0 : wc.cell? ⟨w.heap.size, 0, none⟩ = some (.int .i64 2) := row_cell rN 0
    have n1 : wc.cell? ⟨w.heap.size, 1, none⟩ = some (.int .i64 5) := row_cell rN 1
    have n2 : wc.cell? ⟨w.heap.size, 2, none⟩ = some (.int .i64 0) := row_cell rN 2
    have n3 : wc.cell? ⟨w.heap.size, 3, none⟩ = some (.int .i64 1) := row_cell rN 3
    have d0 : wc.cell? ⟨w.heap.size + 2, 0, none⟩ = some (.int .i64 va) := row_cell rD 0
    have d1 : wc.cell? ⟨w.heap.size + 2, 1, none⟩ = some (.int .i64 vf) := row_cell rD 1
    have d2 : wc.cell? ⟨w.heap.size + 2, 2, none⟩ = some (.int .i64 vt) := row_cell rD 2
    have d3 : wc.cell? ⟨w.heap.size + 2, 3, none⟩ = some (.int .i64 vs) := row_cell rD 3
    have HB := Lib.hid hB
    clear rL rN rD hB hb hin hok hlen HR3 HB3 hV
    go_wp2_with fail
    go_region_with (first
      | (go_at_call 14; refine (CK.out _ (Below.refl _ _).drew).mono ?_; rintro x w5 ⟨rfl, hb5⟩
         have n0' := keep hb5 (show (World.drew wc).cell? _ = _ from n0)
         have n1' := keep hb5 (show (World.drew wc).cell? _ = _ from n1)
         have n2' := keep hb5 (show (World.drew wc).cell? _ = _ from n2)
         have n3' := keep hb5 (show (World.drew wc).cell? _ = _ from n3)
         have d0' := keep hb5 (show (World.drew wc).cell? _ = _ from d0)
         have d1' := keep hb5 (show (World.drew wc).cell? _ = _ from d1)
         have d2' := keep hb5 (show (World.drew wc).cell? _ = _ from d2)
         have d3' := keep hb5 (show (World.drew wc).cell? _ = _ from d3)
         have HB5 := Lib.hid (show Below wc.heap.size wc w5 from (Below.refl _ _).drew.trans (hb5.mono (Nat.le_refl _)))
         clear hb5)
      | (go_at_call 15; refine (CR.out _ HB5.out).mono ?_; rintro x w6 ⟨rfl, hb6⟩
         have d0'' := keep hb6 d0'
         have d1'' := keep hb6 d1'
         have d2'' := keep hb6 d2'
         have d3'' := keep hb6 d3'
         have HB6 := Lib.hid (HB5.out.trans (hb6.mono HB5.out.size))
         clear hb6)
      | (go_at_call 8; refine (known_any _ ((HZ.out.below HB.out).below HB6.out)).mono ?_; rintro x w7 ⟨rfl, hb7⟩
         have HB7 := Lib.hid (HB6.out.trans (hb7.mono HB6.out.size))
         clear hb7))
    all_goals
      go_wp2
      go_returns
      exact ⟨rfl, HB.out.trans (HB7.out.mono HB.out.size)⟩
end Go.Proofs.YtejfcmgnacimgaaDoor
