/- The contract of judge, part c: which rule an event breaks, and which slot it is about. -/
import Derived.Test.YtejfcmgnacimgaaDoorA6
namespace Go.Proofs.YtejfcmgnacimgaaDoor
open Go.RowKit
set_option linter.unusedVariables false
set_option linter.unusedSimpArgs false


set_option maxHeartbeats 4000000 in
set_option maxRecDepth 100000 in
theorem judge_D1 {R S M : Nat} {s : RS} (hs : s.Ok) (e : Ev) (he : e.Ok) (w : World) (h : RepAt R S M s w) (n : Nat) (hn : n < s.m) (wd : Int) (hsub : subj s e = ((n : Int), wd))
    (hT : Hid (thB s e.th = true)) (ha : Hid (accB e.kind = false)) (n3 : Hid (ntB e 3 = false)) (n4 : Hid (ntB e 4 = true)) (n8 : Hid (ntB e 8 = false)) (n9 : Hid (ntB e 9 = false)) (ho : Hid (ownB s e.th n = false)) :
    Calls Tryd.prog 22 #[.pointer (some ⟨R, 0, none⟩), .agg (evCells e)] w fun x w' => x = .returned (.tuple #[.int .i64 5, .int .i64 n]) ∧ Below w.heap.size w w' := by
  have hb0 : Below w.heap.size w (w.alloc (.cells (evCells e) 54)) := by go_grown
  have HE0 := Lib.hid (EvAt.new e w 54)
  have HR0 := Lib.hid (h.below hb0)
  have HB0 := Lib.hid hb0
  have HSUB := Lib.hid hsub
  clear hb0 h hsub
  obtain ⟨q0, q1, q2, q3, q4, q5, q6, q7, q8, q9, q10, q11, q12, q13, q14, q15⟩ := HE0.out
  go_enter Tryd.func22, Tryd.ntmps22
  go_wp2_with fail
  refine (subject_any hs e he _ HR0.out).mono ?_
  rintro x w1 ⟨rfl, hb1⟩
  rw [HSUB.out]
  have HE := Lib.hid (HE0.out.below hb1)
  have HR := Lib.hid (HR0.out.below hb1)
  have HB := Lib.hid (HB0.out.trans (hb1.mono (by simp)))
  clear q0 q1 q2 q3 q4 q5 q6 q7 q8 q9 q10 q11 q12 q13 q14 q15
  have c1 := (HE0.out.below hb1).c1
  have c2 := (HE0.out.below hb1).c2
  have c3 := (HE0.out.below hb1).c3
  have c8 := (HE0.out.below hb1).c8
  have c10 := (HE0.out.below hb1).c10
  have r4 := HR.out.r4
  obtain ⟨d0, d1, -, -, -, -⟩ := HR.out.slot hn
  clear hb1 HE0 HR0 HB0 HSUB
  generalize w.heap.size = E at HE c1 c2 c3 c8 c10 ⊢
  go_wp2_with fail
  refine (isAccess_any _ _).mono ?_
  rintro x w' ⟨rfl, rfl⟩
  rw [ha.out]
  go_wp2_with fail
  refine (hasThread_any _ _ HR.out).mono ?_
  rintro x w' ⟨rfl, rfl⟩
  rw [hT.out]
  go_wp2_with fail
  refine (notes_e _ e _ n3.out _ HE.out).mono ?_
  rintro x w' ⟨rfl, rfl⟩
  go_wp2_with fail
  go_quiet (((go_at_call 29; exact notes_v _ e _ n3.out _ HE.out _)))
  have hbq : Below w1.heap.size w1 (w1.drewN nq) := below_drewN (Below.refl _ _) _
  have HE3 := Lib.hid (HE.out.below hbq)
  have HR3 := Lib.hid (HR.out.below hbq)
  have HB3 := Lib.hid (HB.out.trans (hbq.mono HB.out.size))
  clear d0 d1 r4 c1 c2 c3 c8 c10
  have r4 := HR3.out.r4
  obtain ⟨d0, d1, -, -, -, -⟩ := HR3.out.slot hn
  have c1 := HE3.out.c1
  have c2 := HE3.out.c2
  have c3 := HE3.out.c3
  have c8 := HE3.out.c8
  have c10 := HE3.out.c10
  clear hbq
  generalize w1.drewN nq = w3 at HE3 HR3 HB3 r4 d0 d1 c1 c2 c3 c8 c10 ⊢
  go_wp2_with fail
  refine (notes_e _ e _ n4.out _ HE3.out).mono ?_
  rintro x w' ⟨rfl, rfl⟩
  go_wp2_with fail
  refine (owns_any _ _ _ HR3.out).mono ?_
  rintro x w' ⟨rfl, rfl⟩
  rw [ho.out]
  go_wp2
  go_returns
  first
  | exact ⟨rfl, HB3.out⟩
  | exact ⟨by simp [*], HB3.out⟩

set_option maxHeartbeats 4000000 in
set_option maxRecDepth 100000 in
theorem judge_D2 {R S M : Nat} {s : RS} (hs : s.Ok) (e : Ev) (he : e.Ok) (w : World) (h : RepAt R S M s w) (n : Nat) (hn : n < s.m) (wd : Int) (hsub : subj s e = ((n : Int), wd))
    (hT : Hid (thB s e.th = true)) (ha : Hid (accB e.kind = false)) (n3 : Hid (ntB e 3 = false)) (n4 : Hid (ntB e 4 = true)) (n8 : Hid (ntB e 8 = false)) (n9 : Hid (ntB e 9 = false)) (ho : Hid (ownB s e.th n = true)) :
    Calls Tryd.prog 22 #[.pointer (some ⟨R, 0, none⟩), .agg (evCells e)] w fun x w' => x = .returned (.tuple #[.int .i64 0, .int .i64 n]) ∧ Below w.heap.size w w' := by
  have hb0 : Below w.heap.size w (w.alloc (.cells (evCells e) 54)) := by go_grown
  have HE0 := Lib.hid (EvAt.new e w 54)
  have HR0 := Lib.hid (h.below hb0)
  have HB0 := Lib.hid hb0
  have HSUB := Lib.hid hsub
  clear hb0 h hsub
  obtain ⟨q0, q1, q2, q3, q4, q5, q6, q7, q8, q9, q10, q11, q12, q13, q14, q15⟩ := HE0.out
  go_enter Tryd.func22, Tryd.ntmps22
  go_wp2_with fail
  refine (subject_any hs e he _ HR0.out).mono ?_
  rintro x w1 ⟨rfl, hb1⟩
  rw [HSUB.out]
  have HE := Lib.hid (HE0.out.below hb1)
  have HR := Lib.hid (HR0.out.below hb1)
  have HB := Lib.hid (HB0.out.trans (hb1.mono (by simp)))
  clear q0 q1 q2 q3 q4 q5 q6 q7 q8 q9 q10 q11 q12 q13 q14 q15
  have c1 := (HE0.out.below hb1).c1
  have c2 := (HE0.out.below hb1).c2
  have c3 := (HE0.out.below hb1).c3
  have c8 := (HE0.out.below hb1).c8
  have c10 := (HE0.out.below hb1).c10
  have r4 := HR.out.r4
  obtain ⟨d0, d1, -, -, -, -⟩ := HR.out.slot hn
  clear hb1 HE0 HR0 HB0 HSUB
  generalize w.heap.size = E at HE c1 c2 c3 c8 c10 ⊢
  go_wp2_with fail
  refine (isAccess_any _ _).mono ?_
  rintro x w' ⟨rfl, rfl⟩
  rw [ha.out]
  go_wp2_with fail
  refine (hasThread_any _ _ HR.out).mono ?_
  rintro x w' ⟨rfl, rfl⟩
  rw [hT.out]
  go_wp2_with fail
  refine (notes_e _ e _ n3.out _ HE.out).mono ?_
  rintro x w' ⟨rfl, rfl⟩
  go_wp2_with fail
  go_quiet (((go_at_call 29; exact notes_v _ e _ n3.out _ HE.out _)))
  have hbq : Below w1.heap.size w1 (w1.drewN nq) := below_drewN (Below.refl _ _) _
  have HE3 := Lib.hid (HE.out.below hbq)
  have HR3 := Lib.hid (HR.out.below hbq)
  have HB3 := Lib.hid (HB.out.trans (hbq.mono HB.out.size))
  clear d0 d1 r4 c1 c2 c3 c8 c10
  have r4 := HR3.out.r4
  obtain ⟨d0, d1, -, -, -, -⟩ := HR3.out.slot hn
  have c1 := HE3.out.c1
  have c2 := HE3.out.c2
  have c3 := HE3.out.c3
  have c8 := HE3.out.c8
  have c10 := HE3.out.c10
  clear hbq
  generalize w1.drewN nq = w3 at HE3 HR3 HB3 r4 d0 d1 c1 c2 c3 c8 c10 ⊢
  go_wp2_with fail
  refine (notes_e _ e _ n4.out _ HE3.out).mono ?_
  rintro x w' ⟨rfl, rfl⟩
  go_wp2_with fail
  refine (owns_any _ _ _ HR3.out).mono ?_
  rintro x w' ⟨rfl, rfl⟩
  rw [ho.out]
  go_wp2_with fail
  refine (notes_e _ e _ n8.out _ HE3.out).mono ?_
  rintro x w' ⟨rfl, rfl⟩
  go_wp2_with fail
  refine (notes_e _ e _ n9.out _ HE3.out).mono ?_
  rintro x w' ⟨rfl, rfl⟩
  go_wp2_with fail
  refine (notes_e _ e _ n9.out _ HE3.out).mono ?_
  rintro x w' ⟨rfl, rfl⟩
  go_wp2
  go_returns
  first
  | exact ⟨rfl, HB3.out⟩
  | exact ⟨by simp [*], HB3.out⟩

set_option maxHeartbeats 4000000 in
set_option maxRecDepth 100000 in
theorem judge_E1 {R S M : Nat} {s : RS} (hs : s.Ok) (e : Ev) (he : e.Ok) (w : World) (h : RepAt R S M s w) (n : Nat) (hn : n < s.m) (wd : Int) (hsub : subj s e = ((n : Int), wd))
    (hT : Hid (thB s e.th = true)) (ha : Hid (accB e.kind = false)) (n3 : Hid (ntB e 3 = false)) (n4 : Hid (ntB e 4 = false)) (n8 : Hid (ntB e 8 = true)) (n9 : Hid (ntB e 9 = false)) (hst : ((s.sl n).st != 2) = true) :
    Calls Tryd.prog 22 #[.pointer (some ⟨R, 0, none⟩), .agg (evCells e)] w fun x w' => x = .returned (.tuple #[.int .i64 6, .int .i64 n]) ∧ Below w.heap.size w w' := by
  have hb0 : Below w.heap.size w (w.alloc (.cells (evCells e) 54)) := by go_grown
  have HE0 := Lib.hid (EvAt.new e w 54)
  have HR0 := Lib.hid (h.below hb0)
  have HB0 := Lib.hid hb0
  have HSUB := Lib.hid hsub
  clear hb0 h hsub
  obtain ⟨q0, q1, q2, q3, q4, q5, q6, q7, q8, q9, q10, q11, q12, q13, q14, q15⟩ := HE0.out
  go_enter Tryd.func22, Tryd.ntmps22
  go_wp2_with fail
  refine (subject_any hs e he _ HR0.out).mono ?_
  rintro x w1 ⟨rfl, hb1⟩
  rw [HSUB.out]
  have HE := Lib.hid (HE0.out.below hb1)
  have HR := Lib.hid (HR0.out.below hb1)
  have HB := Lib.hid (HB0.out.trans (hb1.mono (by simp)))
  clear q0 q1 q2 q3 q4 q5 q6 q7 q8 q9 q10 q11 q12 q13 q14 q15
  have c1 := (HE0.out.below hb1).c1
  have c2 := (HE0.out.below hb1).c2
  have c3 := (HE0.out.below hb1).c3
  have c8 := (HE0.out.below hb1).c8
  have c10 := (HE0.out.below hb1).c10
  have r4 := HR.out.r4
  obtain ⟨d0, d1, -, -, -, -⟩ := HR.out.slot hn
  clear hb1 HE0 HR0 HB0 HSUB
  generalize w.heap.size = E at HE c1 c2 c3 c8 c10 ⊢
  go_wp2_with fail
  refine (isAccess_any _ _).mono ?_
  rintro x w' ⟨rfl, rfl⟩
  rw [ha.out]
  go_wp2_with fail
  refine (hasThread_any _ _ HR.out).mono ?_
  rintro x w' ⟨rfl, rfl⟩
  rw [hT.out]
  go_wp2_with fail
  refine (notes_e _ e _ n3.out _ HE.out).mono ?_
  rintro x w' ⟨rfl, rfl⟩
  go_wp2_with fail
  go_quiet (((go_at_call 29; exact notes_v _ e _ n3.out _ HE.out _)))
  have hbq : Below w1.heap.size w1 (w1.drewN nq) := below_drewN (Below.refl _ _) _
  have HE3 := Lib.hid (HE.out.below hbq)
  have HR3 := Lib.hid (HR.out.below hbq)
  have HB3 := Lib.hid (HB.out.trans (hbq.mono HB.out.size))
  clear d0 d1 r4 c1 c2 c3 c8 c10
  have r4 := HR3.out.r4
  obtain ⟨d0, d1, -, -, -, -⟩ := HR3.out.slot hn
  have c1 := HE3.out.c1
  have c2 := HE3.out.c2
  have c3 := HE3.out.c3
  have c8 := HE3.out.c8
  have c10 := HE3.out.c10
  clear hbq
  generalize w1.drewN nq = w3 at HE3 HR3 HB3 r4 d0 d1 c1 c2 c3 c8 c10 ⊢
  go_wp2_with fail
  refine (notes_e _ e _ n4.out _ HE3.out).mono ?_
  rintro x w' ⟨rfl, rfl⟩
  go_wp2_with fail
  refine (notes_e _ e _ n8.out _ HE3.out).mono ?_
  rintro x w' ⟨rfl, rfl⟩
  go_wp2
  go_returns
  first
  | exact ⟨rfl, HB3.out⟩
  | exact ⟨by simp [*], HB3.out⟩

set_option maxHeartbeats 4000000 in
set_option maxRecDepth 100000 in
theorem judge_E2 {R S M : Nat} {s : RS} (hs : s.Ok) (e : Ev) (he : e.Ok) (w : World) (h : RepAt R S M s w) (n : Nat) (hn : n < s.m) (wd : Int) (hsub : subj s e = ((n : Int), wd))
    (hT : Hid (thB s e.th = true)) (ha : Hid (accB e.kind = false)) (n3 : Hid (ntB e 3 = false)) (n4 : Hid (ntB e 4 = false)) (n8 : Hid (ntB e 8 = true)) (n9 : Hid (ntB e 9 = false)) (hst : ((s.sl n).st != 2) = false) :
    Calls Tryd.prog 22 #[.pointer (some ⟨R, 0, none⟩), .agg (evCells e)] w fun x w' => x = .returned (.tuple #[.int .i64 0, .int .i64 n]) ∧ Below w.heap.size w w' := by
  have hb0 : Below w.heap.size w (w.alloc (.cells (evCells e) 54)) := by go_grown
  have HE0 := Lib.hid (EvAt.new e w 54)
  have HR0 := Lib.hid (h.below hb0)
  have HB0 := Lib.hid hb0
  have HSUB := Lib.hid hsub
  clear hb0 h hsub
  obtain ⟨q0, q1, q2, q3, q4, q5, q6, q7, q8, q9, q10, q11, q12, q13, q14, q15⟩ := HE0.out
  go_enter Tryd.func22, Tryd.ntmps22
  go_wp2_with fail
  refine (subject_any hs e he _ HR0.out).mono ?_
  rintro x w1 ⟨rfl, hb1⟩
  rw [HSUB.out]
  have HE := Lib.hid (HE0.out.below hb1)
  have HR := Lib.hid (HR0.out.below hb1)
  have HB := Lib.hid (HB0.out.trans (hb1.mono (by simp)))
  clear q0 q1 q2 q3 q4 q5 q6 q7 q8 q9 q10 q11 q12 q13 q14 q15
  have c1 := (HE0.out.below hb1).c1
  have c2 := (HE0.out.below hb1).c2
  have c3 := (HE0.out.below hb1).c3
  have c8 := (HE0.out.below hb1).c8
  have c10 := (HE0.out.below hb1).c10
  have r4 := HR.out.r4
  obtain ⟨d0, d1, -, -, -, -⟩ := HR.out.slot hn
  clear hb1 HE0 HR0 HB0 HSUB
  generalize w.heap.size = E at HE c1 c2 c3 c8 c10 ⊢
  go_wp2_with fail
  refine (isAccess_any _ _).mono ?_
  rintro x w' ⟨rfl, rfl⟩
  rw [ha.out]
  go_wp2_with fail
  refine (hasThread_any _ _ HR.out).mono ?_
  rintro x w' ⟨rfl, rfl⟩
  rw [hT.out]
  go_wp2_with fail
  refine (notes_e _ e _ n3.out _ HE.out).mono ?_
  rintro x w' ⟨rfl, rfl⟩
  go_wp2_with fail
  go_quiet (((go_at_call 29; exact notes_v _ e _ n3.out _ HE.out _)))
  have hbq : Below w1.heap.size w1 (w1.drewN nq) := below_drewN (Below.refl _ _) _
  have HE3 := Lib.hid (HE.out.below hbq)
  have HR3 := Lib.hid (HR.out.below hbq)
  have HB3 := Lib.hid (HB.out.trans (hbq.mono HB.out.size))
  clear d0 d1 r4 c1 c2 c3 c8 c10
  have r4 := HR3.out.r4
  obtain ⟨d0, d1, -, -, -, -⟩ := HR3.out.slot hn
  have c1 := HE3.out.c1
  have c2 := HE3.out.c2
  have c3 := HE3.out.c3
  have c8 := HE3.out.c8
  have c10 := HE3.out.c10
  clear hbq
  generalize w1.drewN nq = w3 at HE3 HR3 HB3 r4 d0 d1 c1 c2 c3 c8 c10 ⊢
  go_wp2_with fail
  refine (notes_e _ e _ n4.out _ HE3.out).mono ?_
  rintro x w' ⟨rfl, rfl⟩
  go_wp2_with fail
  refine (notes_e _ e _ n8.out _ HE3.out).mono ?_
  rintro x w' ⟨rfl, rfl⟩
  go_wp2_with fail
  refine (notes_e _ e _ n9.out _ HE3.out).mono ?_
  rintro x w' ⟨rfl, rfl⟩
  go_wp2_with fail
  refine (notes_e _ e _ n9.out _ HE3.out).mono ?_
  rintro x w' ⟨rfl, rfl⟩
  go_wp2
  go_returns
  first
  | exact ⟨rfl, HB3.out⟩
  | exact ⟨by simp [*], HB3.out⟩

set_option maxHeartbeats 4000000 in
set_option maxRecDepth 100000 in
theorem judge_G1 {R S M : Nat} {s : RS} (hs : s.Ok) (e : Ev) (he : e.Ok) (w : World) (h : RepAt R S M s w) (n : Nat) (hn : n < s.m) (wd : Int) (hsub : subj s e = ((n : Int), wd))
    (hT : Hid (thB s e.th = true)) (ha : Hid (accB e.kind = false)) (n3 : Hid (ntB e 3 = false)) (n4 : Hid (ntB e 4 = false)) (n8 : Hid (ntB e 8 = false)) (n9 : Hid (ntB e 9 = false))  :
    Calls Tryd.prog 22 #[.pointer (some ⟨R, 0, none⟩), .agg (evCells e)] w fun x w' => x = .returned (.tuple #[.int .i64 0, .int .i64 n]) ∧ Below w.heap.size w w' := by
  have hb0 : Below w.heap.size w (w.alloc (.cells (evCells e) 54)) := by go_grown
  have HE0 := Lib.hid (EvAt.new e w 54)
  have HR0 := Lib.hid (h.below hb0)
  have HB0 := Lib.hid hb0
  have HSUB := Lib.hid hsub
  clear hb0 h hsub
  obtain ⟨q0, q1, q2, q3, q4, q5, q6, q7, q8, q9, q10, q11, q12, q13, q14, q15⟩ := HE0.out
  go_enter Tryd.func22, Tryd.ntmps22
  go_wp2_with fail
  refine (subject_any hs e he _ HR0.out).mono ?_
  rintro x w1 ⟨rfl, hb1⟩
  rw [HSUB.out]
  have HE := Lib.hid (HE0.out.below hb1)
  have HR := Lib.hid (HR0.out.below hb1)
  have HB := Lib.hid (HB0.out.trans (hb1.mono (by simp)))
  clear q0 q1 q2 q3 q4 q5 q6 q7 q8 q9 q10 q11 q12 q13 q14 q15
  have c1 := (HE0.out.below hb1).c1
  have c2 := (HE0.out.below hb1).c2
  have c3 := (HE0.out.below hb1).c3
  have c8 := (HE0.out.below hb1).c8
  have c10 := (HE0.out.below hb1).c10
  have r4 := HR.out.r4
  obtain ⟨d0, d1, -, -, -, -⟩ := HR.out.slot hn
  clear hb1 HE0 HR0 HB0 HSUB
  generalize w.heap.size = E at HE c1 c2 c3 c8 c10 ⊢
  go_wp2_with fail
  refine (isAccess_any _ _).mono ?_
  rintro x w' ⟨rfl, rfl⟩
  rw [ha.out]
  go_wp2_with fail
  refine (hasThread_any _ _ HR.out).mono ?_
  rintro x w' ⟨rfl, rfl⟩
  rw [hT.out]
  go_wp2_with fail
  refine (notes_e _ e _ n3.out _ HE.out).mono ?_
  rintro x w' ⟨rfl, rfl⟩
  go_wp2_with fail
  go_quiet (((go_at_call 29; exact notes_v _ e _ n3.out _ HE.out _)))
  have hbq : Below w1.heap.size w1 (w1.drewN nq) := below_drewN (Below.refl _ _) _
  have HE3 := Lib.hid (HE.out.below hbq)
  have HR3 := Lib.hid (HR.out.below hbq)
  have HB3 := Lib.hid (HB.out.trans (hbq.mono HB.out.size))
  clear d0 d1 r4 c1 c2 c3 c8 c10
  have r4 := HR3.out.r4
  obtain ⟨d0, d1, -, -, -, -⟩ := HR3.out.slot hn
  have c1 := HE3.out.c1
  have c2 := HE3.out.c2
  have c3 := HE3.out.c3
  have c8 := HE3.out.c8
  have c10 := HE3.out.c10
  clear hbq
  generalize w1.drewN nq = w3 at HE3 HR3 HB3 r4 d0 d1 c1 c2 c3 c8 c10 ⊢
  go_wp2_with fail
  refine (notes_e _ e _ n4.out _ HE3.out).mono ?_
  rintro x w' ⟨rfl, rfl⟩
  go_wp2_with fail
  refine (notes_e _ e _ n8.out _ HE3.out).mono ?_
  rintro x w' ⟨rfl, rfl⟩
  go_wp2_with fail
  refine (notes_e _ e _ n9.out _ HE3.out).mono ?_
  rintro x w' ⟨rfl, rfl⟩
  go_wp2_with fail
  refine (notes_e _ e _ n9.out _ HE3.out).mono ?_
  rintro x w' ⟨rfl, rfl⟩
  go_wp2
  go_returns
  first
  | exact ⟨rfl, HB3.out⟩
  | exact ⟨by simp [*], HB3.out⟩
end Go.Proofs.YtejfcmgnacimgaaDoor
