/- Do: an operation of an object. -/
import Derived.Test.YtphfcfnbefikiaaB1
import Derived.Test.YtphfcfnbefikiaaB3
namespace Go.Proofs.Ytphfcfnbefikiaa
open Go.RowKit
set_option linter.unusedVariables false
set_option linter.unusedSimpArgs false

theorem did_lift {w W w4 : World} {X H : Nat} {v : Value} {c : Int} {L L' : List Th} (h : Ob w X H v c L) (hb : Below w.heap.size w W) (bx : W.heap[w.heap.size]? = some box40) (hd : Did W X H v c L' w4) :
    w4.heap[w.heap.size]? = some box40 ∧ ∀ w3, Ch (some w.heap.size) none w4 w3 → Did w X H v c L' w3 := by
  obtain ⟨v', h1, h2, h3⟩ := hd
  have hlt := (Array.getElem?_eq_some_iff.1 bx).1
  have hH := h.ltH
  have hX := h.ltX
  refine ⟨(h2.block _ hlt (by simp only [ne_eq, Option.some.injEq]; omega) (fun e => by have := h.sl.lt e.symm; omega)).trans bx, fun w3 hc => ?_⟩
  have hvb : ∀ b, v'.ownBlock = some b → b ≠ w.heap.size := fun b hb' e => by
    subst e
    rcases h3 _ hb' with e' | e'
    · have := h.sl.lt e'; omega
    · omega
  refine ⟨v', h1.ch hc (by simp only [ne_eq, Option.some.injEq]; omega) (by simp) (by simp only [ne_eq, Option.some.injEq]; omega) (by simp) (fun b hb' e => hvb b hb' (by simpa using e.symm)) (fun b _ => by simp), ?_, fun k hk => ?_⟩
  · have hsz := hb.size
    have hsz2 := h2.size
    refine ⟨hc.os.trans (h2.os.trans hb.os), hc.tape.trans (h2.tape.trans hb.tape), hc.output.trans (h2.output.trans hb.output), Nat.le_trans hsz (Nat.le_trans hsz2 hc.size), fun k hk n1 n2 => ?_⟩
    rw [hc.block k (by omega) (by simp only [ne_eq, Option.some.injEq]; omega) (by simp), h2.block k (by omega) n1 n2]
    exact hb.block k hk
  · rcases h3 k hk with e | e
    · exact .inl e
    · right; have := hb.size; omega

/-- what a call of an operation is, in whatever comes of the object's world by growth -/
def OpIs (f : Nat) (w : World) (X H : Nat) (v : Value) (c k x : Int) (r : An × List Th) : Prop :=
  ∀ W, Below w.heap.size w W → Calls Try.prog f #[P X, u64 k, u64 x] W fun e w' => e = .returned (ansV r.1) ∧ Did W X H v c r.2 w'

set_option maxHeartbeats 4000000 in
theorem do_41 {X H : Nat} {v : Value} {c : Int} {L : List Th} (hc1 : 1 ≤ c) (hc2 : c ≤ 6) (o k x : Int) (ho : (Lit.int .i64 o).wf = true) (w : World) (h : Ob w X H v c L) (hm : mayB c o = true) (hf : fnOf c o = 41) (r : An × List Th) (hop : OpIs 41 w X H v c k x r) :
    Calls Try.prog 16 #[P X, i64 o, u64 k, u64 x] w fun e w' => e = .returned (ansV r.1) ∧ Did w X H v c r.2 w' := by
  have HO := Lib.hid h
  have hX := h.ltX
  have hH := h.ltH
  have hb0 : Below w.heap.size w (w.alloc (.cells #[.int .i64 0, .bool false, .int .u64 0] 40)) := by go_grown
  have HB0 := Lib.hid hb0
  have MIS := Lib.hid (missing_at _ (h.below hb0).c1)
  have c0 := h.c0
  have OPS := Lib.hid (fun W => ops_any c hc1 hc2 W)
  have LK := Lib.hid (fun (W : World) (M : Nat) (hF : FM W M (opsOf c)) => look_any hF o ho)
  have HM := Lib.hid hm
  have HF := Lib.hid hf
  have HOP := Lib.hid hop
  obtain ⟨⟨a1, a2, a3⟩, L'⟩ := r
  clear h hb0 hm hf hop
  go_enter Try.func16, Try.ntmps16
  go_wp2_with fail
  refine MIS.out.mono ?_
  rintro e w1 ⟨rfl, rfl⟩
  go_wp2_with fail
  refine (OPS.out _).mono ?_
  rintro e w1 ⟨rfl, hfm, hb⟩
  have hl := LK.out _ _ hfm
  rw [if_pos HM.out, HF.out] at hl
  simp only [World.size_alloc] at hl
  have HB := Lib.hid (HB0.out.trans (hb.mono HB0.out.size))
  have bx : w1.heap[w.heap.size]? = some box40 := (hb.block _ (by simp)).trans (heap_alloc_new w _)
  have BX := Lib.hid bx
  unfold fnV at hl
  clear hfm hb bx
  go_wp2_with fail
  refine (HOP.out _ HB.out).mono ?_
  rintro e w4 ⟨rfl, hd⟩
  obtain ⟨bx4, hfin⟩ := did_lift HO.out HB.out BX.out hd
  have BX4 := Lib.hid bx4
  have FIN := Lib.hid hfin
  obtain ⟨e1, e2, e3, e4⟩ := box_cell bx4
  have hsz : w.heap.size < w4.heap.size := (Array.getElem?_eq_some_iff.1 bx4).1
  clear hd bx4 hfin hl c0
  unfold ansV
  go_wp2
  obtain ⟨f0, f1, f2⟩ := box_set0 BX4.out
  refine bodyPost_ret (v := ansV (a1, a2, a3)) (by simp [results, Try.results16, go_sem, f0, f1, f2, ansV]) rfl ?_
  exact ⟨rfl, FIN.out _ (box3 _ _ _ _ _)⟩

set_option maxHeartbeats 4000000 in
theorem do_42 {X H : Nat} {v : Value} {c : Int} {L : List Th} (hc1 : 1 ≤ c) (hc2 : c ≤ 6) (o k x : Int) (ho : (Lit.int .i64 o).wf = true) (w : World) (h : Ob w X H v c L) (hm : mayB c o = true) (hf : fnOf c o = 42) (r : An × List Th) (hop : OpIs 42 w X H v c k x r) :
    Calls Try.prog 16 #[P X, i64 o, u64 k, u64 x] w fun e w' => e = .returned (ansV r.1) ∧ Did w X H v c r.2 w' := by
  have HO := Lib.hid h
  have hX := h.ltX
  have hH := h.ltH
  have hb0 : Below w.heap.size w (w.alloc (.cells #[.int .i64 0, .bool false, .int .u64 0] 40)) := by go_grown
  have HB0 := Lib.hid hb0
  have MIS := Lib.hid (missing_at _ (h.below hb0).c1)
  have c0 := h.c0
  have OPS := Lib.hid (fun W => ops_any c hc1 hc2 W)
  have LK := Lib.hid (fun (W : World) (M : Nat) (hF : FM W M (opsOf c)) => look_any hF o ho)
  have HM := Lib.hid hm
  have HF := Lib.hid hf
  have HOP := Lib.hid hop
  obtain ⟨⟨a1, a2, a3⟩, L'⟩ := r
  clear h hb0 hm hf hop
  go_enter Try.func16, Try.ntmps16
  go_wp2_with fail
  refine MIS.out.mono ?_
  rintro e w1 ⟨rfl, rfl⟩
  go_wp2_with fail
  refine (OPS.out _).mono ?_
  rintro e w1 ⟨rfl, hfm, hb⟩
  have hl := LK.out _ _ hfm
  rw [if_pos HM.out, HF.out] at hl
  simp only [World.size_alloc] at hl
  have HB := Lib.hid (HB0.out.trans (hb.mono HB0.out.size))
  have bx : w1.heap[w.heap.size]? = some box40 := (hb.block _ (by simp)).trans (heap_alloc_new w _)
  have BX := Lib.hid bx
  unfold fnV at hl
  clear hfm hb bx
  go_wp2_with fail
  refine (HOP.out _ HB.out).mono ?_
  rintro e w4 ⟨rfl, hd⟩
  obtain ⟨bx4, hfin⟩ := did_lift HO.out HB.out BX.out hd
  have BX4 := Lib.hid bx4
  have FIN := Lib.hid hfin
  obtain ⟨e1, e2, e3, e4⟩ := box_cell bx4
  have hsz : w.heap.size < w4.heap.size := (Array.getElem?_eq_some_iff.1 bx4).1
  clear hd bx4 hfin hl c0
  unfold ansV
  go_wp2
  obtain ⟨f0, f1, f2⟩ := box_set0 BX4.out
  refine bodyPost_ret (v := ansV (a1, a2, a3)) (by simp [results, Try.results16, go_sem, f0, f1, f2, ansV]) rfl ?_
  exact ⟨rfl, FIN.out _ (box3 _ _ _ _ _)⟩

set_option maxHeartbeats 4000000 in
theorem do_43 {X H : Nat} {v : Value} {c : Int} {L : List Th} (hc1 : 1 ≤ c) (hc2 : c ≤ 6) (o k x : Int) (ho : (Lit.int .i64 o).wf = true) (w : World) (h : Ob w X H v c L) (hm : mayB c o = true) (hf : fnOf c o = 43) (r : An × List Th) (hop : OpIs 43 w X H v c k x r) :
    Calls Try.prog 16 #[P X, i64 o, u64 k, u64 x] w fun e w' => e = .returned (ansV r.1) ∧ Did w X H v c r.2 w' := by
  have HO := Lib.hid h
  have hX := h.ltX
  have hH := h.ltH
  have hb0 : Below w.heap.size w (w.alloc (.cells #[.int .i64 0, .bool false, .int .u64 0] 40)) := by go_grown
  have HB0 := Lib.hid hb0
  have MIS := Lib.hid (missing_at _ (h.below hb0).c1)
  have c0 := h.c0
  have OPS := Lib.hid (fun W => ops_any c hc1 hc2 W)
  have LK := Lib.hid (fun (W : World) (M : Nat) (hF : FM W M (opsOf c)) => look_any hF o ho)
  have HM := Lib.hid hm
  have HF := Lib.hid hf
  have HOP := Lib.hid hop
  obtain ⟨⟨a1, a2, a3⟩, L'⟩ := r
  clear h hb0 hm hf hop
  go_enter Try.func16, Try.ntmps16
  go_wp2_with fail
  refine MIS.out.mono ?_
  rintro e w1 ⟨rfl, rfl⟩
  go_wp2_with fail
  refine (OPS.out _).mono ?_
  rintro e w1 ⟨rfl, hfm, hb⟩
  have hl := LK.out _ _ hfm
  rw [if_pos HM.out, HF.out] at hl
  simp only [World.size_alloc] at hl
  have HB := Lib.hid (HB0.out.trans (hb.mono HB0.out.size))
  have bx : w1.heap[w.heap.size]? = some box40 := (hb.block _ (by simp)).trans (heap_alloc_new w _)
  have BX := Lib.hid bx
  unfold fnV at hl
  clear hfm hb bx
  go_wp2_with fail
  refine (HOP.out _ HB.out).mono ?_
  rintro e w4 ⟨rfl, hd⟩
  obtain ⟨bx4, hfin⟩ := did_lift HO.out HB.out BX.out hd
  have BX4 := Lib.hid bx4
  have FIN := Lib.hid hfin
  obtain ⟨e1, e2, e3, e4⟩ := box_cell bx4
  have hsz : w.heap.size < w4.heap.size := (Array.getElem?_eq_some_iff.1 bx4).1
  clear hd bx4 hfin hl c0
  unfold ansV
  go_wp2
  obtain ⟨f0, f1, f2⟩ := box_set0 BX4.out
  refine bodyPost_ret (v := ansV (a1, a2, a3)) (by simp [results, Try.results16, go_sem, f0, f1, f2, ansV]) rfl ?_
  exact ⟨rfl, FIN.out _ (box3 _ _ _ _ _)⟩

set_option maxHeartbeats 4000000 in
theorem do_44 {X H : Nat} {v : Value} {c : Int} {L : List Th} (hc1 : 1 ≤ c) (hc2 : c ≤ 6) (o k x : Int) (ho : (Lit.int .i64 o).wf = true) (w : World) (h : Ob w X H v c L) (hm : mayB c o = true) (hf : fnOf c o = 44) (r : An × List Th) (hop : OpIs 44 w X H v c k x r) :
    Calls Try.prog 16 #[P X, i64 o, u64 k, u64 x] w fun e w' => e = .returned (ansV r.1) ∧ Did w X H v c r.2 w' := by
  have HO := Lib.hid h
  have hX := h.ltX
  have hH := h.ltH
  have hb0 : Below w.heap.size w (w.alloc (.cells #[.int .i64 0, .bool false, .int .u64 0] 40)) := by go_grown
  have HB0 := Lib.hid hb0
  have MIS := Lib.hid (missing_at _ (h.below hb0).c1)
  have c0 := h.c0
  have OPS := Lib.hid (fun W => ops_any c hc1 hc2 W)
  have LK := Lib.hid (fun (W : World) (M : Nat) (hF : FM W M (opsOf c)) => look_any hF o ho)
  have HM := Lib.hid hm
  have HF := Lib.hid hf
  have HOP := Lib.hid hop
  obtain ⟨⟨a1, a2, a3⟩, L'⟩ := r
  clear h hb0 hm hf hop
  go_enter Try.func16, Try.ntmps16
  go_wp2_with fail
  refine MIS.out.mono ?_
  rintro e w1 ⟨rfl, rfl⟩
  go_wp2_with fail
  refine (OPS.out _).mono ?_
  rintro e w1 ⟨rfl, hfm, hb⟩
  have hl := LK.out _ _ hfm
  rw [if_pos HM.out, HF.out] at hl
  simp only [World.size_alloc] at hl
  have HB := Lib.hid (HB0.out.trans (hb.mono HB0.out.size))
  have bx : w1.heap[w.heap.size]? = some box40 := (hb.block _ (by simp)).trans (heap_alloc_new w _)
  have BX := Lib.hid bx
  unfold fnV at hl
  clear hfm hb bx
  go_wp2_with fail
  refine (HOP.out _ HB.out).mono ?_
  rintro e w4 ⟨rfl, hd⟩
  obtain ⟨bx4, hfin⟩ := did_lift HO.out HB.out BX.out hd
  have BX4 := Lib.hid bx4
  have FIN := Lib.hid hfin
  obtain ⟨e1, e2, e3, e4⟩ := box_cell bx4
  have hsz : w.heap.size < w4.heap.size := (Array.getElem?_eq_some_iff.1 bx4).1
  clear hd bx4 hfin hl c0
  unfold ansV
  go_wp2
  obtain ⟨f0, f1, f2⟩ := box_set0 BX4.out
  refine bodyPost_ret (v := ansV (a1, a2, a3)) (by simp [results, Try.results16, go_sem, f0, f1, f2, ansV]) rfl ?_
  exact ⟨rfl, FIN.out _ (box3 _ _ _ _ _)⟩

set_option maxHeartbeats 4000000 in
theorem do_45 {X H : Nat} {v : Value} {c : Int} {L : List Th} (hc1 : 1 ≤ c) (hc2 : c ≤ 6) (o k x : Int) (ho : (Lit.int .i64 o).wf = true) (w : World) (h : Ob w X H v c L) (hm : mayB c o = true) (hf : fnOf c o = 45) (r : An × List Th) (hop : OpIs 45 w X H v c k x r) :
    Calls Try.prog 16 #[P X, i64 o, u64 k, u64 x] w fun e w' => e = .returned (ansV r.1) ∧ Did w X H v c r.2 w' := by
  have HO := Lib.hid h
  have hX := h.ltX
  have hH := h.ltH
  have hb0 : Below w.heap.size w (w.alloc (.cells #[.int .i64 0, .bool false, .int .u64 0] 40)) := by go_grown
  have HB0 := Lib.hid hb0
  have MIS := Lib.hid (missing_at _ (h.below hb0).c1)
  have c0 := h.c0
  have OPS := Lib.hid (fun W => ops_any c hc1 hc2 W)
  have LK := Lib.hid (fun (W : World) (M : Nat) (hF : FM W M (opsOf c)) => look_any hF o ho)
  have HM := Lib.hid hm
  have HF := Lib.hid hf
  have HOP := Lib.hid hop
  obtain ⟨⟨a1, a2, a3⟩, L'⟩ := r
  clear h hb0 hm hf hop
  go_enter Try.func16, Try.ntmps16
  go_wp2_with fail
  refine MIS.out.mono ?_
  rintro e w1 ⟨rfl, rfl⟩
  go_wp2_with fail
  refine (OPS.out _).mono ?_
  rintro e w1 ⟨rfl, hfm, hb⟩
  have hl := LK.out _ _ hfm
  rw [if_pos HM.out, HF.out] at hl
  simp only [World.size_alloc] at hl
  have HB := Lib.hid (HB0.out.trans (hb.mono HB0.out.size))
  have bx : w1.heap[w.heap.size]? = some box40 := (hb.block _ (by simp)).trans (heap_alloc_new w _)
  have BX := Lib.hid bx
  unfold fnV at hl
  clear hfm hb bx
  go_wp2_with fail
  refine (HOP.out _ HB.out).mono ?_
  rintro e w4 ⟨rfl, hd⟩
  obtain ⟨bx4, hfin⟩ := did_lift HO.out HB.out BX.out hd
  have BX4 := Lib.hid bx4
  have FIN := Lib.hid hfin
  obtain ⟨e1, e2, e3, e4⟩ := box_cell bx4
  have hsz : w.heap.size < w4.heap.size := (Array.getElem?_eq_some_iff.1 bx4).1
  clear hd bx4 hfin hl c0
  unfold ansV
  go_wp2
  obtain ⟨f0, f1, f2⟩ := box_set0 BX4.out
  refine bodyPost_ret (v := ansV (a1, a2, a3)) (by simp [results, Try.results16, go_sem, f0, f1, f2, ansV]) rfl ?_
  exact ⟨rfl, FIN.out _ (box3 _ _ _ _ _)⟩

set_option maxHeartbeats 4000000 in
theorem do_46 {X H : Nat} {v : Value} {c : Int} {L : List Th} (hc1 : 1 ≤ c) (hc2 : c ≤ 6) (o k x : Int) (ho : (Lit.int .i64 o).wf = true) (w : World) (h : Ob w X H v c L) (hm : mayB c o = true) (hf : fnOf c o = 46) (r : An × List Th) (hop : OpIs 46 w X H v c k x r) :
    Calls Try.prog 16 #[P X, i64 o, u64 k, u64 x] w fun e w' => e = .returned (ansV r.1) ∧ Did w X H v c r.2 w' := by
  have HO := Lib.hid h
  have hX := h.ltX
  have hH := h.ltH
  have hb0 : Below w.heap.size w (w.alloc (.cells #[.int .i64 0, .bool false, .int .u64 0] 40)) := by go_grown
  have HB0 := Lib.hid hb0
  have MIS := Lib.hid (missing_at _ (h.below hb0).c1)
  have c0 := h.c0
  have OPS := Lib.hid (fun W => ops_any c hc1 hc2 W)
  have LK := Lib.hid (fun (W : World) (M : Nat) (hF : FM W M (opsOf c)) => look_any hF o ho)
  have HM := Lib.hid hm
  have HF := Lib.hid hf
  have HOP := Lib.hid hop
  obtain ⟨⟨a1, a2, a3⟩, L'⟩ := r
  clear h hb0 hm hf hop
  go_enter Try.func16, Try.ntmps16
  go_wp2_with fail
  refine MIS.out.mono ?_
  rintro e w1 ⟨rfl, rfl⟩
  go_wp2_with fail
  refine (OPS.out _).mono ?_
  rintro e w1 ⟨rfl, hfm, hb⟩
  have hl := LK.out _ _ hfm
  rw [if_pos HM.out, HF.out] at hl
  simp only [World.size_alloc] at hl
  have HB := Lib.hid (HB0.out.trans (hb.mono HB0.out.size))
  have bx : w1.heap[w.heap.size]? = some box40 := (hb.block _ (by simp)).trans (heap_alloc_new w _)
  have BX := Lib.hid bx
  unfold fnV at hl
  clear hfm hb bx
  go_wp2_with fail
  refine (HOP.out _ HB.out).mono ?_
  rintro e w4 ⟨rfl, hd⟩
  obtain ⟨bx4, hfin⟩ := did_lift HO.out HB.out BX.out hd
  have BX4 := Lib.hid bx4
  have FIN := Lib.hid hfin
  obtain ⟨e1, e2, e3, e4⟩ := box_cell bx4
  have hsz : w.heap.size < w4.heap.size := (Array.getElem?_eq_some_iff.1 bx4).1
  clear hd bx4 hfin hl c0
  unfold ansV
  go_wp2
  obtain ⟨f0, f1, f2⟩ := box_set0 BX4.out
  refine bodyPost_ret (v := ansV (a1, a2, a3)) (by simp [results, Try.results16, go_sem, f0, f1, f2, ansV]) rfl ?_
  exact ⟨rfl, FIN.out _ (box3 _ _ _ _ _)⟩


set_option maxHeartbeats 4000000 in
theorem do_bad {X H : Nat} {v : Value} {c : Int} {L : List Th} (hc1 : 1 ≤ c) (hc2 : c ≤ 6) (o k x : Int) (ho : (Lit.int .i64 o).wf = true) (w : World) (h : Ob w X H v c L) (hm : mayB c o = false) :
    Calls Try.prog 16 #[P X, i64 o, u64 k, u64 x] w fun e w' => e = .returned (ansV bad) ∧ Did w X H v c L w' := by
  have HO := Lib.hid h
  have hX := h.ltX
  have hH := h.ltH
  have hb0 : Below w.heap.size w (w.alloc (.cells #[.int .i64 0, .bool false, .int .u64 0] 40)) := by go_grown
  have HB0 := Lib.hid hb0
  have MIS := Lib.hid (missing_at _ (h.below hb0).c1)
  have c0 := h.c0
  have OPS := Lib.hid (fun W => ops_any c hc1 hc2 W)
  have LK := Lib.hid (fun (W : World) (M : Nat) (hF : FM W M (opsOf c)) => look_any hF o ho)
  have HM := Lib.hid hm
  clear h hb0 hm
  go_enter Try.func16, Try.ntmps16
  go_wp2_with fail
  refine MIS.out.mono ?_
  rintro e w1 ⟨rfl, rfl⟩
  go_wp2_with fail
  refine (OPS.out _).mono ?_
  rintro e w1 ⟨rfl, hfm, hb⟩
  have hl := LK.out _ _ hfm
  rw [HM.out, if_neg (by simp)] at hl
  simp only [World.size_alloc] at hl
  have HB := Lib.hid (HB0.out.trans (hb.mono HB0.out.size))
  have bx : w1.heap[w.heap.size]? = some box40 := (hb.block _ (by simp)).trans (heap_alloc_new w _)
  have BX := Lib.hid bx
  obtain ⟨e1, e2, e3, e4⟩ := box_cell bx
  have hsz : w.heap.size < w1.heap.size := (Array.getElem?_eq_some_iff.1 bx).1
  clear hfm hb bx
  go_wp2
  obtain ⟨f0, f1, f2⟩ := box_set0 BX.out
  refine bodyPost_ret (v := ansV bad) (by simp [results, Try.results16, go_sem, f0, f1, f2, ansV, bad]) rfl ?_
  exact ⟨rfl, did_not HO.out (box3b _ _ _ HB.out (Nat.le_refl _) _ _ _)⟩

/-- Do, of any object of a client. -/
theorem do_any {X H : Nat} {v : Value} {c : Int} {L : List Th} (hc1 : 1 ≤ c) (hc2 : c ≤ 6) (o k x : Int) (ho : (Lit.int .i64 o).wf = true) (w : World) (h : Ob w X H v c L) (hn : L.length ≤ 1000) (hs : isMap c = true → Srt L) :
    Calls Try.prog 16 #[P X, i64 o, u64 k, u64 x] w fun e w' => e = .returned (ansV (doI c o k x L).1) ∧ Did w X H v c (doI c o k x L).2 w' := by
  unfold doI
  by_cases h1 : c = 1 ∧ o = 1
  · obtain ⟨rfl, rfl⟩ := h1
    exact do_41 hc1 hc2 1 k x ho w h rfl rfl _ fun W hb => add_any k x W (h.below hb) hn
  by_cases h2 : c = 1 ∧ o = 2
  · obtain ⟨rfl, rfl⟩ := h2
    exact do_42 hc1 hc2 2 k x ho w h rfl rfl _ fun W hb => pop_any k x W (h.below hb) hn
  by_cases h3 : c = 2 ∧ o = 3
  · obtain ⟨rfl, rfl⟩ := h3
    exact do_41 hc1 hc2 3 k x ho w h rfl rfl _ fun W hb => add_any k x W (h.below hb) hn
  by_cases h4 : c = 2 ∧ o = 4
  · obtain ⟨rfl, rfl⟩ := h4
    exact do_43 hc1 hc2 4 k x ho w h rfl rfl _ fun W hb => deq_any k x W (h.below hb) hn
  rw [if_neg h1, if_neg h2, if_neg h3, if_neg h4]
  by_cases hm : isMap c = true
  · have hc : 3 ≤ c ∧ c ≤ 6 := by unfold isMap at hm; simpa using hm
    have hmay : mayB c o = (decide (5 ≤ o) && decide (o ≤ 7)) := by
      unfold mayB
      rw [hm]
      have e1 : (c == 1) = false := by simp; omega
      have e2 : (c == 2) = false := by simp; omega
      simp [e1, e2]
    by_cases h5 : o = 5
    · subst h5
      rw [if_pos ⟨hm, rfl⟩]
      exact do_44 hc1 hc2 5 k x ho w h (by rw [hmay]; rfl) (by unfold fnOf; simp) _ fun W hb => insert_any (hs hm) k x W (h.below hb) hn
    by_cases h6 : o = 6
    · subst h6
      rw [if_neg (by omega), if_pos ⟨hm, rfl⟩]
      exact do_45 hc1 hc2 6 k x ho w h (by rw [hmay]; rfl) (by unfold fnOf; simp) _ fun W hb => remove_any (hs hm) k x W (h.below hb) hn
    by_cases h7 : o = 7
    · subst h7
      rw [if_neg (by omega), if_neg (by omega), if_pos ⟨hm, rfl⟩]
      exact do_46 hc1 hc2 7 k x ho w h (by rw [hmay]; rfl) (by unfold fnOf; simp) _ fun W hb => get_any (hs hm) k x W (h.below hb) hn
    · rw [if_neg (by omega), if_neg (by omega), if_neg (by omega)]
      exact do_bad hc1 hc2 o k x ho w h (by rw [hmay]; simp; omega)
  · rw [if_neg (fun e => hm e.1), if_neg (fun e => hm e.1), if_neg (fun e => hm e.1)]
    refine do_bad hc1 hc2 o k x ho w h ?_
    have hmf : isMap c = false := by simpa using hm
    unfold mayB
    rw [hmf]
    have hc : c = 1 ∨ c = 2 := by
      unfold isMap at hmf
      simp at hmf
      omega
    rcases hc with rfl | rfl
    · have o1 : o ≠ 1 := fun e => h1 ⟨rfl, e⟩
      have o2 : o ≠ 2 := fun e => h2 ⟨rfl, e⟩
      simp [o1, o2]
    · have o1 : o ≠ 3 := fun e => h3 ⟨rfl, e⟩
      have o2 : o ≠ 4 := fun e => h4 ⟨rfl, e⟩
      simp [o1, o2]
end Go.Proofs.Ytphfcfnbefikiaa
