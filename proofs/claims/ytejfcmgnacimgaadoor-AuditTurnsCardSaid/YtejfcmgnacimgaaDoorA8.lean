/- The contracts of set and clear: what is left of the guards. -/
import Derived.Test.YtejfcmgnacimgaaDoorA7
namespace Go.Proofs.YtejfcmgnacimgaaDoor
open Go.RowKit Go.ChangeMaps Go.Maps
set_option linter.unusedVariables false
set_option linter.unusedSimpArgs false

section
variable {ops : Array Oper} {rest : List Oper} {o : Oper} {a : Act} {Q : Exit → Act → World → Prop}
theorem wpList_upd (w : World) (hg : o.guard = none) (m x v : Operand) (hop : o.op = Op.mapUpdate 72 m x v) {M : Nat} {G : Int → Nat → Int × Int} {t : Int} (g : Nat → Int × Int)
    (hm : a.eval m = .map (some M)) (hx : a.eval x = .int .i64 t) (hv : a.eval v = gagg g) (hmap : MapIs M G w) (ht : (Lit.int .i64 t).wf = true)
    (hK : ∀ w', MapIs M (updG G t g) w' → (∃ b, w' = setBlock w M b) → wpList Tryd.prog ops Q rest (a.put o.dst undef) w') :
    wpList Tryd.prog ops Q (o :: rest) a w := by
  refine wpList_plain hg fun K' hK' => ?_
  obtain ⟨es, clock, hrun, r1⟩ := upd_run hmap t ht g
  unfold Oper.wp
  simp [execOp, hop, hm, hx, hv, hrun, Result.andThen]
  exact hK' _ _ (hK _ r1 ⟨_, rfl⟩)
theorem wpList_del (w : World) (hg : o.guard = none) (m x : Operand) (hop : o.op = Op.call { callee := Callee.builtin Builtin.delete, args := #[m, x], argTypes := #[72, 3] }) {M : Nat} {G : Int → Nat → Int × Int} {t : Int}
    (hm : a.eval m = .map (some M)) (hx : a.eval x = .int .i64 t) (hmap : MapIs M G w) (ht : (Lit.int .i64 t).wf = true)
    (hK : ∀ w', MapIs M (updG G t fun _ => (0, 0)) w' → (∃ b, w' = setBlock w M b) → wpList Tryd.prog ops Q rest (a.put o.dst (.tuple #[])) w') :
    wpList Tryd.prog ops Q (o :: rest) a w := by
  refine wpList_plain hg fun K' hK' => ?_
  obtain ⟨es, clock, hrun, r1⟩ := del_run hmap t ht o.type
  unfold Oper.wp
  simp [execOp, hop, resolve, invoke, builtin, hm, hx, hrun, Result.andThen]
  exact hK' _ _ (hK _ r1 ⟨_, rfl⟩)

def gcells (g : Nat → Int × Int) : Array Value := #[.int .i64 (g 0).1, .int .i64 (g 0).2, .int .i64 (g 1).1, .int .i64 (g 1).2, .int .i64 (g 2).1, .int .i64 (g 2).2, .int .i64 (g 3).1, .int .i64 (g 3).2,
    .int .i64 (g 4).1, .int .i64 (g 4).2, .int .i64 (g 5).1, .int .i64 (g 5).2, .int .i64 (g 6).1, .int .i64 (g 6).2, .int .i64 (g 7).1, .int .i64 (g 7).2,
    .int .i64 (g 8).1, .int .i64 (g 8).2, .int .i64 (g 9).1, .int .i64 (g 9).2, .int .i64 (g 10).1, .int .i64 (g 10).2, .int .i64 (g 11).1, .int .i64 (g 11).2]
theorem info93 : (Tryd.prog.info? 93).map (·.size) = some 24 := by kernel_rfl
theorem alloc2_heap (w : World) (o1 o2 : Obj) : ((w.alloc o1).alloc o2).heap[w.heap.size + 1]? = some o2 := by
  show ((w.heap.push o1).push o2)[w.heap.size + 1]? = _
  rw [Array.getElem?_push, if_pos (by simp)]

/-- The array of guards is stored into a row of its own. -/
theorem wpList_row (w : World) (hg : o.guard = none) (x y : Operand) (hop : o.op = Op.store 93 x y) (g : Nat → Int × Int) (B : Nat) (hx : a.eval x = .pointer (some ⟨B, 0, none⟩)) (hy : a.eval y = gagg g)
    (old : Array Value) (hw : w.heap[B]? = some (.cells old 93 (0, 0))) (ho : old.size = 24)
    (hK : ∀ w', Below B w w' → (∀ k, k ≠ B → w'.heap[k]? = w.heap[k]?) → w'.heap[B]? = some (.cells (gcells g) 93 (0, 0)) → w'.heap.size = w.heap.size → wpList Tryd.prog ops Q rest (a.put o.dst undef) w') :
    wpList Tryd.prog ops Q (o :: rest) a w := by
  refine wpList_plain hg fun K' hK' => ?_
  refine wp_store_row 93 x y hop B (gcells g) hx hy 93 old hw info93 ho (by unfold gcells; simp [Value.oneCell']) (hK' _ _ ?_)
  have hoth : ∀ k, k ≠ B → (w.setRow B (gcells g)).heap[k]? = w.heap[k]? := fun k hk => by
    simp only [World.setRow, Array.getElem?_modify]; rw [if_neg (by omega)]
  exact hK _ ⟨rfl, rfl, rfl, by simp [World.setRow], fun k hk => hoth k (by omega)⟩ hoth (setRow_heap w B old (gcells g) 93 (0, 0) hw) (by simp [World.setRow])
end

theorem row_cell {w : World} {B : Nat} {c : Array Value} {t : TypeId} (h : w.heap[B]? = some (.cells c t (0, 0))) (j : Nat) : w.cell? ⟨B, j, none⟩ = c[j]? := by simp [World.cell?, h]
theorem row_frozen {w : World} {B : Nat} {c : Array Value} {t : TypeId} (h : w.heap[B]? = some (.cells c t (0, 0))) (j : Nat) : w.frozen? ⟨B, j, none⟩ = false := by simp [World.frozen?, h]

theorem ld93 (w : World) (B : Nat) (g : Nat → Int × Int) (hw : w.heap[B]? = some (.cells (gcells g) 93 (0, 0))) : (Instr.loadAt 93 (.pointer (some ⟨B, 0, none⟩))).run Tryd.prog w = .ok (gagg g) w := by
  have := run_loadVar_row w B 93 93 (gcells g) (0, 0) _ hw Tryd.underlying93 rfl (by have := info93; simpa [gcells] using this)
  simp [Instr.loadAt, Instr.sureAddr, this, Result.andThen]
  rfl

theorem wpStill_ld {ops : Array Oper} {rest : List Oper} {o : Oper} {a : Act} {Q : Act → Prop} (w : World) (hg : o.guard = none) (x : Operand) (hop : o.op = Op.load 93 x) (B : Nat) (g : Nat → Int × Int)
    (hx : a.eval x = .pointer (some ⟨B, 0, none⟩)) (hw : w.heap[B]? = some (.cells (gcells g) 93 (0, 0))) (h : wpStill Tryd.prog ops w Q rest (a.put o.dst (gagg g))) : wpStill Tryd.prog ops w Q (o :: rest) a := by
  refine wpStill_step fun K hK => ?_
  simp only [Region.wanted, hg, if_true]
  unfold Oper.still
  simp [execOp, hop, hx, ld93 w B g hw, Result.andThen, Oper.stillUpon]
  exact hK _ h

theorem row_set2 {w : World} {B : Nat} {c c' : Array Value} {t : TypeId} (h : w.heap[B]? = some (.cells c t (0, 0))) {i j : Nat} {u v : Value} (hc : (c.setIfInBounds i u).setIfInBounds j v = c') :
    (World.drew ((w.setCell ⟨B, i, none⟩ u).setCell ⟨B, j, none⟩ v)).heap[B]? = some (.cells c' t (0, 0)) := by
  subst hc
  simp [World.drew, World.setCell, Array.getElem?_modify, h]

theorem setBlock_other (w : World) (M : Nat) (b : Obj) (k : Nat) (h : k ≠ M) : (setBlock w M b).heap[k]? = w.heap[k]? := by
  simp only [setBlock, Array.getElem?_setIfInBounds]; rw [if_neg (by omega)]

theorem map_ne0 {R S M : Nat} {s : RS} {w : World} (h : RepAt R S M s w) : M ≠ 0 := by
  intro e
  obtain ⟨es, c, h1, -⟩ := h.map
  have := h.z.1
  rw [e] at h1
  simp [World.cell?, h1] at this

/-- The map says something else. -/
theorem RepAt.set_map {R S M : Nat} {s : RS} {w : World} (h : RepAt R S M s w) (b : Obj) (t : Int) (g : Nat → Int × Int) (hm : MapIs M (updG s.G t g) (setBlock w M b)) : RepAt R S M (setG s t g) (setBlock w M b) := by
  have k : ∀ {p : Addr} {v : Value}, p.block ≠ M → w.cell? p = some v → (setBlock w M b).cell? p = some v := fun hp hv => (World.cell?_of_block (w := w) (setBlock_other _ _ _ _ hp)).trans hv
  have h0 := map_ne0 h
  refine ⟨k (by exact h.nRM) h.r0, k (by exact h.nRM) h.r1, k (by exact h.nRM) h.r2, k (by exact h.nRM) h.r3, k (by exact h.nRM) h.r4, k (by exact h.nRM) h.r5, fun i hi j hj => k (by exact h.nSM) (h.sc i hi j hj),
    fun o => (World.frozen?_of_block (w := w) (setBlock_other _ _ _ _ (by exact h.nSM))).trans (h.sf o), hm, ⟨k (by exact fun e => h0 e.symm) h.z.1, k (by exact fun e => h0 e.symm) h.z.2⟩, h.nRS, h.nRM, h.nSM, ?_⟩
  simpa [setBlock] using h.lt

def setF (s : RS) (t k : Int) (g : Int × Int) : RS := if k < 0 ∨ 12 ≤ k then s else setG s t (fun j => if j = k.toNat then g else s.G t j)
def clearF (s : RS) (t k : Int) : RS := if k < 0 then setG s t (fun _ => (0, 0)) else setF s t k (0, 0)

set_option maxHeartbeats 8000000 in
set_option maxRecDepth 100000 in
theorem set_any {R S M : Nat} {s : RS} (t : Int) (ht : (Lit.int .i64 t).wf = true) (k : Int) (x y : Int) (w : World) (h : RepAt R S M s w) :
    Calls Tryd.prog 43 #[.pointer (some ⟨R, 0, none⟩), .int .i64 t, .int .i64 k, .agg #[.int .i64 x, .int .i64 y]] w fun e w' => e = .returned (.tuple #[]) ∧ RepAt R S M (setF s t k (x, y)) w' ∧ Kq w.heap.size S M w w' := by
  have hb1 : Below w.heap.size w (w.alloc (.cells #[.int .i64 x, .int .i64 y] 92)) := by go_grown
  by_cases hk : k < 0 ∨ 12 ≤ k
  · have hf : setF s t k (x, y) = s := by simp [setF, hk]
    rw [hf]
    have HE := Lib.hid (⟨h.below hb1, Kq.of_below hb1 (Nat.le_refl _)⟩ : RepAt R S M s (w.alloc (.cells #[.int .i64 x, .int .i64 y] 92)) ∧ Kq w.heap.size S M w (w.alloc (.cells #[.int .i64 x, .int .i64 y] 92)))
    clear hf hb1 h
    by_cases h0 : k < 0
    · clear hk
      go_enter Tryd.func43, Tryd.ntmps43
      go_wp2
      go_returns
      exact ⟨rfl, HE.out⟩
    · have h1 : 12 ≤ k := by omega
      have h0' : decide (k < 0) = false := by simpa using h0
      clear hk h0
      go_enter Tryd.func43, Tryd.ntmps43
      go_wp2
      go_returns
      exact ⟨rfl, HE.out⟩
  · have hf : setF s t k (x, y) = setG s t (fun j => if j = k.toNat then (x, y) else s.G t j) := by simp [setF, hk]
    rw [hf]
    clear hf
    have hl := look_run (h.below hb1).map t ht
    have hR : R < w.heap.size := World.block_lt_of_cell? _ _ h.r5
    have c5 := h.r5
    have HH := Lib.hid h
    have HB1 := Lib.hid hb1
    clear h hb1
    generalize hg : s.G t = g at hl ⊢
    have HG := Lib.hid hg
    clear hg
    have hk' : k = 0 ∨ k = 1 ∨ k = 2 ∨ k = 3 ∨ k = 4 ∨ k = 5 ∨ k = 6 ∨ k = 7 ∨ k = 8 ∨ k = 9 ∨ k = 10 ∨ k = 11 := by omega
    clear hk
    rcases hk' with rfl | rfl | rfl | rfl | rfl | rfl | rfl | rfl | rfl | rfl | rfl | rfl
    · go_enter Tryd.func43, Tryd.ntmps43
      go_wp2_with
        (refine wpList_row _ rfl _ _ rfl g _ rfl rfl _ (alloc2_heap _ _ _) rfl ?_
         intro w2 hb2 k1 k2 k3
         have e0 : w2.cell? ⟨w.heap.size, 0, none⟩ = some (.int .i64 x) := (hb2.cell (by simp)).trans (by simp [go_sem])
         have e1 : w2.cell? ⟨w.heap.size, 1, none⟩ = some (.int .i64 y) := (hb2.cell (by simp)).trans (by simp [go_sem])
         have hbw : Below w.heap.size w w2 := Below.trans (by go_grown) (hb2.mono (by simp))
         have hz2 : w2.heap.size = w.heap.size + 2 := k3.trans (by simp)
         have HBW := Lib.hid hbw
         have HK2 := Lib.hid k2
         have f0 : w2.frozen? ⟨w.heap.size + 1, 0, none⟩ = false := row_frozen k2 _
         have f1 : w2.frozen? ⟨w.heap.size + 1, 1, none⟩ = false := row_frozen k2 _
         have q0 : w2.cell? ⟨w.heap.size + 1, 0, none⟩ = some (.int .i64 (g 0).1) := row_cell k2 _
         have q1 : w2.cell? ⟨w.heap.size + 1, 1, none⟩ = some (.int .i64 (g 0).2) := row_cell k2 _
         clear hb2 k1 k2 k3 hbw hl c5)
      have hb3 : Below w.heap.size w ((w2.setCell ⟨w.heap.size + 1, 0, none⟩ (.int .i64 x)).setCell ⟨w.heap.size + 1, 1, none⟩ (.int .i64 y)) := (HBW.out.setCell (by simp) _).setCell (by simp) _
      have HR3 := Lib.hid (HH.out.below hb3.drew)
      have HB3 := Lib.hid hb3.drew
      have c53 := (HH.out.below hb3).r5
      have HK3 := Lib.hid (show (World.drew ((w2.setCell ⟨w.heap.size + 1, 0, none⟩ (.int .i64 x)).setCell ⟨w.heap.size + 1, 1, none⟩ (.int .i64 y))).heap[w.heap.size + 1]? = some (.cells (gcells fun j => if j = 0 then (x, y) else g j) 93 (0, 0)) from row_set2 HK2.out rfl)
      clear hb3 HBW HK2 hz2 e0 e1 f0 f1 q0 q1
      generalize ((w2.setCell ⟨w.heap.size + 1, 0, none⟩ (.int .i64 x)).setCell ⟨w.heap.size + 1, 1, none⟩ (.int .i64 y)) = w3 at *
      have hz3 := HB3.out.size
      refine wp_region_still_tail 6 (by kernel_rfl) (by kernel_rfl) ?_
      simp only [List.take_succ_cons, List.take_zero, List.drop_succ_cons, List.drop_zero]
      repeat (first | (refine wpStill_ld _ rfl _ rfl _ _ rfl HK3.out ?_) | still_step)
      refine wpStill_nil ?_
      change wpList _ _ _ _ _ (World.drew w3)
      go_wp2_with
        (refine wpList_upd _ rfl _ _ _ rfl (fun j => if j = 0 then (x, y) else g j) rfl rfl rfl HR3.out.map ht ?_
         rintro w4 hm ⟨b, rfl⟩
         have HM := Lib.hid hm
         clear hm)
      go_returns
      have hg := HG.out
      subst hg
      exact ⟨rfl, (HR3.out.set_map b t _ HM.out), (Kq.of_below HB3.out (Nat.le_refl _)).set_M b⟩
    · go_enter Tryd.func43, Tryd.ntmps43
      go_wp2_with
        (refine wpList_row _ rfl _ _ rfl g _ rfl rfl _ (alloc2_heap _ _ _) rfl ?_
         intro w2 hb2 k1 k2 k3
         have e0 : w2.cell? ⟨w.heap.size, 0, none⟩ = some (.int .i64 x) := (hb2.cell (by simp)).trans (by simp [go_sem])
         have e1 : w2.cell? ⟨w.heap.size, 1, none⟩ = some (.int .i64 y) := (hb2.cell (by simp)).trans (by simp [go_sem])
         have hbw : Below w.heap.size w w2 := Below.trans (by go_grown) (hb2.mono (by simp))
         have hz2 : w2.heap.size = w.heap.size + 2 := k3.trans (by simp)
         have HBW := Lib.hid hbw
         have HK2 := Lib.hid k2
         have f0 : w2.frozen? ⟨w.heap.size + 1, 2, none⟩ = false := row_frozen k2 _
         have f1 : w2.frozen? ⟨w.heap.size + 1, 3, none⟩ = false := row_frozen k2 _
         have q0 : w2.cell? ⟨w.heap.size + 1, 2, none⟩ = some (.int .i64 (g 1).1) := row_cell k2 _
         have q1 : w2.cell? ⟨w.heap.size + 1, 3, none⟩ = some (.int .i64 (g 1).2) := row_cell k2 _
         clear hb2 k1 k2 k3 hbw hl c5)
      have hb3 : Below w.heap.size w ((w2.setCell ⟨w.heap.size + 1, 2, none⟩ (.int .i64 x)).setCell ⟨w.heap.size + 1, 3, none⟩ (.int .i64 y)) := (HBW.out.setCell (by simp) _).setCell (by simp) _
      have HR3 := Lib.hid (HH.out.below hb3.drew)
      have HB3 := Lib.hid hb3.drew
      have c53 := (HH.out.below hb3).r5
      have HK3 := Lib.hid (show (World.drew ((w2.setCell ⟨w.heap.size + 1, 2, none⟩ (.int .i64 x)).setCell ⟨w.heap.size + 1, 3, none⟩ (.int .i64 y))).heap[w.heap.size + 1]? = some (.cells (gcells fun j => if j = 1 then (x, y) else g j) 93 (0, 0)) from row_set2 HK2.out rfl)
      clear hb3 HBW HK2 hz2 e0 e1 f0 f1 q0 q1
      generalize ((w2.setCell ⟨w.heap.size + 1, 2, none⟩ (.int .i64 x)).setCell ⟨w.heap.size + 1, 3, none⟩ (.int .i64 y)) = w3 at *
      have hz3 := HB3.out.size
      refine wp_region_still_tail 6 (by kernel_rfl) (by kernel_rfl) ?_
      simp only [List.take_succ_cons, List.take_zero, List.drop_succ_cons, List.drop_zero]
      repeat (first | (refine wpStill_ld _ rfl _ rfl _ _ rfl HK3.out ?_) | still_step)
      refine wpStill_nil ?_
      change wpList _ _ _ _ _ (World.drew w3)
      go_wp2_with
        (refine wpList_upd _ rfl _ _ _ rfl (fun j => if j = 1 then (x, y) else g j) rfl rfl rfl HR3.out.map ht ?_
         rintro w4 hm ⟨b, rfl⟩
         have HM := Lib.hid hm
         clear hm)
      go_returns
      have hg := HG.out
      subst hg
      exact ⟨rfl, (HR3.out.set_map b t _ HM.out), (Kq.of_below HB3.out (Nat.le_refl _)).set_M b⟩
    · go_enter Tryd.func43, Tryd.ntmps43
      go_wp2_with
        (refine wpList_row _ rfl _ _ rfl g _ rfl rfl _ (alloc2_heap _ _ _) rfl ?_
         intro w2 hb2 k1 k2 k3
         have e0 : w2.cell? ⟨w.heap.size, 0, none⟩ = some (.int .i64 x) := (hb2.cell (by simp)).trans (by simp [go_sem])
         have e1 : w2.cell? ⟨w.heap.size, 1, none⟩ = some (.int .i64 y) := (hb2.cell (by simp)).trans (by simp [go_sem])
         have hbw : Below w.heap.size w w2 := Below.trans (by go_grown) (hb2.mono (by simp))
         have hz2 : w2.heap.size = w.heap.size + 2 := k3.trans (by simp)
         have HBW := Lib.hid hbw
         have HK2 := Lib.hid k2
         have f0 : w2.frozen? ⟨w.heap.size + 1, 4, none⟩ = false := row_frozen k2 _
         have f1 : w2.frozen? ⟨w.heap.size + 1, 5, none⟩ = false := row_frozen k2 _
         have q0 : w2.cell? ⟨w.heap.size + 1, 4, none⟩ = some (.int .i64 (g 2).1) := row_cell k2 _
         have q1 : w2.cell? ⟨w.heap.size + 1, 5, none⟩ = some (.int .i64 (g 2).2) := row_cell k2 _
         clear hb2 k1 k2 k3 hbw hl c5)
      have hb3 : Below w.heap.size w ((w2.setCell ⟨w.heap.size + 1, 4, none⟩ (.int .i64 x)).setCell ⟨w.heap.size + 1, 5, none⟩ (.int .i64 y)) := (HBW.out.setCell (by simp) _).setCell (by simp) _
      have HR3 := Lib.hid (HH.out.below hb3.drew)
      have HB3 := Lib.hid hb3.drew
      have c53 := (HH.out.below hb3).r5
      have HK3 := Lib.hid (show (World.drew ((w2.setCell ⟨w.heap.size + 1, 4, none⟩ (.int .i64 x)).setCell ⟨w.heap.size + 1, 5, none⟩ (.int .i64 y))).heap[w.heap.size + 1]? = some (.cells (gcells fun j => if j = 2 then (x, y) else g j) 93 (0, 0)) from row_set2 HK2.out rfl)
      clear hb3 HBW HK2 hz2 e0 e1 f0 f1 q0 q1
      generalize ((w2.setCell ⟨w.heap.size + 1, 4, none⟩ (.int .i64 x)).setCell ⟨w.heap.size + 1, 5, none⟩ (.int .i64 y)) = w3 at *
      have hz3 := HB3.out.size
      refine wp_region_still_tail 6 (by kernel_rfl) (by kernel_rfl) ?_
      simp only [List.take_succ_cons, List.take_zero, List.drop_succ_cons, List.drop_zero]
      repeat (first | (refine wpStill_ld _ rfl _ rfl _ _ rfl HK3.out ?_) | still_step)
      refine wpStill_nil ?_
      change wpList _ _ _ _ _ (World.drew w3)
      go_wp2_with
        (refine wpList_upd _ rfl _ _ _ rfl (fun j => if j = 2 then (x, y) else g j) rfl rfl rfl HR3.out.map ht ?_
         rintro w4 hm ⟨b, rfl⟩
         have HM := Lib.hid hm
         clear hm)
      go_returns
      have hg := HG.out
      subst hg
      exact ⟨rfl, (HR3.out.set_map b t _ HM.out), (Kq.of_below HB3.out (Nat.le_refl _)).set_M b⟩
    · go_enter Tryd.func43, Tryd.ntmps43
      go_wp2_with
        (refine wpList_row _ rfl _ _ rfl g _ rfl rfl _ (alloc2_heap _ _ _) rfl ?_
         intro w2 hb2 k1 k2 k3
         have e0 : w2.cell? ⟨w.heap.size, 0, none⟩ = some (.int .i64 x) := (hb2.cell (by simp)).trans (by simp [go_sem])
         have e1 : w2.cell? ⟨w.heap.size, 1, none⟩ = some (.int .i64 y) := (hb2.cell (by simp)).trans (by simp [go_sem])
         have hbw : Below w.heap.size w w2 := Below.trans (by go_grown) (hb2.mono (by simp))
         have hz2 : w2.heap.size = w.heap.size + 2 := k3.trans (by simp)
         have HBW := Lib.hid hbw
         have HK2 := Lib.hid k2
         have f0 : w2.frozen? ⟨w.heap.size + 1, 6, none⟩ = false := row_frozen k2 _
         have f1 : w2.frozen? ⟨w.heap.size + 1, 7, none⟩ = false := row_frozen k2 _
         have q0 : w2.cell? ⟨w.heap.size + 1, 6, none⟩ = some (.int .i64 (g 3).1) := row_cell k2 _
         have q1 : w2.cell? ⟨w.heap.size + 1, 7, none⟩ = some (.int .i64 (g 3).2) := row_cell k2 _
         clear hb2 k1 k2 k3 hbw hl c5)
      have hb3 : Below w.heap.size w ((w2.setCell ⟨w.heap.size + 1, 6, none⟩ (.int .i64 x)).setCell ⟨w.heap.size + 1, 7, none⟩ (.int .i64 y)) := (HBW.out.setCell (by simp) _).setCell (by simp) _
      have HR3 := Lib.hid (HH.out.below hb3.drew)
      have HB3 := Lib.hid hb3.drew
      have c53 := (HH.out.below hb3).r5
      have HK3 := Lib.hid (show (World.drew ((w2.setCell ⟨w.heap.size + 1, 6, none⟩ (.int .i64 x)).setCell ⟨w.heap.size + 1, 7, none⟩ (.int .i64 y))).heap[w.heap.size + 1]? = some (.cells (gcells fun j => if j = 3 then (x, y) else g j) 93 (0, 0)) from row_set2 HK2.out rfl)
      clear hb3 HBW HK2 hz2 e0 e1 f0 f1 q0 q1
      generalize ((w2.setCell ⟨w.heap.size + 1, 6, none⟩ (.int .i64 x)).setCell ⟨w.heap.size + 1, 7, none⟩ (.int .i64 y)) = w3 at *
      have hz3 := HB3.out.size
      refine wp_region_still_tail 6 (by kernel_rfl) (by kernel_rfl) ?_
      simp only [List.take_succ_cons, List.take_zero, List.drop_succ_cons, List.drop_zero]
      repeat (first | (refine wpStill_ld _ rfl _ rfl _ _ rfl HK3.out ?_) | still_step)
      refine wpStill_nil ?_
      change wpList _ _ _ _ _ (World.drew w3)
      go_wp2_with
        (refine wpList_upd _ rfl _ _ _ rfl (fun j => if j = 3 then (x, y) else g j) rfl rfl rfl HR3.out.map ht ?_
         rintro w4 hm ⟨b, rfl⟩
         have HM := Lib.hid hm
         clear hm)
      go_returns
      have hg := HG.out
      subst hg
      exact ⟨rfl, (HR3.out.set_map b t _ HM.out), (Kq.of_below HB3.out (Nat.le_refl _)).set_M b⟩
    · go_enter Tryd.func43, Tryd.ntmps43
      go_wp2_with
        (refine wpList_row _ rfl _ _ rfl g _ rfl rfl _ (alloc2_heap _ _ _) rfl ?_
         intro w2 hb2 k1 k2 k3
         have e0 : w2.cell? ⟨w.heap.size, 0, none⟩ = some (.int .i64 x) := (hb2.cell (by simp)).trans (by simp [go_sem])
         have e1 : w2.cell? ⟨w.heap.size, 1, none⟩ = some (.int .i64 y) := (hb2.cell (by simp)).trans (by simp [go_sem])
         have hbw : Below w.heap.size w w2 := Below.trans (by go_grown) (hb2.mono (by simp))
         have hz2 : w2.heap.size = w.heap.size + 2 := k3.trans (by simp)
         have HBW := Lib.hid hbw
         have HK2 := Lib.hid k2
         have f0 : w2.frozen? ⟨w.heap.size + 1, 8, none⟩ = false := row_frozen k2 _
         have f1 : w2.frozen? ⟨w.heap.size + 1, 9, none⟩ = false := row_frozen k2 _
         have q0 : w2.cell? ⟨w.heap.size + 1, 8, none⟩ = some (.int .i64 (g 4).1) := row_cell k2 _
         have q1 : w2.cell? ⟨w.heap.size + 1, 9, none⟩ = some (.int .i64 (g 4).2) := row_cell k2 _
         clear hb2 k1 k2 k3 hbw hl c5)
      have hb3 : Below w.heap.size w ((w2.setCell ⟨w.heap.size + 1, 8, none⟩ (.int .i64 x)).setCell ⟨w.heap.size + 1, 9, none⟩ (.int .i64 y)) := (HBW.out.setCell (by simp) _).setCell (by simp) _
      have HR3 := Lib.hid (HH.out.below hb3.drew)
      have HB3 := Lib.hid hb3.drew
      have c53 := (HH.out.below hb3).r5
      have HK3 := Lib.hid (show (World.drew ((w2.setCell ⟨w.heap.size + 1, 8, none⟩ (.int .i64 x)).setCell ⟨w.heap.size + 1, 9, none⟩ (.int .i64 y))).heap[w.heap.size + 1]? = some (.cells (gcells fun j => if j = 4 then (x, y) else g j) 93 (0, 0)) from row_set2 HK2.out rfl)
      clear hb3 HBW HK2 hz2 e0 e1 f0 f1 q0 q1
      generalize ((w2.setCell ⟨w.heap.size + 1, 8, none⟩ (.int .i64 x)).setCell ⟨w.heap.size + 1, 9, none⟩ (.int .i64 y)) = w3 at *
      have hz3 := HB3.out.size
      refine wp_region_still_tail 6 (by kernel_rfl) (by kernel_rfl) ?_
      simp only [List.take_succ_cons, List.take_zero, List.drop_succ_cons, List.drop_zero]
      repeat (first | (refine wpStill_ld _ rfl _ rfl _ _ rfl HK3.out ?_) | still_step)
      refine wpStill_nil ?_
      change wpList _ _ _ _ _ (World.drew w3)
      go_wp2_with
        (refine wpList_upd _ rfl _ _ _ rfl (fun j => if j = 4 then (x, y) else g j) rfl rfl rfl HR3.out.map ht ?_
         rintro w4 hm ⟨b, rfl⟩
         have HM := Lib.hid hm
         clear hm)
      go_returns
      have hg := HG.out
      subst hg
      exact ⟨rfl, (HR3.out.set_map b t _ HM.out), (Kq.of_below HB3.out (Nat.le_refl _)).set_M b⟩
    · go_enter Tryd.func43, Tryd.ntmps43
      go_wp2_with
        (refine wpList_row _ rfl _ _ rfl g _ rfl rfl _ (alloc2_heap _ _ _) rfl ?_
         intro w2 hb2 k1 k2 k3
         have e0 : w2.cell? ⟨w.heap.size, 0, none⟩ = some (.int .i64 x) := (hb2.cell (by simp)).trans (by simp [go_sem])
         have e1 : w2.cell? ⟨w.heap.size, 1, none⟩ = some (.int .i64 y) := (hb2.cell (by simp)).trans (by simp [go_sem])
         have hbw : Below w.heap.size w w2 := Below.trans (by go_grown) (hb2.mono (by simp))
         have hz2 : w2.heap.size = w.heap.size + 2 := k3.trans (by simp)
         have HBW := Lib.hid hbw
         have HK2 := Lib.hid k2
         have f0 : w2.frozen? ⟨w.heap.size + 1, 10, none⟩ = false := row_frozen k2 _
         have f1 : w2.frozen? ⟨w.heap.size + 1, 11, none⟩ = false := row_frozen k2 _
         have q0 : w2.cell? ⟨w.heap.size + 1, 10, none⟩ = some (.int .i64 (g 5).1) := row_cell k2 _
         have q1 : w2.cell? ⟨w.heap.size + 1, 11, none⟩ = some (.int .i64 (g 5).2) := row_cell k2 _
         clear hb2 k1 k2 k3 hbw hl c5)
      have hb3 : Below w.heap.size w ((w2.setCell ⟨w.heap.size + 1, 10, none⟩ (.int .i64 x)).setCell ⟨w.heap.size + 1, 11, none⟩ (.int .i64 y)) := (HBW.out.setCell (by simp) _).setCell (by simp) _
      have HR3 := Lib.hid (HH.out.below hb3.drew)
      have HB3 := Lib.hid hb3.drew
      have c53 := (HH.out.below hb3).r5
      have HK3 := Lib.hid (show (World.drew ((w2.setCell ⟨w.heap.size + 1, 10, none⟩ (.int .i64 x)).setCell ⟨w.heap.size + 1, 11, none⟩ (.int .i64 y))).heap[w.heap.size + 1]? = some (.cells (gcells fun j => if j = 5 then (x, y) else g j) 93 (0, 0)) from row_set2 HK2.out rfl)
      clear hb3 HBW HK2 hz2 e0 e1 f0 f1 q0 q1
      generalize ((w2.setCell ⟨w.heap.size + 1, 10, none⟩ (.int .i64 x)).setCell ⟨w.heap.size + 1, 11, none⟩ (.int .i64 y)) = w3 at *
      have hz3 := HB3.out.size
      refine wp_region_still_tail 6 (by kernel_rfl) (by kernel_rfl) ?_
      simp only [List.take_succ_cons, List.take_zero, List.drop_succ_cons, List.drop_zero]
      repeat (first | (refine wpStill_ld _ rfl _ rfl _ _ rfl HK3.out ?_) | still_step)
      refine wpStill_nil ?_
      change wpList _ _ _ _ _ (World.drew w3)
      go_wp2_with
        (refine wpList_upd _ rfl _ _ _ rfl (fun j => if j = 5 then (x, y) else g j) rfl rfl rfl HR3.out.map ht ?_
         rintro w4 hm ⟨b, rfl⟩
         have HM := Lib.hid hm
         clear hm)
      go_returns
      have hg := HG.out
      subst hg
      exact ⟨rfl, (HR3.out.set_map b t _ HM.out), (Kq.of_below HB3.out (Nat.le_refl _)).set_M b⟩
    · go_enter Tryd.func43, Tryd.ntmps43
      go_wp2_with
        (refine wpList_row _ rfl _ _ rfl g _ rfl rfl _ (alloc2_heap _ _ _) rfl ?_
         intro w2 hb2 k1 k2 k3
         have e0 : w2.cell? ⟨w.heap.size, 0, none⟩ = some (.int .i64 x) := (hb2.cell (by simp)).trans (by simp [go_sem])
         have e1 : w2.cell? ⟨w.heap.size, 1, none⟩ = some (.int .i64 y) := (hb2.cell (by simp)).trans (by simp [go_sem])
         have hbw : Below w.heap.size w w2 := Below.trans (by go_grown) (hb2.mono (by simp))
         have hz2 : w2.heap.size = w.heap.size + 2 := k3.trans (by simp)
         have HBW := Lib.hid hbw
         have HK2 := Lib.hid k2
         have f0 : w2.frozen? ⟨w.heap.size + 1, 12, none⟩ = false := row_frozen k2 _
         have f1 : w2.frozen? ⟨w.heap.size + 1, 13, none⟩ = false := row_frozen k2 _
         have q0 : w2.cell? ⟨w.heap.size + 1, 12, none⟩ = some (.int .i64 (g 6).1) := row_cell k2 _
         have q1 : w2.cell? ⟨w.heap.size + 1, 13, none⟩ = some (.int .i64 (g 6).2) := row_cell k2 _
         clear hb2 k1 k2 k3 hbw hl c5)
      have hb3 : Below w.heap.size w ((w2.setCell ⟨w.heap.size + 1, 12, none⟩ (.int .i64 x)).setCell ⟨w.heap.size + 1, 13, none⟩ (.int .i64 y)) := (HBW.out.setCell (by simp) _).setCell (by simp) _
      have HR3 := Lib.hid (HH.out.below hb3.drew)
      have HB3 := Lib.hid hb3.drew
      have c53 := (HH.out.below hb3).r5
      have HK3 := Lib.hid (show (World.drew ((w2.setCell ⟨w.heap.size + 1, 12, none⟩ (.int .i64 x)).setCell ⟨w.heap.size + 1, 13, none⟩ (.int .i64 y))).heap[w.heap.size + 1]? = some (.cells (gcells fun j => if j = 6 then (x, y) else g j) 93 (0, 0)) from row_set2 HK2.out rfl)
      clear hb3 HBW HK2 hz2 e0 e1 f0 f1 q0 q1
      generalize ((w2.setCell ⟨w.heap.size + 1, 12, none⟩ (.int .i64 x)).setCell ⟨w.heap.size + 1, 13, none⟩ (.int .i64 y)) = w3 at *
      have hz3 := HB3.out.size
      refine wp_region_still_tail 6 (by kernel_rfl) (by kernel_rfl) ?_
      simp only [List.take_succ_cons, List.take_zero, List.drop_succ_cons, List.drop_zero]
      repeat (first | (refine wpStill_ld _ rfl _ rfl _ _ rfl HK3.out ?_) | still_step)
      refine wpStill_nil ?_
      change wpList _ _ _ _ _ (World.drew w3)
      go_wp2_with
        (refine wpList_upd _ rfl _ _ _ rfl (fun j => if j = 6 then (x, y) else g j) rfl rfl rfl HR3.out.map ht ?_
         rintro w4 hm ⟨b, rfl⟩
         have HM := Lib.hid hm
         clear hm)
      go_returns
      have hg := HG.out
      subst hg
      exact ⟨rfl, (HR3.out.set_map b t _ HM.out), (Kq.of_below HB3.out (Nat.le_refl _)).set_M b⟩
    · go_enter Tryd.func43, Tryd.ntmps43
      go_wp2_with
        (refine wpList_row _ rfl _ _ rfl g _ rfl rfl _ (alloc2_heap _ _ _) rfl ?_
         intro w2 hb2 k1 k2 k3
         have e0 : w2.cell? ⟨w.heap.size, 0, none⟩ = some (.int .i64 x) := (hb2.cell (by simp)).trans (by simp [go_sem])
         have e1 : w2.cell? ⟨w.heap.size, 1, none⟩ = some (.int .i64 y) := (hb2.cell (by simp)).trans (by simp [go_sem])
         have hbw : Below w.heap.size w w2 := Below.trans (by go_grown) (hb2.mono (by simp))
         have hz2 : w2.heap.size = w.heap.size + 2 := k3.trans (by simp)
         have HBW := Lib.hid hbw
         have HK2 := Lib.hid k2
         have f0 : w2.frozen? ⟨w.heap.size + 1, 14, none⟩ = false := row_frozen k2 _
         have f1 : w2.frozen? ⟨w.heap.size + 1, 15, none⟩ = false := row_frozen k2 _
         have q0 : w2.cell? ⟨w.heap.size + 1, 14, none⟩ = some (.int .i64 (g 7).1) := row_cell k2 _
         have q1 : w2.cell? ⟨w.heap.size + 1, 15, none⟩ = some (.int .i64 (g 7).2) := row_cell k2 _
         clear hb2 k1 k2 k3 hbw hl c5)
      have hb3 : Below w.heap.size w ((w2.setCell ⟨w.heap.size + 1, 14, none⟩ (.int .i64 x)).setCell ⟨w.heap.size + 1, 15, none⟩ (.int .i64 y)) := (HBW.out.setCell (by simp) _).setCell (by simp) _
      have HR3 := Lib.hid (HH.out.below hb3.drew)
      have HB3 := Lib.hid hb3.drew
      have c53 := (HH.out.below hb3).r5
      have HK3 := Lib.hid (show (World.drew ((w2.setCell ⟨w.heap.size + 1, 14, none⟩ (.int .i64 x)).setCell ⟨w.heap.size + 1, 15, none⟩ (.int .i64 y))).heap[w.heap.size + 1]? = some (.cells (gcells fun j => if j = 7 then (x, y) else g j) 93 (0, 0)) from row_set2 HK2.out rfl)
      clear hb3 HBW HK2 hz2 e0 e1 f0 f1 q0 q1
      generalize ((w2.setCell ⟨w.heap.size + 1, 14, none⟩ (.int .i64 x)).setCell ⟨w.heap.size + 1, 15, none⟩ (.int .i64 y)) = w3 at *
      have hz3 := HB3.out.size
      refine wp_region_still_tail 6 (by kernel_rfl) (by kernel_rfl) ?_
      simp only [List.take_succ_cons, List.take_zero, List.drop_succ_cons, List.drop_zero]
      repeat (first | (refine wpStill_ld _ rfl _ rfl _ _ rfl HK3.out ?_) | still_step)
      refine wpStill_nil ?_
      change wpList _ _ _ _ _ (World.drew w3)
      go_wp2_with
        (refine wpList_upd _ rfl _ _ _ rfl (fun j => if j = 7 then (x, y) else g j) rfl rfl rfl HR3.out.map ht ?_
         rintro w4 hm ⟨b, rfl⟩
         have HM := Lib.hid hm
         clear hm)
      go_returns
      have hg := HG.out
      subst hg
      exact ⟨rfl, (HR3.out.set_map b t _ HM.out), (Kq.of_below HB3.out (Nat.le_refl _)).set_M b⟩
    · go_enter Tryd.func43, Tryd.ntmps43
      go_wp2_with
        (refine wpList_row _ rfl _ _ rfl g _ rfl rfl _ (alloc2_heap _ _ _) rfl ?_
         intro w2 hb2 k1 k2 k3
         have e0 : w2.cell? ⟨w.heap.size, 0, none⟩ = some (.int .i64 x) := (hb2.cell (by simp)).trans (by simp [go_sem])
         have e1 : w2.cell? ⟨w.heap.size, 1, none⟩ = some (.int .i64 y) := (hb2.cell (by simp)).trans (by simp [go_sem])
         have hbw : Below w.heap.size w w2 := Below.trans (by go_grown) (hb2.mono (by simp))
         have hz2 : w2.heap.size = w.heap.size + 2 := k3.trans (by simp)
         have HBW := Lib.hid hbw
         have HK2 := Lib.hid k2
         have f0 : w2.frozen? ⟨w.heap.size + 1, 16, none⟩ = false := row_frozen k2 _
         have f1 : w2.frozen? ⟨w.heap.size + 1, 17, none⟩ = false := row_frozen k2 _
         have q0 : w2.cell? ⟨w.heap.size + 1, 16, none⟩ = some (.int .i64 (g 8).1) := row_cell k2 _
         have q1 : w2.cell? ⟨w.heap.size + 1, 17, none⟩ = some (.int .i64 (g 8).2) := row_cell k2 _
         clear hb2 k1 k2 k3 hbw hl c5)
      have hb3 : Below w.heap.size w ((w2.setCell ⟨w.heap.size + 1, 16, none⟩ (.int .i64 x)).setCell ⟨w.heap.size + 1, 17, none⟩ (.int .i64 y)) := (HBW.out.setCell (by simp) _).setCell (by simp) _
      have HR3 := Lib.hid (HH.out.below hb3.drew)
      have HB3 := Lib.hid hb3.drew
      have c53 := (HH.out.below hb3).r5
      have HK3 := Lib.hid (show (World.drew ((w2.setCell ⟨w.heap.size + 1, 16, none⟩ (.int .i64 x)).setCell ⟨w.heap.size + 1, 17, none⟩ (.int .i64 y))).heap[w.heap.size + 1]? = some (.cells (gcells fun j => if j = 8 then (x, y) else g j) 93 (0, 0)) from row_set2 HK2.out rfl)
      clear hb3 HBW HK2 hz2 e0 e1 f0 f1 q0 q1
      generalize ((w2.setCell ⟨w.heap.size + 1, 16, none⟩ (.int .i64 x)).setCell ⟨w.heap.size + 1, 17, none⟩ (.int .i64 y)) = w3 at *
      have hz3 := HB3.out.size
      refine wp_region_still_tail 6 (by kernel_rfl) (by kernel_rfl) ?_
      simp only [List.take_succ_cons, List.take_zero, List.drop_succ_cons, List.drop_zero]
      repeat (first | (refine wpStill_ld _ rfl _ rfl _ _ rfl HK3.out ?_) | still_step)
      refine wpStill_nil ?_
      change wpList _ _ _ _ _ (World.drew w3)
      go_wp2_with
        (refine wpList_upd _ rfl _ _ _ rfl (fun j => if j = 8 then (x, y) else g j) rfl rfl rfl HR3.out.map ht ?_
         rintro w4 hm ⟨b, rfl⟩
         have HM := Lib.hid hm
         clear hm)
      go_returns
      have hg := HG.out
      subst hg
      exact ⟨rfl, (HR3.out.set_map b t _ HM.out), (Kq.of_below HB3.out (Nat.le_refl _)).set_M b⟩
    · go_enter Tryd.func43, Tryd.ntmps43
      go_wp2_with
        (refine wpList_row _ rfl _ _ rfl g _ rfl rfl _ (alloc2_heap _ _ _) rfl ?_
         intro w2 hb2 k1 k2 k3
         have e0 : w2.cell? ⟨w.heap.size, 0, none⟩ = some (.int .i64 x) := (hb2.cell (by simp)).trans (by simp [go_sem])
         have e1 : w2.cell? ⟨w.heap.size, 1, none⟩ = some (.int .i64 y) := (hb2.cell (by simp)).trans (by simp [go_sem])
         have hbw : Below w.heap.size w w2 := Below.trans (by go_grown) (hb2.mono (by simp))
         have hz2 : w2.heap.size = w.heap.size + 2 := k3.trans (by simp)
         have HBW := Lib.hid hbw
         have HK2 := Lib.hid k2
         have f0 : w2.frozen? ⟨w.heap.size + 1, 18, none⟩ = false := row_frozen k2 _
         have f1 : w2.frozen? ⟨w.heap.size + 1, 19, none⟩ = false := row_frozen k2 _
         have q0 : w2.cell? ⟨w.heap.size + 1, 18, none⟩ = some (.int .i64 (g 9).1) := row_cell k2 _
         have q1 : w2.cell? ⟨w.heap.size + 1, 19, none⟩ = some (.int .i64 (g 9).2) := row_cell k2 _
         clear hb2 k1 k2 k3 hbw hl c5)
      have hb3 : Below w.heap.size w ((w2.setCell ⟨w.heap.size + 1, 18, none⟩ (.int .i64 x)).setCell ⟨w.heap.size + 1, 19, none⟩ (.int .i64 y)) := (HBW.out.setCell (by simp) _).setCell (by simp) _
      have HR3 := Lib.hid (HH.out.below hb3.drew)
      have HB3 := Lib.hid hb3.drew
      have c53 := (HH.out.below hb3).r5
      have HK3 := Lib.hid (show (World.drew ((w2.setCell ⟨w.heap.size + 1, 18, none⟩ (.int .i64 x)).setCell ⟨w.heap.size + 1, 19, none⟩ (.int .i64 y))).heap[w.heap.size + 1]? = some (.cells (gcells fun j => if j = 9 then (x, y) else g j) 93 (0, 0)) from row_set2 HK2.out rfl)
      clear hb3 HBW HK2 hz2 e0 e1 f0 f1 q0 q1
      generalize ((w2.setCell ⟨w.heap.size + 1, 18, none⟩ (.int .i64 x)).setCell ⟨w.heap.size + 1, 19, none⟩ (.int .i64 y)) = w3 at *
      have hz3 := HB3.out.size
      refine wp_region_still_tail 6 (by kernel_rfl) (by kernel_rfl) ?_
      simp only [List.take_succ_cons, List.take_zero, List.drop_succ_cons, List.drop_zero]
      repeat (first | (refine wpStill_ld _ rfl _ rfl _ _ rfl HK3.out ?_) | still_step)
      refine wpStill_nil ?_
      change wpList _ _ _ _ _ (World.drew w3)
      go_wp2_with
        (refine wpList_upd _ rfl _ _ _ rfl (fun j => if j = 9 then (x, y) else g j) rfl rfl rfl HR3.out.map ht ?_
         rintro w4 hm ⟨b, rfl⟩
         have HM := Lib.hid hm
         clear hm)
      go_returns
      have hg := HG.out
      subst hg
      exact ⟨rfl, (HR3.out.set_map b t _ HM.out), (Kq.of_below HB3.out (Nat.le_refl _)).set_M b⟩
    · go_enter Tryd.func43, Tryd.ntmps43
      go_wp2_with
        (refine wpList_row _ rfl _ _ rfl g _ rfl rfl _ (alloc2_heap _ _ _) rfl ?_
         intro w2 hb2 k1 k2 k3
         have e0 : w2.cell? ⟨w.heap.size, 0, none⟩ = some (.int .i64 x) := (hb2.cell (by simp)).trans (by simp [go_sem])
         have e1 : w2.cell? ⟨w.heap.size, 1, none⟩ = some (.int .i64 y) := (hb2.cell (by simp)).trans (by simp [go_sem])
         have hbw : Below w.heap.size w w2 := Below.trans (by go_grown) (hb2.mono (by simp))
         have hz2 : w2.heap.size = w.heap.size + 2 := k3.trans (by simp)
         have HBW := Lib.hid hbw
         have HK2 := Lib.hid k2
         have f0 : w2.frozen? ⟨w.heap.size + 1, 20, none⟩ = false := row_frozen k2 _
         have f1 : w2.frozen? ⟨w.heap.size + 1, 21, none⟩ = false := row_frozen k2 _
         have q0 : w2.cell? ⟨w.heap.size + 1, 20, none⟩ = some (.int .i64 (g 10).1) := row_cell k2 _
         have q1 : w2.cell? ⟨w.heap.size + 1, 21, none⟩ = some (.int .i64 (g 10).2) := row_cell k2 _
         clear hb2 k1 k2 k3 hbw hl c5)
      have hb3 : Below w.heap.size w ((w2.setCell ⟨w.heap.size + 1, 20, none⟩ (.int .i64 x)).setCell ⟨w.heap.size + 1, 21, none⟩ (.int .i64 y)) := (HBW.out.setCell (by simp) _).setCell (by simp) _
      have HR3 := Lib.hid (HH.out.below hb3.drew)
      have HB3 := Lib.hid hb3.drew
      have c53 := (HH.out.below hb3).r5
      have HK3 := Lib.hid (show (World.drew ((w2.setCell ⟨w.heap.size + 1, 20, none⟩ (.int .i64 x)).setCell ⟨w.heap.size + 1, 21, none⟩ (.int .i64 y))).heap[w.heap.size + 1]? = some (.cells (gcells fun j => if j = 10 then (x, y) else g j) 93 (0, 0)) from row_set2 HK2.out rfl)
      clear hb3 HBW HK2 hz2 e0 e1 f0 f1 q0 q1
      generalize ((w2.setCell ⟨w.heap.size + 1, 20, none⟩ (.int .i64 x)).setCell ⟨w.heap.size + 1, 21, none⟩ (.int .i64 y)) = w3 at *
      have hz3 := HB3.out.size
      refine wp_region_still_tail 6 (by kernel_rfl) (by kernel_rfl) ?_
      simp only [List.take_succ_cons, List.take_zero, List.drop_succ_cons, List.drop_zero]
      repeat (first | (refine wpStill_ld _ rfl _ rfl _ _ rfl HK3.out ?_) | still_step)
      refine wpStill_nil ?_
      change wpList _ _ _ _ _ (World.drew w3)
      go_wp2_with
        (refine wpList_upd _ rfl _ _ _ rfl (fun j => if j = 10 then (x, y) else g j) rfl rfl rfl HR3.out.map ht ?_
         rintro w4 hm ⟨b, rfl⟩
         have HM := Lib.hid hm
         clear hm)
      go_returns
      have hg := HG.out
      subst hg
      exact ⟨rfl, (HR3.out.set_map b t _ HM.out), (Kq.of_below HB3.out (Nat.le_refl _)).set_M b⟩
    · go_enter Tryd.func43, Tryd.ntmps43
      go_wp2_with
        (refine wpList_row _ rfl _ _ rfl g _ rfl rfl _ (alloc2_heap _ _ _) rfl ?_
         intro w2 hb2 k1 k2 k3
         have e0 : w2.cell? ⟨w.heap.size, 0, none⟩ = some (.int .i64 x) := (hb2.cell (by simp)).trans (by simp [go_sem])
         have e1 : w2.cell? ⟨w.heap.size, 1, none⟩ = some (.int .i64 y) := (hb2.cell (by simp)).trans (by simp [go_sem])
         have hbw : Below w.heap.size w w2 := Below.trans (by go_grown) (hb2.mono (by simp))
         have hz2 : w2.heap.size = w.heap.size + 2 := k3.trans (by simp)
         have HBW := Lib.hid hbw
         have HK2 := Lib.hid k2
         have f0 : w2.frozen? ⟨w.heap.size + 1, 22, none⟩ = false := row_frozen k2 _
         have f1 : w2.frozen? ⟨w.heap.size + 1, 23, none⟩ = false := row_frozen k2 _
         have q0 : w2.cell? ⟨w.heap.size + 1, 22, none⟩ = some (.int .i64 (g 11).1) := row_cell k2 _
         have q1 : w2.cell? ⟨w.heap.size + 1, 23, none⟩ = some (.int .i64 (g 11).2) := row_cell k2 _
         clear hb2 k1 k2 k3 hbw hl c5)
      have hb3 : Below w.heap.size w ((w2.setCell ⟨w.heap.size + 1, 22, none⟩ (.int .i64 x)).setCell ⟨w.heap.size + 1, 23, none⟩ (.int .i64 y)) := (HBW.out.setCell (by simp) _).setCell (by simp) _
      have HR3 := Lib.hid (HH.out.below hb3.drew)
      have HB3 := Lib.hid hb3.drew
      have c53 := (HH.out.below hb3).r5
      have HK3 := Lib.hid (show (World.drew ((w2.setCell ⟨w.heap.size + 1, 22, none⟩ (.int .i64 x)).setCell ⟨w.heap.size + 1, 23, none⟩ (.int .i64 y))).heap[w.heap.size + 1]? = some (.cells (gcells fun j => if j = 11 then (x, y) else g j) 93 (0, 0)) from row_set2 HK2.out rfl)
      clear hb3 HBW HK2 hz2 e0 e1 f0 f1 q0 q1
      generalize ((w2.setCell ⟨w.heap.size + 1, 22, none⟩ (.int .i64 x)).setCell ⟨w.heap.size + 1, 23, none⟩ (.int .i64 y)) = w3 at *
      have hz3 := HB3.out.size
      refine wp_region_still_tail 6 (by kernel_rfl) (by kernel_rfl) ?_
      simp only [List.take_succ_cons, List.take_zero, List.drop_succ_cons, List.drop_zero]
      repeat (first | (refine wpStill_ld _ rfl _ rfl _ _ rfl HK3.out ?_) | still_step)
      refine wpStill_nil ?_
      change wpList _ _ _ _ _ (World.drew w3)
      go_wp2_with
        (refine wpList_upd _ rfl _ _ _ rfl (fun j => if j = 11 then (x, y) else g j) rfl rfl rfl HR3.out.map ht ?_
         rintro w4 hm ⟨b, rfl⟩
         have HM := Lib.hid hm
         clear hm)
      go_returns
      have hg := HG.out
      subst hg
      exact ⟨rfl, (HR3.out.set_map b t _ HM.out), (Kq.of_below HB3.out (Nat.le_refl _)).set_M b⟩

end Go.Proofs.YtejfcmgnacimgaaDoor
