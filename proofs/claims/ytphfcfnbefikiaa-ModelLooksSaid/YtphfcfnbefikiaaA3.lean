/- The map of operations: made, and asked. -/
import Derived.Test.YtphfcfnbefikiaaA2
import Derived.Maps.OwnSet
namespace Go.Proofs.Ytphfcfnbefikiaa
open Go.RowKit Go.Maps Go.ChangeMaps Go.MapKept
set_option linter.unusedVariables false
set_option linter.unusedSimpArgs false

theorem keyed33 : Keyed Try.prog 33 := int_keyed Try.underlying33
def fnV (n : Nat) : Value := .func (.func n) #[] #[]
/-- Block M is a map of operations with these entries. -/
def FM (w : World) (M : Nat) (l : List (Int × Nat)) : Prop :=
  ∃ es clock, w.heap[M]? = some (.map es clock) ∧ es.toList.map (fun e => (e.key, e.val)) = l.map (fun p => (Value.int .i64 p.1, fnV p.2)) ∧ ∀ p ∈ l, (Lit.int .i64 p.1).wf = true

theorem fm_made (w : World) (n : Nat) : FM (w.alloc (.map #[] n)) w.heap.size [] := ⟨#[], n, heap_alloc_new w _, rfl, fun p hp => by cases hp⟩

theorem fm_keys {l : List (Int × Nat)} {es : Array MapEntry} (h : es.toList.map (fun e => (e.key, e.val)) = l.map (fun p => (Value.int .i64 p.1, fnV p.2))) (hw : ∀ p ∈ l, (Lit.int .i64 p.1).wf = true) :
    ∀ x ∈ es.toList, ∃ kl, keyOf Try.prog 33 x.key = some kl := fun x hx => by
  have hm : (x.key, x.val) ∈ es.toList.map (fun e => (e.key, e.val)) := List.mem_map.2 ⟨x, hx, rfl⟩
  rw [h] at hm
  obtain ⟨p, hp, e⟩ := List.mem_map.1 hm
  simp only [Prod.mk.injEq] at e
  exact ⟨_, by rw [← e.1]; exact keyOf_int_mk Try.underlying33 (hw p hp)⟩

theorem fm_upd {w : World} {M : Nat} {l : List (Int × Nat)} (h : FM w M l) (t : Int) (f : Nat) (ht : (Lit.int .i64 t).wf = true) (hn : ∀ p ∈ l, p.1 ≠ t) :
    ∃ es clock, (Instr.mapUpdate 70 (.map (some M)) (.int .i64 t) (fnV f)).run Try.prog w = .ok () (setBlock w M (.map es clock)) ∧ FM (setBlock w M (.map es clock)) M (l ++ [(t, f)]) := by
  obtain ⟨es, clock, hb, h1, h2⟩ := h
  have hkey := keyOf_int_mk (P := Try.prog) Try.underlying33 ht
  rcases keyed33.find w hkey es.toList (fm_keys h1 h2) with ⟨g1, g2⟩ | ⟨j, e0, g1, g2, g3⟩
  · refine ⟨es.push ⟨.int .i64 t, fnV f, clock⟩, clock + 1, ?_, _, _, heap_setBlock_same hb _, ?_, ?_⟩
    · simp [Instr.mapUpdate, run_underlying Try.underlying70, MapKept.run_getObj_map hb, keyed33.check w _ hkey, g1, MapKept.run_setObj_map _ hb, Result.andThen, setBlock]
    · rw [Array.toList_push, List.map_append, h1, List.map_append]; rfl
    · intro p hp
      rcases List.mem_append.1 hp with hp | hp
      · exact h2 p hp
      · simp only [List.mem_singleton] at hp; subst hp; exact ht
  · exfalso
    have hm : (e0.key, e0.val) ∈ es.toList.map (fun e => (e.key, e.val)) := List.mem_map.2 ⟨e0, List.mem_of_getElem? g2, rfl⟩
    rw [h1] at hm
    obtain ⟨p, hp, e⟩ := List.mem_map.1 hm
    simp only [Prod.mk.injEq] at e
    rw [g3] at e
    exact hn p hp (by simpa using e.1)

theorem zero68 (w : World) : (zeroValue 68).run Try.prog w = .ok .nilFunc w := by kernel_rfl

theorem find_uniq : ∀ (l : List (Int × Nat)), (l.Pairwise fun a b => a.1 ≠ b.1) → ∀ p ∈ l, l.find? (fun q => q.1 == p.1) = some p
  | [], _, p, hp => by cases hp
  | a :: l, h, p, hp => by
    have hc := List.pairwise_cons.1 h
    rcases List.mem_cons.1 hp with e | hp'
    · rw [e]; simp
    · have hne := hc.1 p hp'
      rw [List.find?_cons_of_neg (by simpa using hne)]
      exact find_uniq l hc.2 p hp'

/-- what is found -/
def pick (l : List (Int × Nat)) (o : Int) : Value := match l.find? (fun p => p.1 == o) with | some p => .tuple #[fnV p.2, .bool true] | none => .tuple #[.nilFunc, .bool false]

theorem fm_look {w : World} {M : Nat} {l : List (Int × Nat)} (h : FM w M l) (o : Int) (ho : (Lit.int .i64 o).wf = true) (hnd : l.Pairwise fun a b => a.1 ≠ b.1) :
    (Instr.lookup 70 (.map (some M)) (.int .i64 o) true).run Try.prog w = .ok (pick l o) w := by
  obtain ⟨es, clock, hb, h1, h2⟩ := h
  have hkey := keyOf_int_mk (P := Try.prog) Try.underlying33 ho
  rcases keyed33.find w hkey es.toList (fm_keys h1 h2) with ⟨g1, g2⟩ | ⟨j, e0, g1, g2, g3⟩
  · have hf : l.find? (fun p => p.1 == o) = none := by
      rw [List.find?_eq_none]
      intro p hp e
      have hm : (Value.int .i64 p.1, fnV p.2) ∈ l.map (fun p => (Value.int .i64 p.1, fnV p.2)) := List.mem_map.2 ⟨p, hp, rfl⟩
      rw [← h1] at hm
      obtain ⟨x, hx, ex⟩ := List.mem_map.1 hm
      simp only [Prod.mk.injEq] at ex
      have : p.1 = o := by simpa using e
      exact g2 x hx (by rw [ex.1, this])
    unfold pick
    rw [hf]
    simp [Instr.lookup, run_underlying Try.underlying70, MapKept.run_getObj_map hb, keyed33.check w _ hkey, g1, zero68, Result.andThen]
  · have hj : (l.map (fun p => (Value.int .i64 p.1, fnV p.2)))[j]? = some (e0.key, e0.val) := by rw [← h1, List.getElem?_map, g2]; rfl
    rw [List.getElem?_map] at hj
    cases hlj : l[j]? with
    | none => rw [hlj] at hj; cases hj
    | some p =>
      rw [hlj] at hj
      simp only [Option.map_some, Option.some.injEq, Prod.mk.injEq] at hj
      rw [g3] at hj
      have hpo : p.1 = o := by simpa using hj.1
      have hf : l.find? (fun p => p.1 == o) = some p := by rw [← hpo]; exact find_uniq l hnd p (List.mem_of_getElem? hlj)
      unfold pick
      rw [hf]
      simp only [hj.2]
      have hj' : es[j]? = some e0 := by simpa using g2
      simp [Instr.lookup, run_underlying Try.underlying70, MapKept.run_getObj_map hb, keyed33.check w _ hkey, g1, hj', Result.andThen]

section
variable {ops : Array Oper} {rest : List Oper} {o : Oper} {a : Act} {Q : Exit → Act → World → Prop}
theorem wpList_fins (w : World) (hg : o.guard = none) (m x v : Operand) (hop : o.op = Op.insert 70 m x v) {M : Nat} {l : List (Int × Nat)} {t : Int} {f : Nat}
    (hm : a.eval m = .map (some M)) (hx : a.eval x = .int .i64 t) (hv : a.eval v = fnV f) (hmap : FM w M l) (ht : (Lit.int .i64 t).wf = true) (hn : ∀ p ∈ l, p.1 ≠ t)
    (hK : ∀ w', FM w' M (l ++ [(t, f)]) → (∃ b, w' = setBlock w M b) → wpList Try.prog ops Q rest (a.put o.dst undef) w') :
    wpList Try.prog ops Q (o :: rest) a w := by
  refine wpList_plain hg fun K' hK' => ?_
  obtain ⟨es, clock, hrun, r1⟩ := fm_upd hmap t f ht hn
  unfold Oper.wp
  simp [execOp, hop, hm, hx, hv, hrun, Result.andThen]
  exact hK' _ _ (hK _ r1 ⟨_, rfl⟩)
end
theorem setBlock_keeps (w : World) (M : Nat) (b : Go.Obj) (B : Nat) (h : B ≤ M) : Below B w (setBlock w M b) :=
  ⟨rfl, rfl, rfl, by simp [setBlock], fun k hk => by simp only [setBlock, Array.getElem?_setIfInBounds]; rw [if_neg (by omega)]⟩

def opsOf (c : Int) : List (Int × Nat) := if c = 1 then [(1, 41), (2, 42)] else if c = 2 then [(3, 41), (4, 43)] else if isMap c = true then [(5, 44), (6, 45), (7, 46)] else []

set_option maxHeartbeats 1000000 in
theorem ops1 (w : World) : Calls Try.prog 30 #[i64 1] w fun e w' => e = .returned (.map (some w.heap.size)) ∧ FM w' w.heap.size (opsOf 1) ∧ Below w.heap.size w w' := by
  have hmm := @run_makeMap Try.prog
  have h0 := Lib.hid (fm_made w 0)
  have b0 := Lib.hid (show Below w.heap.size w (w.alloc (.map #[] 0)) by go_grown)
  go_enter Try.func30, Try.ntmps30
  go_wp2_with (first
    | (with_reducible show wpList _ _ _ (Oper.mk none (Op.insert 70 _ (Operand.const (Value.int IntKind.i64 1)) _) _ _ _ _ :: _) _ _
       refine wpList_fins _ rfl _ _ _ rfl (M := w.heap.size) (t := 1) (f := 41) rfl rfl rfl h0.out (by decide) (by decide) ?_
       rintro w1 f1 ⟨o1, e1⟩
       have h1 := Lib.hid f1
       have b1 := Lib.hid (show Below w.heap.size w w1 from b0.out.trans (by rw [e1]; exact setBlock_keeps _ _ _ _ (Nat.le_refl _)))
       clear f1 e1)
    | (with_reducible show wpList _ _ _ (Oper.mk none (Op.insert 70 _ (Operand.const (Value.int IntKind.i64 2)) _) _ _ _ _ :: _) _ _
       refine wpList_fins _ rfl _ _ _ rfl (M := w.heap.size) (t := 2) (f := 42) rfl rfl rfl h1.out (by decide) (by decide) ?_
       rintro w2 f2 ⟨o2, e2⟩
       have h2 := Lib.hid f2
       have b2 := Lib.hid (show Below w.heap.size w w2 from b1.out.trans (by rw [e2]; exact setBlock_keeps _ _ _ _ (Nat.le_refl _)))
       clear f2 e2))
  go_returns
  exact ⟨rfl, h2.out, b2.out⟩

set_option maxHeartbeats 1000000 in
theorem ops2 (w : World) : Calls Try.prog 30 #[i64 2] w fun e w' => e = .returned (.map (some w.heap.size)) ∧ FM w' w.heap.size (opsOf 2) ∧ Below w.heap.size w w' := by
  have hmm := @run_makeMap Try.prog
  have h0 := Lib.hid (fm_made w 0)
  have b0 := Lib.hid (show Below w.heap.size w (w.alloc (.map #[] 0)) by go_grown)
  go_enter Try.func30, Try.ntmps30
  go_wp2_with (first
    | (with_reducible show wpList _ _ _ (Oper.mk none (Op.insert 70 _ (Operand.const (Value.int IntKind.i64 3)) _) _ _ _ _ :: _) _ _
       refine wpList_fins _ rfl _ _ _ rfl (M := w.heap.size) (t := 3) (f := 41) rfl rfl rfl h0.out (by decide) (by decide) ?_
       rintro w1 f1 ⟨o1, e1⟩
       have h1 := Lib.hid f1
       have b1 := Lib.hid (show Below w.heap.size w w1 from b0.out.trans (by rw [e1]; exact setBlock_keeps _ _ _ _ (Nat.le_refl _)))
       clear f1 e1)
    | (with_reducible show wpList _ _ _ (Oper.mk none (Op.insert 70 _ (Operand.const (Value.int IntKind.i64 4)) _) _ _ _ _ :: _) _ _
       refine wpList_fins _ rfl _ _ _ rfl (M := w.heap.size) (t := 4) (f := 43) rfl rfl rfl h1.out (by decide) (by decide) ?_
       rintro w2 f2 ⟨o2, e2⟩
       have h2 := Lib.hid f2
       have b2 := Lib.hid (show Below w.heap.size w w2 from b1.out.trans (by rw [e2]; exact setBlock_keeps _ _ _ _ (Nat.le_refl _)))
       clear f2 e2))
  go_returns
  exact ⟨rfl, h2.out, b2.out⟩

set_option maxHeartbeats 1000000 in
theorem ops3 (w : World) : Calls Try.prog 30 #[i64 3] w fun e w' => e = .returned (.map (some w.heap.size)) ∧ FM w' w.heap.size (opsOf 3) ∧ Below w.heap.size w w' := by
  have hmm := @run_makeMap Try.prog
  have h0 := Lib.hid (fm_made w 0)
  have b0 := Lib.hid (show Below w.heap.size w (w.alloc (.map #[] 0)) by go_grown)
  go_enter Try.func30, Try.ntmps30
  go_wp2_with (first
    | (with_reducible show wpList _ _ _ (Oper.mk none (Op.insert 70 _ (Operand.const (Value.int IntKind.i64 5)) _) _ _ _ _ :: _) _ _
       refine wpList_fins _ rfl _ _ _ rfl (M := w.heap.size) (t := 5) (f := 44) rfl rfl rfl h0.out (by decide) (by decide) ?_
       rintro w1 f1 ⟨o1, e1⟩
       have h1 := Lib.hid f1
       have b1 := Lib.hid (show Below w.heap.size w w1 from b0.out.trans (by rw [e1]; exact setBlock_keeps _ _ _ _ (Nat.le_refl _)))
       clear f1 e1)
    | (with_reducible show wpList _ _ _ (Oper.mk none (Op.insert 70 _ (Operand.const (Value.int IntKind.i64 6)) _) _ _ _ _ :: _) _ _
       refine wpList_fins _ rfl _ _ _ rfl (M := w.heap.size) (t := 6) (f := 45) rfl rfl rfl h1.out (by decide) (by decide) ?_
       rintro w2 f2 ⟨o2, e2⟩
       have h2 := Lib.hid f2
       have b2 := Lib.hid (show Below w.heap.size w w2 from b1.out.trans (by rw [e2]; exact setBlock_keeps _ _ _ _ (Nat.le_refl _)))
       clear f2 e2)
    | (with_reducible show wpList _ _ _ (Oper.mk none (Op.insert 70 _ (Operand.const (Value.int IntKind.i64 7)) _) _ _ _ _ :: _) _ _
       refine wpList_fins _ rfl _ _ _ rfl (M := w.heap.size) (t := 7) (f := 46) rfl rfl rfl h2.out (by decide) (by decide) ?_
       rintro w3 f3 ⟨o3, e3⟩
       have h3 := Lib.hid f3
       have b3 := Lib.hid (show Below w.heap.size w w3 from b2.out.trans (by rw [e3]; exact setBlock_keeps _ _ _ _ (Nat.le_refl _)))
       clear f3 e3))
  go_returns
  exact ⟨rfl, h3.out, b3.out⟩

set_option maxHeartbeats 1000000 in
theorem ops4 (w : World) : Calls Try.prog 30 #[i64 4] w fun e w' => e = .returned (.map (some w.heap.size)) ∧ FM w' w.heap.size (opsOf 4) ∧ Below w.heap.size w w' := by
  have hmm := @run_makeMap Try.prog
  have h0 := Lib.hid (fm_made w 0)
  have b0 := Lib.hid (show Below w.heap.size w (w.alloc (.map #[] 0)) by go_grown)
  go_enter Try.func30, Try.ntmps30
  go_wp2_with (first
    | (with_reducible show wpList _ _ _ (Oper.mk none (Op.insert 70 _ (Operand.const (Value.int IntKind.i64 5)) _) _ _ _ _ :: _) _ _
       refine wpList_fins _ rfl _ _ _ rfl (M := w.heap.size) (t := 5) (f := 44) rfl rfl rfl h0.out (by decide) (by decide) ?_
       rintro w1 f1 ⟨o1, e1⟩
       have h1 := Lib.hid f1
       have b1 := Lib.hid (show Below w.heap.size w w1 from b0.out.trans (by rw [e1]; exact setBlock_keeps _ _ _ _ (Nat.le_refl _)))
       clear f1 e1)
    | (with_reducible show wpList _ _ _ (Oper.mk none (Op.insert 70 _ (Operand.const (Value.int IntKind.i64 6)) _) _ _ _ _ :: _) _ _
       refine wpList_fins _ rfl _ _ _ rfl (M := w.heap.size) (t := 6) (f := 45) rfl rfl rfl h1.out (by decide) (by decide) ?_
       rintro w2 f2 ⟨o2, e2⟩
       have h2 := Lib.hid f2
       have b2 := Lib.hid (show Below w.heap.size w w2 from b1.out.trans (by rw [e2]; exact setBlock_keeps _ _ _ _ (Nat.le_refl _)))
       clear f2 e2)
    | (with_reducible show wpList _ _ _ (Oper.mk none (Op.insert 70 _ (Operand.const (Value.int IntKind.i64 7)) _) _ _ _ _ :: _) _ _
       refine wpList_fins _ rfl _ _ _ rfl (M := w.heap.size) (t := 7) (f := 46) rfl rfl rfl h2.out (by decide) (by decide) ?_
       rintro w3 f3 ⟨o3, e3⟩
       have h3 := Lib.hid f3
       have b3 := Lib.hid (show Below w.heap.size w w3 from b2.out.trans (by rw [e3]; exact setBlock_keeps _ _ _ _ (Nat.le_refl _)))
       clear f3 e3))
  go_returns
  exact ⟨rfl, h3.out, b3.out⟩

set_option maxHeartbeats 1000000 in
theorem ops5 (w : World) : Calls Try.prog 30 #[i64 5] w fun e w' => e = .returned (.map (some w.heap.size)) ∧ FM w' w.heap.size (opsOf 5) ∧ Below w.heap.size w w' := by
  have hmm := @run_makeMap Try.prog
  have h0 := Lib.hid (fm_made w 0)
  have b0 := Lib.hid (show Below w.heap.size w (w.alloc (.map #[] 0)) by go_grown)
  go_enter Try.func30, Try.ntmps30
  go_wp2_with (first
    | (with_reducible show wpList _ _ _ (Oper.mk none (Op.insert 70 _ (Operand.const (Value.int IntKind.i64 5)) _) _ _ _ _ :: _) _ _
       refine wpList_fins _ rfl _ _ _ rfl (M := w.heap.size) (t := 5) (f := 44) rfl rfl rfl h0.out (by decide) (by decide) ?_
       rintro w1 f1 ⟨o1, e1⟩
       have h1 := Lib.hid f1
       have b1 := Lib.hid (show Below w.heap.size w w1 from b0.out.trans (by rw [e1]; exact setBlock_keeps _ _ _ _ (Nat.le_refl _)))
       clear f1 e1)
    | (with_reducible show wpList _ _ _ (Oper.mk none (Op.insert 70 _ (Operand.const (Value.int IntKind.i64 6)) _) _ _ _ _ :: _) _ _
       refine wpList_fins _ rfl _ _ _ rfl (M := w.heap.size) (t := 6) (f := 45) rfl rfl rfl h1.out (by decide) (by decide) ?_
       rintro w2 f2 ⟨o2, e2⟩
       have h2 := Lib.hid f2
       have b2 := Lib.hid (show Below w.heap.size w w2 from b1.out.trans (by rw [e2]; exact setBlock_keeps _ _ _ _ (Nat.le_refl _)))
       clear f2 e2)
    | (with_reducible show wpList _ _ _ (Oper.mk none (Op.insert 70 _ (Operand.const (Value.int IntKind.i64 7)) _) _ _ _ _ :: _) _ _
       refine wpList_fins _ rfl _ _ _ rfl (M := w.heap.size) (t := 7) (f := 46) rfl rfl rfl h2.out (by decide) (by decide) ?_
       rintro w3 f3 ⟨o3, e3⟩
       have h3 := Lib.hid f3
       have b3 := Lib.hid (show Below w.heap.size w w3 from b2.out.trans (by rw [e3]; exact setBlock_keeps _ _ _ _ (Nat.le_refl _)))
       clear f3 e3))
  go_returns
  exact ⟨rfl, h3.out, b3.out⟩

set_option maxHeartbeats 1000000 in
theorem ops6 (w : World) : Calls Try.prog 30 #[i64 6] w fun e w' => e = .returned (.map (some w.heap.size)) ∧ FM w' w.heap.size (opsOf 6) ∧ Below w.heap.size w w' := by
  have hmm := @run_makeMap Try.prog
  have h0 := Lib.hid (fm_made w 0)
  have b0 := Lib.hid (show Below w.heap.size w (w.alloc (.map #[] 0)) by go_grown)
  go_enter Try.func30, Try.ntmps30
  go_wp2_with (first
    | (with_reducible show wpList _ _ _ (Oper.mk none (Op.insert 70 _ (Operand.const (Value.int IntKind.i64 5)) _) _ _ _ _ :: _) _ _
       refine wpList_fins _ rfl _ _ _ rfl (M := w.heap.size) (t := 5) (f := 44) rfl rfl rfl h0.out (by decide) (by decide) ?_
       rintro w1 f1 ⟨o1, e1⟩
       have h1 := Lib.hid f1
       have b1 := Lib.hid (show Below w.heap.size w w1 from b0.out.trans (by rw [e1]; exact setBlock_keeps _ _ _ _ (Nat.le_refl _)))
       clear f1 e1)
    | (with_reducible show wpList _ _ _ (Oper.mk none (Op.insert 70 _ (Operand.const (Value.int IntKind.i64 6)) _) _ _ _ _ :: _) _ _
       refine wpList_fins _ rfl _ _ _ rfl (M := w.heap.size) (t := 6) (f := 45) rfl rfl rfl h1.out (by decide) (by decide) ?_
       rintro w2 f2 ⟨o2, e2⟩
       have h2 := Lib.hid f2
       have b2 := Lib.hid (show Below w.heap.size w w2 from b1.out.trans (by rw [e2]; exact setBlock_keeps _ _ _ _ (Nat.le_refl _)))
       clear f2 e2)
    | (with_reducible show wpList _ _ _ (Oper.mk none (Op.insert 70 _ (Operand.const (Value.int IntKind.i64 7)) _) _ _ _ _ :: _) _ _
       refine wpList_fins _ rfl _ _ _ rfl (M := w.heap.size) (t := 7) (f := 46) rfl rfl rfl h2.out (by decide) (by decide) ?_
       rintro w3 f3 ⟨o3, e3⟩
       have h3 := Lib.hid f3
       have b3 := Lib.hid (show Below w.heap.size w w3 from b2.out.trans (by rw [e3]; exact setBlock_keeps _ _ _ _ (Nat.le_refl _)))
       clear f3 e3))
  go_returns
  exact ⟨rfl, h3.out, b3.out⟩

theorem ops_none (c : Int) (h : c < 1 ∨ 6 < c) (w : World) : Calls Try.prog 30 #[i64 c] w fun e w' => e = .returned (.map none) ∧ w = w' := by
  have e1 : (c == 1) = false := by simp; omega
  have e2 : (c == 2) = false := by simp; omega
  have e3 : (c == 3) = false := by simp; omega
  have e4 : (c == 4) = false := by simp; omega
  have e5 : (c == 5) = false := by simp; omega
  have e6 : (c == 6) = false := by simp; omega
  clear h
  go_enter Try.func30, Try.ntmps30
  go_wp2
  go_returns
  exact ⟨rfl, rfl⟩

theorem ops_any (c : Int) (h1 : 1 ≤ c) (h2 : c ≤ 6) (w : World) : Calls Try.prog 30 #[i64 c] w fun e w' => e = .returned (.map (some w.heap.size)) ∧ FM w' w.heap.size (opsOf c) ∧ Below w.heap.size w w' := by
  have : c = 1 ∨ c = 2 ∨ c = 3 ∨ c = 4 ∨ c = 5 ∨ c = 6 := by omega
  rcases this with rfl | rfl | rfl | rfl | rfl | rfl
  · exact ops1 w
  · exact ops2 w
  · exact ops3 w
  · exact ops4 w
  · exact ops5 w
  · exact ops6 w
theorem ops_nd (c : Int) : (opsOf c).Pairwise fun a b => a.1 ≠ b.1 := by
  unfold opsOf
  split
  · decide
  · split
    · decide
    · split
      · decide
      · decide

/-- what a client's map says of an op -/
def fnOf (c o : Int) : Nat :=
  if c = 1 ∧ o = 1 then 41 else if c = 1 ∧ o = 2 then 42 else if c = 2 ∧ o = 3 then 41 else if c = 2 ∧ o = 4 then 43 else if o = 5 then 44 else if o = 6 then 45 else 46
theorem pick_any (c o : Int) : pick (opsOf c) o = if mayB c o = true then .tuple #[fnV (fnOf c o), .bool true] else .tuple #[.nilFunc, .bool false] := by
  unfold opsOf pick
  by_cases h1 : c = 1
  · subst h1
    by_cases o1 : o = 1
    · subst o1; rfl
    · by_cases o2 : o = 2
      · subst o2; rfl
      · have a1 : ((1 : Int) == o) = false := by simp; omega
        have a2 : ((2 : Int) == o) = false := by simp; omega
        have : mayB 1 o = false := by simp [mayB, isMap, o1, o2]
        rw [this]
        simp [a1, a2]
  · rw [if_neg h1]
    by_cases h2 : c = 2
    · subst h2
      by_cases o1 : o = 3
      · subst o1; rfl
      · by_cases o2 : o = 4
        · subst o2; rfl
        · have a1 : ((3 : Int) == o) = false := by simp; omega
          have a2 : ((4 : Int) == o) = false := by simp; omega
          have : mayB 2 o = false := by simp [mayB, isMap, o1, o2]
          rw [this]
          simp [a1, a2]
    · rw [if_neg h2]
      by_cases hm : isMap c = true
      · rw [if_pos hm]
        have hmay : mayB c o = (decide (5 ≤ o) && decide (o ≤ 7)) := by
          unfold mayB
          rw [hm]
          have h1' : (c == 1) = false := by simp; omega
          have h2' : (c == 2) = false := by simp; omega
          simp [h1', h2']
        rw [hmay]
        by_cases o1 : o = 5
        · subst o1; simp [fnOf, h1, h2]
        · by_cases o2 : o = 6
          · subst o2; simp [fnOf, h1, h2]
          · by_cases o3 : o = 7
            · subst o3; simp [fnOf, h1, h2]
            · have a1 : ((5 : Int) == o) = false := by simp; omega
              have a2 : ((6 : Int) == o) = false := by simp; omega
              have a3 : ((7 : Int) == o) = false := by simp; omega
              have : ¬ (decide (5 ≤ o) && decide (o ≤ 7)) = true := by simp; omega
              rw [if_neg this]
              simp [a1, a2, a3]
      · have hmf : isMap c = false := by simpa using hm
        have h1' : (c == 1) = false := by simp; omega
        have h2' : (c == 2) = false := by simp; omega
        have : mayB c o = false := by simp [mayB, hmf, h1', h2']
        rw [if_neg hm, this]
        rfl

/-- the lookup of an op, in whatever comes of operations -/
theorem look_any {w : World} {M : Nat} {c : Int} (h : FM w M (opsOf c)) (o : Int) (ho : (Lit.int .i64 o).wf = true) :
    (Instr.lookup 70 (.map (some M)) (.int .i64 o) true).run Try.prog w = .ok (if mayB c o = true then .tuple #[fnV (fnOf c o), .bool true] else .tuple #[.nilFunc, .bool false]) w := by
  rw [fm_look h o ho (ops_nd c), pick_any]

theorem may_in (c o : Int) (h1 : 1 ≤ c) (h2 : c ≤ 6) (ho : (Lit.int .i64 o).wf = true) (w : World) : Calls Try.prog 14 #[i64 c, i64 o] w fun e w' => e = .returned (.bool (mayB c o)) ∧ Below w.heap.size w w' := by
  have OPS := Lib.hid (ops_any c h1 h2 w)
  go_enter Try.func14, Try.ntmps14
  go_wp2_with fail
  refine OPS.out.mono ?_
  rintro e w1 ⟨rfl, hf, hb⟩
  have HB := Lib.hid hb
  have hl := look_any hf o ho
  clear hf hb
  by_cases hm : mayB c o = true
  · rw [if_pos hm] at hl
    have HM := Lib.hid hm
    clear hm
    go_wp2
    go_returns
    exact ⟨by rw [HM.out]; rfl, HB.out⟩
  · rw [if_neg hm] at hl
    have HM := Lib.hid hm
    clear hm
    go_wp2
    go_returns
    refine ⟨?_, HB.out⟩
    have : mayB c o = false := by simpa using HM.out
    rw [this]; rfl
theorem look_nil (o : Int) (ho : (Lit.int .i64 o).wf = true) (w : World) : (Instr.lookup 70 (.map none) (.int .i64 o) true).run Try.prog w = .ok (.tuple #[.nilFunc, .bool false]) w := by
  have hkey := keyOf_int_mk (P := Try.prog) Try.underlying33 ho
  rcases keyed33.find w hkey [] (fun x hx => by cases hx) with ⟨g1, g2⟩ | ⟨j, e0, g1, g2, g3⟩
  · simp [Instr.lookup, run_underlying Try.underlying70, keyed33.check w _ hkey, g1, zero68, Result.andThen]
  · simp at g2
theorem may_out (c o : Int) (ho : (Lit.int .i64 o).wf = true) (h : c < 1 ∨ 6 < c) (w : World) : Calls Try.prog 14 #[i64 c, i64 o] w fun e w' => e = .returned (.bool false) ∧ Below w.heap.size w w' := by
  have OPS := Lib.hid (ops_none c h w)
  have hl := look_nil o ho
  clear h
  go_enter Try.func14, Try.ntmps14
  go_wp2_with fail
  refine OPS.out.mono ?_
  rintro e w1 ⟨rfl, rfl⟩
  go_wp2
  go_returns
  exact ⟨rfl, by go_grown⟩
theorem rmay_any (c o : Int) (w : World) : Calls Try.prog 15 #[i64 c, i64 o] w fun e w' => e = .returned (.bool (mayB c o)) ∧ w = w' := by
  have RM := Lib.hid (fun w => rmap_any c w)
  by_cases h1 : c = 1
  · subst h1
    have e0 : isMap 1 = false := rfl
    go_enter Try.func15, Try.ntmps15
    go_wp2_with (go_at_call 31; refine (RM.out _).mono ?_; rintro e w1 ⟨rfl, rfl⟩)
    all_goals go_returns
    all_goals refine ⟨ret_bool ?_, rfl⟩
    all_goals (unfold mayB; rw [Bool.eq_iff_iff]; simp_all [isMap])
  · by_cases h2 : c = 2
    · subst h2
      go_enter Try.func15, Try.ntmps15
      go_wp2_with (go_at_call 31; refine (RM.out _).mono ?_; rintro e w1 ⟨rfl, rfl⟩)
      all_goals go_returns
      all_goals refine ⟨ret_bool ?_, rfl⟩
      all_goals (unfold mayB; rw [Bool.eq_iff_iff]; simp_all [isMap])
    · have e1 : (c == 1) = false := by simp [h1]
      have e2 : (c == 2) = false := by simp [h2]
      have HN := Lib.hid (show mayB c o = (isMap c && decide (5 ≤ o) && decide (o ≤ 7)) by unfold mayB; rw [e1, e2]; simp)
      clear h1 h2
      go_enter Try.func15, Try.ntmps15
      go_wp2_with (go_at_call 31; refine (RM.out _).mono ?_; rintro e w1 ⟨rfl, rfl⟩)
      all_goals go_returns
      all_goals refine ⟨ret_bool ?_, rfl⟩
      all_goals (rw [HN.out, Bool.eq_iff_iff]; simp_all; try omega)
end Go.Proofs.Ytphfcfnbefikiaa
