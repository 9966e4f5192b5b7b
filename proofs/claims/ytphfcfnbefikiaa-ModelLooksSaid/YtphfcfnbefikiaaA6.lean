/- add: a thing behind the others; get. -/
import Derived.Test.YtphfcfnbefikiaaA5
namespace Go.Proofs.Ytphfcfnbefikiaa
open Go.RowKit
set_option linter.unusedVariables false
set_option linter.unusedSimpArgs false

theorem info51 : (Try.prog.info? 51).map (fun i => (i.zero.map (·.cells.size), i.size, i.bytes)) = some (some 2, 2, 16) := by kernel_rfl
theorem info51p : ∃ i z, Try.prog.info? 51 = some i ∧ i.zero = some z ∧ z.cells.size = 2 ∧ i.size = 2 ∧ i.bytes = 16 := by
  have := info51
  cases hh : Try.prog.info? 51 with
  | none => rw [hh] at this; cases this
  | some i => rw [hh] at this; simp at this; obtain ⟨⟨z, hz, h0⟩, h1, h2⟩ := this; exact ⟨i, z, rfl, hz, h0, h1, h2⟩

section
variable {pr : Program} {ops : Array Oper} {rest : List Oper} {o : Oper} {a : Act} {K : Act → World → Prop} {Q : Exit → Act → World → Prop} {E : Prop} {w : World}
/-- An append at a step of a region that draws, by what is known of its run. -/
theorem step_app (hgd : o.guard = none) (s x : Operand) (t tx : TypeId) (ho : o.op = .call { callee := .builtin .append, args := #[s, x], argTypes := #[t, tx] }) {v u : Value} (hs : a.eval s = v) (hx : a.eval x = u) {n : Nat} {R : Option Addr → Nat → World → Prop}
    (hr : ∃ ad cap w', (Builtin.append_ #[t, tx] o.type #[v, u]).run pr w = .ok (.slice ad n cap) w' ∧ R ad cap w') (hK : ∀ ad cap w', R ad cap w' → K (a.put o.dst (.slice ad n cap)) w') :
    if Region.wanted o (yielded ops a.tmps) = true then Oper.wp pr o a w K Q else E := by
  have hw : Region.wanted o (yielded ops a.tmps) = true := by simp [Region.wanted, hgd]
  rw [if_pos hw]
  obtain ⟨ad, cap, w', h1, h2⟩ := hr
  unfold Oper.wp execOp
  simp only [ho, resolve, invoke, builtin, Sem.run_bind, Sem.run_pure, Result.andThen_ok, List.map_toArray, List.map_cons, List.map_nil, hs, hx, h1]
  exact hK _ _ _ h2
theorem wpList_app (hgd : o.guard = none) (s x : Operand) (t tx : TypeId) (ho : o.op = .call { callee := .builtin .append, args := #[s, x], argTypes := #[t, tx] }) {v u : Value} (hs : a.eval s = v) (hx : a.eval x = u) {n : Nat} {R : Option Addr → Nat → World → Prop}
    (hr : ∃ ad cap w', (Builtin.append_ #[t, tx] o.type #[v, u]).run pr w = .ok (.slice ad n cap) w' ∧ R ad cap w') (hK : ∀ ad cap w', R ad cap w' → wpList pr ops Q rest (a.put o.dst (.slice ad n cap)) w') : wpList pr ops Q (o :: rest) a w := by
  refine wpList_plain hgd fun K' hK' => ?_
  obtain ⟨ad, cap, w', h1, h2⟩ := hr
  unfold Oper.wp execOp
  simp only [ho, resolve, invoke, builtin, Sem.run_bind, Sem.run_pure, Result.andThen_ok, List.map_toArray, List.map_cons, List.map_nil, hs, hx, h1]
  exact hK' _ _ (hK _ _ _ h2)
end

/-- what is appended as one new thing: a block of its own -/
theorem app_thing {w : World} {v : Value} {L : List Th} (h : Sl w 51 2 v L.length (cells2 L)) (hn : L.length ≤ 1000) (B : Nat) (t : Th) (fr : Nat × Nat) (hb : w.heap[B]? = some (.cells #[.int .u64 t.1, .int .u64 t.2] 51 fr)) (ty : TypeId) {n : Nat} (hL : L.length = n) :
    ∃ ad cap w', (Builtin.append_ #[22, 22] ty #[v, .slice (some ⟨B, 0, none⟩) 1 1]).run Try.prog w = .ok (.slice ad (n + 1) cap) w' ∧
      (Sl w' 51 2 (.slice ad (n + 1) cap) (L ++ [t]).length (cells2 (L ++ [t])) ∧ w.grownBy w' v.ownBlock ∧ Mv w v (.slice ad (n + 1) cap)) := by
  obtain ⟨i, z, hi, hz, hzc, hs, h8⟩ := info51p
  obtain ⟨v', w', h1, h2, h3, h4⟩ := h.append (P := Try.prog) 22 22 ty i z 16 Try.underlying22 hi hz hs h8 hzc (.slice (some ⟨B, 0, none⟩) 1 1) 1 [.int .u64 t.1, .int .u64 t.2]
    (Src.ofSlice w Try.underlying22 ⟨B, 0, none⟩ 1 1 _ rfl (World.news_of_block hb) (by simp [Value.oneCell'])) (by unfold maxLen; omega) (by omega)
  obtain ⟨ad, cap, rfl, _⟩ := h2.form
  rw [hL] at h1 h2 h4
  refine ⟨ad, cap, w', h1, ?_, h3, h4⟩
  rw [List.length_append, hL, cells2_append]
  exact h2

theorem alloc2_heap (w : World) (o1 o2 : Go.Obj) : ((w.alloc o1).alloc o2).heap[w.heap.size + 1]? = some o2 := by
  show ((w.heap.push o1).push o2)[w.heap.size + 1]? = _
  rw [Array.getElem?_push, if_pos (by simp)]
theorem alloc1_heap (w : World) (o1 o2 : Go.Obj) : ((w.alloc o1).alloc o2).heap[w.heap.size]? = some o1 := by
  show ((w.heap.push o1).push o2)[w.heap.size]? = _
  rw [Array.getElem?_push, if_neg (by simp), Array.getElem?_push, if_pos rfl]

/-- the answer's own block -/
def box40 : Go.Obj := .cells #[.int .i64 0, .bool false, .int .u64 0] 40

/-- What an append to an object's things leaves (W: where it was done; the answer's block is the first behind w). -/
structure App (w W w4 : World) (X H : Nat) (v v4 : Value) : Prop where
  ch : Ch none v.ownBlock w w4
  c1 : w4.cell? ⟨X, 1, none⟩ = some (.pointer (some ⟨H, 0, none⟩))
  hv : w4.cell? ⟨H, 0, none⟩ = some v
  fz : w4.frozen? ⟨H, 0, none⟩ = false
  bx : w4.heap[w.heap.size]? = some box40
  sz : w.heap.size < w4.heap.size
  mv : Mv w v v4
  nb : v4.ownBlock ≠ some w.heap.size
theorem app_after {w W w4 : World} {X H : Nat} {v v4 : Value} {c : Int} {L : List Th} (h : Ob w X H v c L) (hb : Below w.heap.size w W) (hx : W.heap[w.heap.size]? = some box40) (hg : W.grownBy w4 v.ownBlock) (hm : Mv W v v4) : App w W w4 X H v v4 := by
  have hch : Ch none v.ownBlock w w4 := (Ch.of_below hb).trans (Ch.of_grown hg) (fun k hk => .inl hk)
  have hX := h.ltX
  have hH := h.ltH
  have hW : w.heap.size < W.heap.size := (Array.getElem?_eq_some_iff.1 hx).1
  refine ⟨hch, (hch.cell (p := ⟨X, 1, none⟩) hX (by simp) (Ne.symm h.nx)).trans h.c1, (hch.cell (p := ⟨H, 0, none⟩) hH (by simp) (Ne.symm h.nh)).trans h.hv, (hch.frozen (p := ⟨H, 0, none⟩) hH (by simp) (Ne.symm h.nh)).trans h.fz, ?_, Nat.lt_of_lt_of_le hW hg.size, fun k hk => ?_, fun e => ?_⟩
  · rw [hg.block _ hW (fun e => by have := h.sl.lt e.symm; omega)]; exact hx
  · rcases hm k hk with e | e
    · exact .inl e
    · right; omega
  · rcases hm _ e with e' | e'
    · have := h.sl.lt e'; omega
    · omega

theorem add_run {w : World} {X H n cap : Nat} {ad : Option Addr} {c : Int} {L : List Th} (h : Ob w X H (.slice ad n cap) c L) (hL : L.length = n) (hn : n ≤ 1000) (t : Th) (W : World) (hb : Below w.heap.size w W) (hx : W.heap[w.heap.size]? = some box40)
    (hr : W.heap[w.heap.size + 1]? = some (.cells #[.int .u64 t.1, .int .u64 t.2] 51 (0, 0))) (ty : TypeId) :
    ∃ ad4 cap4 w4, (Builtin.append_ #[22, 22] ty #[.slice ad n cap, .slice (some ⟨w.heap.size + 1, 0, none⟩) 1 1]).run Try.prog W = .ok (.slice ad4 (n + 1) cap4) w4 ∧
      (Sl w4 51 2 (.slice ad4 (n + 1) cap4) (L ++ [t]).length (cells2 (L ++ [t])) ∧ App w W w4 X H (.slice ad n cap) (.slice ad4 (n + 1) cap4)) := by
  obtain ⟨ad4, cap4, w4, h1, h2, h3, h4⟩ := app_thing (h.sl.below hb) (by omega) (w.heap.size + 1) t (0, 0) hr ty hL
  exact ⟨ad4, cap4, w4, h1, h2, app_after h hb hx h3 h4⟩

theorem box_cell {w : World} {B : Nat} (h : w.heap[B]? = some box40) : w.cell? ⟨B, 0, none⟩ = some (.int .i64 0) ∧ w.cell? ⟨B, 1, none⟩ = some (.bool false) ∧ w.cell? ⟨B, 2, none⟩ = some (.int .u64 0) ∧ ∀ j, w.frozen? ⟨B, j, none⟩ = false := by
  refine ⟨by simp [World.cell?, h, box40], by simp [World.cell?, h, box40], by simp [World.cell?, h, box40], fun j => by simp [World.frozen?, h, box40]⟩

theorem cset_other {w : World} {a b : Addr} {v : Value} (h : a ≠ b) : (w.setCell a v).cell? b = w.cell? b := by apply World.cell?_setCell_other; exact h
theorem cset_same {w : World} {a : Addr} {u v : Value} (h : w.cell? a = some u) : (w.setCell a v).cell? a = some v := by apply World.cell?_setCell_same; exact h
theorem box3 (W : World) (B : Nat) (p q r : Value) : Ch (some B) none W (((W.setCell ⟨B, 0, none⟩ p).setCell ⟨B, 1, none⟩ q).setCell ⟨B, 2, none⟩ r) :=
  (((Ch.refl (some B) none W).set1 (p := ⟨B, 0, none⟩) rfl p).set1 (p := ⟨B, 1, none⟩) rfl q).set1 (p := ⟨B, 2, none⟩) rfl r
theorem box3b (w W : World) (B : Nat) (h : Below w.heap.size w W) (hB : w.heap.size ≤ B) (p q r : Value) : Below w.heap.size w (((W.setCell ⟨B, 0, none⟩ p).setCell ⟨B, 1, none⟩ q).setCell ⟨B, 2, none⟩ r) :=
  ((h.setCell (p := ⟨B, 0, none⟩) hB p).setCell (p := ⟨B, 1, none⟩) hB q).setCell (p := ⟨B, 2, none⟩) hB r
/-- the answer's cells, written -/
theorem box_set0 {w : World} {B : Nat} (h : w.heap[B]? = some box40) :
    (∀ p, (w.setCell ⟨B, 0, none⟩ p).cell? ⟨B, 0, none⟩ = some p) ∧
    (∀ p q, ((w.setCell ⟨B, 0, none⟩ p).setCell ⟨B, 1, none⟩ q).cell? ⟨B, 1, none⟩ = some q) ∧
    (∀ p q r, (((w.setCell ⟨B, 0, none⟩ p).setCell ⟨B, 1, none⟩ q).setCell ⟨B, 2, none⟩ r).cell? ⟨B, 2, none⟩ = some r) := by
  obtain ⟨b1, b2, b3, b4⟩ := box_cell h
  exact ⟨fun p => cset_same b1, fun p q => cset_same ((cset_other (by simp)).trans b2), fun p q r => cset_same ((cset_other (by simp)).trans ((cset_other (by simp)).trans b3))⟩
/-- the answer's cells, written behind the object's -/
theorem box_set {w : World} {B H : Nat} {v : Value} (h : w.heap[B]? = some box40) (hne : H ≠ B) :
    (∀ p, ((w.setCell ⟨H, 0, none⟩ v).setCell ⟨B, 0, none⟩ p).cell? ⟨B, 0, none⟩ = some p) ∧
    (∀ p q, (((w.setCell ⟨H, 0, none⟩ v).setCell ⟨B, 0, none⟩ p).setCell ⟨B, 1, none⟩ q).cell? ⟨B, 1, none⟩ = some q) ∧
    (∀ p q r, ((((w.setCell ⟨H, 0, none⟩ v).setCell ⟨B, 0, none⟩ p).setCell ⟨B, 1, none⟩ q).setCell ⟨B, 2, none⟩ r).cell? ⟨B, 2, none⟩ = some r) := by
  obtain ⟨b1, b2, b3, b4⟩ := box_cell h
  have ne : ∀ j, (⟨H, 0, none⟩ : Addr) ≠ ⟨B, j, none⟩ := fun j e => hne (congrArg Addr.block e)
  exact ⟨fun p => cset_same ((cset_other (ne 0)).trans b1), fun p q => cset_same ((cset_other (by simp)).trans ((cset_other (ne 1)).trans b2)), fun p q r => cset_same ((cset_other (by simp)).trans ((cset_other (by simp)).trans ((cset_other (ne 2)).trans b3)))⟩

set_option maxHeartbeats 8000000 in
theorem add_any {X H : Nat} {v : Value} {c : Int} {L : List Th} (k x : Int) (w : World) (h : Ob w X H v c L) (hn : L.length ≤ 1000) :
    Calls Try.prog 41 #[P X, u64 k, u64 x] w fun e w' => e = .returned (ansV (addI x L).1) ∧ Did w X H v c (addI x L).2 w' := by
  have HO := Lib.hid h
  have hX := h.ltX
  have hH := h.ltH
  obtain ⟨ad, cap, rfl, _⟩ := h.sl.form
  obtain ⟨n, hL⟩ : ∃ n, L.length = n := ⟨_, rfl⟩
  have c1 := h.c1
  have hv := h.hv
  have hz := h.fz
  rw [hL] at hv hn HO h
  have HL := Lib.hid hL
  have hXH := h.ne
  have RUN := Lib.hid (add_run h hL hn (0, x))
  clear h hL
  go_enter Try.func41, Try.ntmps41
  go_wp2_with fail
  go_region_law (first
    | ((with_reducible show (if Region.wanted (Oper.mk _ (Op.call { callee := Callee.builtin Builtin.append, args := _, argTypes := _ }) _ _ _ _) _ = true then _ else _))
       refine step_app rfl (.tmp 16) (.tmp 19) 22 22 rfl (v := .slice ad n cap) (u := .slice (some ⟨w.heap.size + 1, 0, none⟩) 1 1) (by simp [Act.eval, Act.put]) (by simp [Act.eval, Act.put]) (RUN.out _ (by go_grown) (by exact alloc1_heap w _ _) (by exact alloc2_heap w _ _) _) ?_
       rintro ad4 cap4 w4 H
       have H4 := Lib.hid H
       have k1 := H4.out.2.c1
       have k2 := H4.out.2.hv
       have k3 := H4.out.2.fz
       have k4 := H4.out.2.sz
       obtain ⟨b1, b2, b3, b4⟩ := box_cell H4.out.2.bx
       clear H))
  all_goals
    go_wp2
    obtain ⟨f0, f1, f2⟩ := box_set (v := .slice ad4 (n + 1) cap4) H4.out.2.bx (show H ≠ w.heap.size by omega)
    refine bodyPost_ret (v := ansV (yesA 0)) (by simp [results, Try.results41, go_sem, f0, f1, f2, ansV, yesA]) rfl ?_
    rw [HL.out]
    refine ⟨rfl, did_set (B := w.heap.size) (v' := .slice ad4 (n + 1) cap4) HO.out H4.out.2.ch H4.out.1 H4.out.2.mv (Nat.le_refl _) H4.out.2.nb ?_⟩
    exact box3 _ _ _ _ _
end Go.Proofs.Ytphfcfnbefikiaa
