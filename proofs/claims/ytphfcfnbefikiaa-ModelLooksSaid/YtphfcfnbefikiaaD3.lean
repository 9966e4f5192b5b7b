/- All; a loop over it that collects: Things. -/
import Derived.Test.YtphfcfnbefikiaaD2
namespace Go.Proofs.Ytphfcfnbefikiaa
open Go.RowKit Go.Shelf
set_option linter.unusedVariables false
set_option linter.unusedSimpArgs false
attribute [local go_sem] Oper.semAt_some

theorem all_any (x : Option Addr) (w : World) : Calls Try.prog 23 #[.pointer x] w fun e w' => e = .returned (.func (.func 35) #[] #[P w.heap.size]) ∧ w' = w.alloc (.cells #[.pointer x] 26) := by
  go_enter Try.func23, Try.ntmps23
  go_wp2
  go_returns
  exact ⟨rfl, rfl⟩

section
variable {F : Fence} {nF : Nat} {pr : Program} {ops : Array Oper} {rest : List Oper} {o : Oper} {a : Act} {Q : Exit → Act → World → Prop} {w : World}
theorem wpListIn_app (hgd : o.guard = none) (s x : Operand) (t tx : TypeId) (ho : o.op = .call { callee := .builtin .append, args := #[s, x], argTypes := #[t, tx] }) {v u : Value} (hs : a.eval s = v) (hx : a.eval x = u) {n : Nat} {R : Option Addr → Nat → World → Prop}
    (hr : ∃ ad cap w', (Builtin.append_ #[t, tx] o.type #[v, u]).run pr w = .ok (.slice ad n cap) w' ∧ R ad cap w') (hK : ∀ ad cap w', R ad cap w' → wpListIn F nF pr ops Q rest (a.put o.dst (.slice ad n cap)) w') : wpListIn F nF pr ops Q (o :: rest) a w := by
  refine wpListIn_plain hgd fun K' hK' => ?_
  obtain ⟨ad, cap, w', h1, h2⟩ := hr
  unfold Oper.wpIn
  refine ⟨by simp [Oper.about, ho, resolve, Target.leads, Sem.run_pure], ?_⟩
  rw [Oper.semAt_plain F _ _ (by rw [ho]; intro c hc'; cases hc')]
  simp [execOp, ho, resolve, invoke, builtin, hs, hx, h1, Result.andThen]
  exact hK' _ _ (hK _ _ _ h2)
end

/-- What a loop that collects knows between two rounds: what it has lies in the box B3. -/
def TI (n0 B3 : Nat) (w : World) (pre : List Th) (W : World) : Prop :=
  ∃ ad cap, W.heap[B3]? = some (.cells #[.slice ad pre.length cap] 22 (0, 0)) ∧ Sl W 51 2 (.slice ad pre.length cap) pre.length (cells2 pre) ∧ (∀ b, (Value.slice ad pre.length cap).ownBlock = some b → n0 ≤ b ∧ b ≠ B3) ∧ Below n0 w W ∧ n0 ≤ B3 ∧ n0 ≤ w.heap.size

theorem sl_cells {w : World} {e : TypeId} {k n : Nat} {v : Value} {xs : List Value} (h : Sl w e k v n xs) {b : Nat} (hb : v.ownBlock = some b) : ∃ o, w.heap[b]? = some o ∧ o.isCells = true := by
  rcases h.2.2 with ⟨rfl, _⟩ | ⟨b', off, cap, cur, rfl, hh, _⟩
  · cases hb
  · simp only [Value.ownBlock, Option.some.injEq] at hb
    subst hb
    exact ⟨_, hh, rfl⟩

theorem ti_own (n0 B3 B : Nat) (w : World) (hB : n0 ≤ B) : OwnFrom B (TI n0 B3 w) := fun pre W W' row h hg hr => by
  obtain ⟨ad, cap, h1, h2, h3, h4, h5, h6⟩ := h
  have hne : ∀ b o, W.heap[b]? = some o → o.isCells = true → some b ≠ row := fun b o hb ho e => by
    obtain ⟨_, o', ho', hc'⟩ := hr b e.symm
    rw [hb] at ho'; obtain rfl := Option.some.inj ho'; rw [ho] at hc'; cases hc'
  refine ⟨ad, cap, ?_, h2.kept fun b hb => ?_, h3, h4.grown hg (Nat.le_trans h6 h4.size) (fun k e => Nat.le_trans hB (hr k e).1), h5, h6⟩
  · rw [hg.block B3 (Array.getElem?_eq_some_iff.1 h1).1 (hne B3 _ h1 rfl)]; exact h1
  · obtain ⟨o, ho, hc⟩ := sl_cells h2 hb
    exact hg.block b (Array.getElem?_eq_some_iff.1 ho).1 (hne b o ho hc)

theorem ti_alloc {n0 B3 : Nat} {w W : World} {pre : List Th} (h : TI n0 B3 w pre W) (o : Go.Obj) : TI n0 B3 w pre (W.alloc o) := by
  obtain ⟨ad, cap, h1, h2, h3, h4, h5, h6⟩ := h
  have hb : Below W.heap.size W (W.alloc o) := by go_grown
  exact ⟨ad, cap, (hb.block _ (Array.getElem?_eq_some_iff.1 h1).1).trans h1, h2.below hb, h3, h4.trans (hb.mono (Nat.le_trans h6 h4.size)), h5, h6⟩

theorem kb_alloc (Bb : Nat) (W : World) (o : Go.Obj) : Kb Bb W (W.alloc o) := by
  have hb : Below W.heap.size W (W.alloc o) := by go_grown
  refine ⟨hb.size, fun hs => ?_⟩
  have hc : (W.alloc o).cell? ⟨Bb, 0, none⟩ = W.cell? ⟨Bb, 0, none⟩ := hb.cell (p := ⟨Bb, 0, none⟩) (cell_lt hs)
  exact ⟨by rw [hc]; exact hs, fun k x hk _ _ _ => (hb.block k (Array.getElem?_eq_some_iff.1 hk).1).trans hk, fun k ⟨u, u1, u2⟩ => .inl ⟨u, by rw [← hc]; exact u1, u2⟩⟩

/-- One round of collecting: the append's run. -/
theorem ti_run {n0 B3 : Nat} {w W : World} {pre : List Th} {ad : Option Addr} {cap : Nat} (hs : Sl W 51 2 (.slice ad pre.length cap) pre.length (cells2 pre)) (hn : pre.length ≤ 1000) (x : Th) (ty : TypeId) :
    ∃ ad4 cap4 w4, (Builtin.append_ #[22, 22] ty #[.slice ad pre.length cap, .slice (some ⟨W.heap.size, 0, none⟩) 1 1]).run Try.prog (W.alloc (.cells #[.int .u64 x.1, .int .u64 x.2] 51)) = .ok (.slice ad4 (pre.length + 1) cap4) w4 ∧
      (Sl w4 51 2 (.slice ad4 (pre.length + 1) cap4) (pre.length + 1) (cells2 (pre ++ [x])) ∧ (W.alloc (.cells #[.int .u64 x.1, .int .u64 x.2] 51)).grownBy w4 (Value.slice ad pre.length cap).ownBlock ∧ Mv W (.slice ad pre.length cap) (.slice ad4 (pre.length + 1) cap4)) := by
  have hb : Below W.heap.size W (W.alloc (.cells #[.int .u64 x.1, .int .u64 x.2] 51)) := by go_grown
  obtain ⟨ad4, cap4, w4, h1, h2, h3, h4⟩ := app_thing (hs.below hb) hn W.heap.size x (0, 0) (heap_alloc_new W _) ty rfl
  refine ⟨ad4, cap4, w4, h1, by simpa using h2, h3, fun k hk => ?_⟩
  rcases h4 k hk with e | e
  · exact .inl e
  · right; simp only [World.size_alloc] at e; omega

/-- .. and what it leaves. -/
theorem ti_step {n0 B3 B : Nat} {w W w4 : World} {pre : List Th} {ad ad4 : Option Addr} {cap cap4 : Nat} {x : Th} {o : Go.Obj} (h1 : W.heap[B3]? = some (.cells #[.slice ad pre.length cap] 22 (0, 0))) (h2 : Sl W 51 2 (.slice ad pre.length cap) pre.length (cells2 pre)) (h3 : ∀ b, (Value.slice ad pre.length cap).ownBlock = some b → n0 ≤ b ∧ b ≠ B3) (h4 : Below n0 w W) (h5 : n0 ≤ B3) (h6 : n0 ≤ w.heap.size)
    (hs : Sl w4 51 2 (.slice ad4 (pre.length + 1) cap4) (pre.length + 1) (cells2 (pre ++ [x]))) (hg : (W.alloc o).grownBy w4 (Value.slice ad pre.length cap).ownBlock) (hm : Mv W (.slice ad pre.length cap) (.slice ad4 (pre.length + 1) cap4)) :
    (w4.cell? ⟨B3, 0, none⟩ = some (.slice ad pre.length cap) ∧ w4.frozen? ⟨B3, 0, none⟩ = false ∧ B3 < w4.heap.size) ∧
    KeepsFrom B W (w4.setCell ⟨B3, 0, none⟩ (.slice ad4 (pre.length + 1) cap4)) ∧ Kb B3 W (w4.setCell ⟨B3, 0, none⟩ (.slice ad4 (pre.length + 1) cap4)) ∧ TI n0 B3 w (pre ++ [x]) (w4.setCell ⟨B3, 0, none⟩ (.slice ad4 (pre.length + 1) cap4)) := by
  have hB3 : B3 < W.heap.size := (Array.getElem?_eq_some_iff.1 h1).1
  have hWs := h4.size
  have hsz : W.heap.size < w4.heap.size := by have := hg.size; simp only [World.size_alloc] at this; omega
  have hrow3 : some B3 ≠ (Value.slice ad pre.length cap).ownBlock := fun e => (h3 B3 e.symm).2 rfl
  have hblk : ∀ k, k < W.heap.size → some k ≠ (Value.slice ad pre.length cap).ownBlock → w4.heap[k]? = W.heap[k]? := fun k hk hn => by
    rw [hg.block k (by simp only [World.size_alloc]; omega) hn]; exact Below.heap_alloc W o k hk
  have hB3' : w4.heap[B3]? = some (.cells #[.slice ad pre.length cap] 22 (0, 0)) := (hblk B3 hB3 hrow3).trans h1
  have c3 : w4.cell? ⟨B3, 0, none⟩ = some (.slice ad pre.length cap) := by simp [World.cell?, hB3']
  have hB3s : (w4.setCell ⟨B3, 0, none⟩ (.slice ad4 (pre.length + 1) cap4)).heap[B3]? = some (.cells #[.slice ad4 (pre.length + 1) cap4] 22 (0, 0)) := by simp [World.setCell, Array.getElem?_modify, hB3']
  have hoth : ∀ k, k < W.heap.size → k ≠ B3 → some k ≠ (Value.slice ad pre.length cap).ownBlock → (w4.setCell ⟨B3, 0, none⟩ (.slice ad4 (pre.length + 1) cap4)).heap[k]? = W.heap[k]? := fun k hk h1' h2' => by
    rw [Below.heap_setCell _ _ _ _ h1']; exact hblk k hk h2'
  have hn4 : ∀ b, (Value.slice ad4 (pre.length + 1) cap4).ownBlock = some b → n0 ≤ b ∧ b ≠ B3 := fun b hb => by
    rcases hm b hb with e | e
    · exact h3 b e
    · omega
  refine ⟨⟨c3, by simp [World.frozen?, hB3'], by omega⟩, ⟨by simp; omega, fun k x' hB hk hx => ?_⟩, ⟨by simp; omega, fun _ => ⟨by simp [World.cell?, hB3s], fun k x' hk hx hn1 hn2 => ?_, fun k hk => ?_⟩⟩, ad4, cap4, by simpa using hB3s, ?_, by simpa using hn4, ?_, h5, h6⟩
  · have hkl := (Array.getElem?_eq_some_iff.1 hk).1
    rw [hoth k hkl (fun e => by subst e; rw [h1] at hk; obtain rfl := Option.some.inj hk; cases hx) (fun e => by
      obtain ⟨o', ho', hc'⟩ := sl_cells h2 e.symm
      rw [hk] at ho'; obtain rfl := Option.some.inj ho'; rw [hx] at hc'; cases hc')]
    exact hk
  · rw [hoth k (Array.getElem?_eq_some_iff.1 hk).1 hn1 (fun e => hn2 ⟨_, by simp [World.cell?, h1], e.symm⟩)]; exact hk
  · obtain ⟨u, u1, u2⟩ := hk
    have : u = .slice ad4 (pre.length + 1) cap4 := by
      simp [World.cell?, hB3s] at u1; exact u1.symm
    subst this
    rcases hm k u2 with e | e
    · exact .inl ⟨_, by simp [World.cell?, h1], e⟩
    · exact .inr e
  · have := hs.kept (w' := w4.setCell ⟨B3, 0, none⟩ (.slice ad4 (pre.length + 1) cap4)) fun b hb => Below.heap_setCell _ _ _ _ (hn4 b hb).2
    simpa using this
  · have hA : Below n0 W (W.alloc o) := (show Below W.heap.size W (W.alloc o) by go_grown).mono (by omega)
    refine ((h4.trans hA).grown hg (by simp only [World.size_alloc]; omega) (fun k e => (h3 k e).1)).setCell (p := ⟨B3, 0, none⟩) h5 _

set_option maxHeartbeats 4000000 in
set_option maxRecDepth 100000 in
theorem things_any {X H : Nat} {v : Value} {c : Int} {L : List Th} (w : World) (hO : Ob w X H v c L) (hLn : L.length ≤ 1000) :
    Calls Try.prog 25 #[P X] w fun e w' => ∃ ad cap m, e = .returned (.slice ad m cap) ∧ OwnSl w.heap.size w' (.slice ad m cap) m (tell c L) ∧ Below w.heap.size w w' := by
  refine (callsIn_wide (n := 6)).1 ?_
  have f23 : Fence.wide.fn 23 := trivial
  have HO := Lib.hid hO
  clear hO
  refine callsIn_of_wp_marks Try.func25 rfl trivial ?_ rfl
  simp only [Try.ntmps25, List.size_toArray, List.length_cons, List.length_nil, Nat.reduceAdd, Nat.reduceSub, Array.replicate_succ, Array.replicate_zero, List.push_toArray, List.append_toArray, List.nil_append, List.cons_append]
  gi_wp2_with (gi_at_call 23; refine (callsIn_wide.2 (all_any (some ⟨X, 0, none⟩) _)).mono ?_; rintro e w1 ⟨rfl, rfl⟩)
  have hB0 : Below w.heap.size w ((w.alloc (.cells #[.slice none 0 0] 22)).alloc (.cells #[P X] 26)) := by go_grown
  have g3 : ((w.alloc (.cells #[.slice none 0 0] 22)).alloc (.cells #[P X] 26)).cell? ⟨w.heap.size, 0, none⟩ = some (.slice none 0 0) := by simp [go_sem]
  have g4 : ((w.alloc (.cells #[.slice none 0 0] 22)).alloc (.cells #[P X] 26)).cell? ⟨w.heap.size + 1, 0, none⟩ = some (P X) := by simp [go_sem]
  have g5 : ((w.alloc (.cells #[.slice none 0 0] 22)).alloc (.cells #[P X] 26)).heap[w.heap.size]? = some (.cells #[.slice none 0 0] 22 (0, 0)) := alloc1_heap w _ _
  have hsz : ((w.alloc (.cells #[.slice none 0 0] 22)).alloc (.cells #[P X] 26)).heap.size = w.heap.size + 2 := by simp
  have hOb := HO.out.below hB0
  obtain ⟨W0, hW0⟩ : ∃ W0, (w.alloc (.cells #[.slice none 0 0] 22)).alloc (.cells #[P X] 26) = W0 := ⟨_, rfl⟩
  rw [hW0] at hB0 g3 g4 g5 hsz hOb ⊢
  clear hW0
  refine wpIn_rangeFunc_ownH rfl (by omega) (gf := 35) (lb := #[P (w.heap.size + 1)]) rfl trivial (enters_of Try.func35 (by kernel_rfl) rfl)
    (all_stops 5 (by omega) (w.heap.size + 1) X H w.heap.size v c L W0 g4 hOb hLn (by rw [g3]; rfl) (fun k ⟨u, u1, u2⟩ => by rw [g3] at u1; obtain rfl := Option.some.inj u1; cases u2)) (fun h k => kb_t h k) (fun W l o o' hl h ho hw => kb_b W l o o' hl h ho hw) (Below.refl _ _) (fun _ => rfl)
    (TI w.heap.size w.heap.size w) (fun _ _ _ => False) (ti_own _ _ _ _ (by omega)) (fun _ _ _ _ _ hs _ _ => hs)
    ⟨none, 0, g5, Sl.nil _ _ _, (fun b hb => by cases hb), hB0, Nat.le_refl _, Nat.le_refl _⟩
    (fun x a' W => ∃ Bv, W.heap[Bv]? = some (.cells #[.int .u64 x.1, .int .u64 x.2] 51 (0, 0)) ∧ a' = { tmps := #[P X, undef, .slice none 0 0, P w.heap.size, P Bv, P X, .func (.func 35) #[] #[P (w.heap.size + 1)], thV x, undef, undef, undef, undef, undef], defers := [] })
    ?ax ?assign ?body ?done ?stop
  case ax =>
    rintro x a' s W W' row ⟨Bv, h1, h2⟩ hg hr
    refine ⟨Bv, ?_, h2⟩
    rw [hg.block Bv (Array.getElem?_eq_some_iff.1 h1).1 (fun e => by
      obtain ⟨_, o', ho', hc'⟩ := hr Bv e.symm
      rw [h1] at ho'; obtain rfl := Option.some.inj ho'; cases hc')]
    exact h1
  case assign =>
    intro l pre x W K hI hK
    unfold thV
    gi_wp2
    exact hK _ _ ((KeepsOthers.alloc _ _).from _) (kb_alloc _ _ _) (ti_alloc hI _) ⟨W.heap.size, heap_alloc_new W _, rfl⟩
  case body =>
    rintro l pre x a' W hl - ⟨ad, cap, h1, h2, h3, h4, h5, h6⟩ ⟨Bv, hBv, rfl⟩ hlt
    have RUN := Lib.hid (ti_run (n0 := w.heap.size) (B3 := w.heap.size) (w := w) h2 (by omega) x)
    have k1 : W.cell? ⟨w.heap.size, 0, none⟩ = some (.slice ad pre.length cap) := by simp [World.cell?, h1]
    have k2 : W.cell? ⟨Bv, 0, none⟩ = some (.int .u64 x.1) := by simp [World.cell?, hBv]
    have k3 : W.cell? ⟨Bv, 1, none⟩ = some (.int .u64 x.2) := by simp [World.cell?, hBv]
    have k4 : w.heap.size < W.heap.size := World.block_lt_of_cell? _ _ k1
    have k5 : Bv < W.heap.size := World.block_lt_of_cell? _ _ k2
    have ST := Lib.hid (fun ad4 cap4 w4 => ti_step (B := W0.heap.size) (ad4 := ad4) (cap4 := cap4) (w4 := w4) (x := x) (o := .cells #[.int .u64 x.1, .int .u64 x.2] 51) h1 h2 h3 h4 h5 h6)
    clear h1 h2 h3 h4 hBv
    unfold thV
    gi_wp2_with (first
      | (gi_at_builtin
         refine wpListIn_app rfl (.tmp 8) (.tmp 10) 22 22 rfl rfl rfl (RUN.out _) ?_
         rintro ad4 cap4 w4 ⟨s4, g4, m4⟩
         obtain ⟨⟨z1, z2, z3⟩, z4⟩ := ST.out ad4 cap4 w4 s4 g4 m4
         have Z4 := Lib.hid z4
         clear s4 g4 m4 z4))
    exact Z4.out
  case done =>
    rintro D ys W hD rfl ⟨ad, cap, h1, h2, h3, h4, h5, h6⟩ hK
    have k1 : W.cell? ⟨w.heap.size, 0, none⟩ = some (.slice ad (tell c L).length cap) := by simp [World.cell?, h1]
    gi_wp2
    refine ⟨by simp, .inl ⟨_, _, rfl, run_takeDeferred hK, ?_⟩⟩
    refine ⟨_, results_tmp rfl _ _ _, ad, cap, _, rfl, ⟨rfl, ?_, fun b hb => (h3 b hb).1⟩, h4.grown (grownBy_putObj' W D _) (by have := h4.size; omega) (fun k e => by cases e; omega)⟩
    refine h2.kept fun b hb => ?_
    obtain ⟨o, ho, hc⟩ := sl_cells h2 hb
    exact (grownBy_putObj' W D _).block b (Array.getElem?_eq_some_iff.1 ho).1 (fun e => by cases e; rw [hK] at ho; obtain rfl := Option.some.inj ho; cases hc)
  case stop =>
    rintro D c' pre W _ _ h _
    exact h.elim
end Go.Proofs.Ytphfcfnbefikiaa
