/- slices.Insert of one thing. -/
import Derived.Test.YtphfcfnbefikiaaA6
import Derived.Lib.Overlaps
import Derived.Lib.AppendZerosOnto
import Derived.Laws.Externs
namespace Go.Proofs.Ytphfcfnbefikiaa
open Go.RowKit
set_option linter.unusedVariables false
set_option linter.unusedSimpArgs false

/-- Block b holds these cells of things. -/
def Blk (w : World) (b : Nat) (cur : Array Value) : Prop := w.heap[b]? = some (.cells cur 51 (0, 0))

/-- What a run of stores at o leaves in a block. -/
def Over (cur : Array Value) (o : Nat) (cs : List Value) (cur' : Array Value) : Prop := cur'.size = cur.size ∧ ∀ j, cur'[j]? = if o ≤ j ∧ j < o + cs.length then cs[j - o]? else cur[j]?

theorem blk_stores {w : World} {b : Nat} {cur : Array Value} (h : Blk w b cur) (o : Nat) (cs : List Value) (ho : o + cs.length ≤ cur.size) (h1 : ∀ u ∈ cs, u.oneCell' = true) :
    (storeCells ⟨b, o, none⟩ cs 0).run Try.prog w = .ok () (w.setCells b o cs) ∧ w.grownBy (w.setCells b o cs) (some b) ∧ ∃ cur', Blk (w.setCells b o cs) b cur' ∧ Over cur o cs cur' := by
  refine ⟨?_, grown_setCells b cs o w, ?_⟩
  · have := run_storeCells_cells (P := Try.prog) b o cs 0 w (fun j hj => by
      unfold Blk at h
      simp only [World.cell?, h, Nat.add_zero]
      show (cur[o + j]?).isSome = true
      rw [Array.getElem?_eq_getElem (by omega)]; rfl) (fun j hj => by unfold Blk at h; simp [World.frozen?, h]) h1
    simpa using this
  · obtain ⟨cur', h2, h3, h4⟩ := heap_setCells b cs o w cur h
    refine ⟨cur', h2, h3, fun j => ?_⟩
    rw [h4 j]
    by_cases hj : o ≤ j ∧ j < o + cs.length
    · rw [if_pos hj, if_pos (by omega)]
    · rw [if_neg hj, if_neg (by omega)]

theorem size51 : (Try.prog.info? 51).map (·.size) = some 2 := by kernel_rfl

/-- copy, onto a place of a block. -/
theorem copy_blk {w : World} {b : Nat} {cur : Array Value} (h : Blk w b cur) (o dLen dCap : Nat) (src : Value) (sLen n : Nat) (cs : List Value) (hsl : (Builtin.lenOf src).run Try.prog w = .ok sLen w) (hn : Nat.min sLen dLen = n) (hf : (Builtin.firstCells 2 n src).run Try.prog w = .ok cs.toArray w)
    (ho : o + cs.length ≤ cur.size) (h1 : ∀ u ∈ cs, u.oneCell' = true) (ty : TypeId) :
    ∃ w', (Builtin.copy_ #[22, 22] ty #[.slice (some ⟨b, o, none⟩) dLen dCap, src]).run Try.prog w = .ok (goInt n) w' ∧ (w.grownBy w' (some b) ∧ ∃ cur', Blk w' b cur' ∧ Over cur o cs cur') := by
  obtain ⟨r1, r2, r3⟩ := blk_stores h o cs ho h1
  refine ⟨_, ?_, r2, r3⟩
  obtain ⟨i, z, hi, hz, hzc, hs, h8⟩ := info51p
  simp [Builtin.copy_, run_underlying Try.underlying22, hsl, hn, sizeOf, typeInfo, hi, hs, hf, r1]

section
variable {pr : Program} {ops : Array Oper} {rest : List Oper} {o : Oper} {a : Act} {K : Act → World → Prop} {Q : Exit → Act → World → Prop} {E : Prop} {w : World}
theorem step_copyR (hgd : o.guard = none) (s x : Operand) (t tx : TypeId) (ho : o.op = .call { callee := .builtin .copy, args := #[s, x], argTypes := #[t, tx] }) {v u : Value} (hs : a.eval s = v) (hx : a.eval x = u) {n : Nat} {R : World → Prop}
    (hr : ∃ w', (Builtin.copy_ #[t, tx] o.type #[v, u]).run pr w = .ok (goInt n) w' ∧ R w') (hK : ∀ w', R w' → K (a.put o.dst (goInt n)) w') :
    if Region.wanted o (yielded ops a.tmps) = true then Oper.wp pr o a w K Q else E := by
  have hw : Region.wanted o (yielded ops a.tmps) = true := by simp [Region.wanted, hgd]
  rw [if_pos hw]
  obtain ⟨w', h1, h2⟩ := hr
  unfold Oper.wp execOp
  simp only [ho, resolve, invoke, builtin, Sem.run_bind, Sem.run_pure, Result.andThen_ok, List.map_toArray, List.map_cons, List.map_nil, hs, hx, h1]
  exact hK _ h2
theorem wpList_copyR (hgd : o.guard = none) (s x : Operand) (t tx : TypeId) (ho : o.op = .call { callee := .builtin .copy, args := #[s, x], argTypes := #[t, tx] }) {v u : Value} (hs : a.eval s = v) (hx : a.eval x = u) {n : Nat} {R : World → Prop}
    (hr : ∃ w', (Builtin.copy_ #[t, tx] o.type #[v, u]).run pr w = .ok (goInt n) w' ∧ R w') (hK : ∀ w', R w' → wpList pr ops Q rest (a.put o.dst (goInt n)) w') : wpList pr ops Q (o :: rest) a w := by
  refine wpList_plain hgd fun K' hK' => ?_
  obtain ⟨w', h1, h2⟩ := hr
  unfold Oper.wp execOp
  simp only [ho, resolve, invoke, builtin, Sem.run_bind, Sem.run_pure, Result.andThen_ok, List.map_toArray, List.map_cons, List.map_nil, hs, hx, h1]
  exact hK' _ _ (hK _ h2)
end

def tcs (t : Th) : List Value := [.int .u64 t.1, .int .u64 t.2]
def insL (L : List Th) (lo : Nat) (t : Th) : List Th := L.take lo ++ t :: L.drop lo

/-- what an insertion hands back -/
def Ins (w : World) (v : Value) (n : Nat) (M : List Th) (e : Ending) (w' : World) : Prop :=
  ∃ ad cap, e = .returned (.slice ad (n + 1) cap) ∧ Sl w' 51 2 (.slice ad (n + 1) cap) (n + 1) (cells2 M) ∧ w.grownBy w' v.ownBlock ∧ Mv w v (.slice ad (n + 1) cap)

/-- AT THE END: an append. -/
theorem ins_end {w : World} {ad : Option Addr} {n cap B : Nat} {L : List Th} (t : Th) (h : Sl w 51 2 (.slice ad n cap) n (cells2 L)) (hL : L.length = n) (hn : n ≤ 1000) (hB : w.heap[B]? = some (.cells #[.int .u64 t.1, .int .u64 t.2] 51 (0, 0))) :
    Calls Try.prog 48 #[.slice ad n cap, i64 n, .slice (some ⟨B, 0, none⟩) 1 1] w fun e w' => Ins w (.slice ad n cap) n (insL L n t) e w' := by
  have RUN := Lib.hid (fun ty => app_thing (by rw [hL]; exact h) (by omega) B t (0, 0) hB ty hL)
  have HIL := Lib.hid (show insL L n t = L ++ [t] by unfold insL; rw [List.take_of_length_le (by omega), List.drop_of_length_le (by omega)])
  have HLL := Lib.hid (show (L ++ [t]).length = n + 1 by simp [hL])
  rcases h.2.2 with ⟨hv, rfl⟩ | ⟨b, off, cap', cur, hv, hh, h1, h2, h3, h4⟩
  · simp only [Value.slice.injEq] at hv
    obtain ⟨rfl, -, rfl⟩ := hv
    clear h hL hB
    go_enter Try.func48, Try.ntmps48
    go_wp2_with (at_builtin; refine wpList_app rfl (.tmp 23) (.tmp 24) 22 22 rfl rfl rfl (RUN.out _) ?_; rintro ad4 cap4 w4 H; have H4 := Lib.hid H; clear H)
    go_returns
    rw [HIL.out]
    obtain ⟨s4, g4, m4⟩ := H4.out
    rw [HLL.out] at s4
    exact ⟨ad4, cap4, rfl, s4, g4, m4⟩
  · simp only [Value.slice.injEq] at hv
    obtain ⟨rfl, -, rfl⟩ := hv
    have hnc : (n : Int) ≤ (cap : Int) := by omega
    clear h hL hB hh h2 h3 h4
    go_enter Try.func48, Try.ntmps48
    go_wp2_with (at_builtin; refine wpList_app rfl (.tmp 23) (.tmp 24) 22 22 rfl rfl rfl (RUN.out _) ?_; rintro ad4 cap4 w4 H; have H4 := Lib.hid H; clear H)
    all_goals
      go_returns
      rw [HIL.out]
      obtain ⟨s4, g4, m4⟩ := H4.out
      rw [HLL.out] at s4
      exact ⟨ad4, cap4, rfl, s4, g4, m4⟩

theorem overlaps_run {w : World} {b o B lb cb : Nat} {cs cur : Array Value} (hB : w.heap[B]? = some (.cells cs 51 (0, 0))) (hb : w.heap[b]? = some (.cells cur 51 (0, 0))) (hne : B ≠ b) (hc : cur.size ≠ 0) :
    (callFunc 52 #[.slice (some ⟨B, 0, none⟩) 1 1, .slice (some ⟨b, o, none⟩) lb cb]).run Try.prog w = .ok (.value (.bool false)) w := by
  rw [run_callFunc_extern Try.func52 (by kernel_rfl) (by kernel_rfl) (by kernel_rfl) (e := Extern.SlicesOverlaps.overlaps #[22, 22] #[4]) (by kernel_rfl),
    Lib.run_overlaps_apart w 22 4 51 Try.underlying22 2 Try.sizeOf51 ⟨B, 0, none⟩ ⟨b, o, none⟩ 1 1 lb cb hne 51 51 cs.size cur.size (by simp [World.shape?, hB]) (by simp [World.shape?, hb]) hc (by simp [World.frozen?, hB]) (by simp [World.frozen?, hB])]
  rfl

theorem insL_len (L : List Th) (lo : Nat) (t : Th) (h : lo ≤ L.length) : (insL L lo t).length = L.length + 1 := by unfold insL; simp; omega
theorem insL_cells (L : List Th) (lo : Nat) (t : Th) : cells2 (insL L lo t) = (cells2 L).take (lo * 2) ++ tcs t ++ (cells2 L).drop (lo * 2) := by
  unfold insL
  rw [cells2_append, cells2_take]
  show _ ++ (.int .u64 t.1 :: .int .u64 t.2 :: cells2 (L.drop lo)) = _
  rw [cells2_drop]
  simp [tcs]

theorem insL_get (L : List Th) (lo : Nat) (t : Th) (h : lo ≤ L.length) (j : Nat) : (cells2 (insL L lo t))[j]? = if j < lo * 2 then (cells2 L)[j]? else if j < lo * 2 + 2 then (tcs t)[j - lo * 2]? else (cells2 L)[j - 2]? := by
  rw [insL_cells]
  have hl : ((cells2 L).take (lo * 2)).length = lo * 2 := by rw [List.length_take, cells2_len]; omega
  have ht : (tcs t).length = 2 := rfl
  by_cases h1 : j < lo * 2
  · rw [if_pos h1, List.append_assoc, List.getElem?_append_left (by rw [hl]; exact h1), List.getElem?_take, if_pos h1]
  · rw [if_neg h1]
    by_cases h2 : j < lo * 2 + 2
    · rw [if_pos h2, List.append_assoc, List.getElem?_append_right (by rw [hl]; omega), hl, List.getElem?_append_left (by rw [ht]; omega)]
    · rw [if_neg h2, List.getElem?_append_right (by rw [List.length_append, hl, ht]; omega), List.length_append, hl, ht, List.getElem?_drop]
      congr 1; omega

/-- IN PLACE: what stands from there on is moved on by one thing; the new one is laid where it stood. -/
theorem shift_cells {cur c1 c2 : Array Value} {off n lo : Nat} {L : List Th} (t : Th) (hL : L.length = n) (hlo : lo ≤ n) (h4 : ∀ j, j < n * 2 → cur[off + j]? = (cells2 L)[j]?)
    (o1 : Over cur (off + (lo + 1) * 2) ((cells2 L).drop (lo * 2)) c1) (o2 : Over c1 (off + lo * 2) (tcs t) c2) : ∀ j, j < (n + 1) * 2 → c2[off + j]? = (cells2 (insL L lo t))[j]? := by
  intro j hj
  have hd : ((cells2 L).drop (lo * 2)).length = n * 2 - lo * 2 := by rw [List.length_drop, cells2_len, hL]
  have ht : (tcs t).length = 2 := rfl
  rw [insL_get L lo t (by omega) j, o2.2, ht, o1.2, hd]
  by_cases h1 : j < lo * 2
  · rw [if_pos h1, if_neg (by omega), if_neg (by omega)]
    exact h4 j (by omega)
  · rw [if_neg h1]
    by_cases h2 : j < lo * 2 + 2
    · rw [if_pos h2, if_pos (by omega)]
      congr 1; omega
    · rw [if_neg h2, if_neg (by omega), if_pos (by omega), List.getElem?_drop]
      congr 1; omega

theorem grown_trans {a b c : World} {r : Option Nat} (h : a.grownBy b r) (k : b.grownBy c r) : a.grownBy c r :=
  ⟨k.os.trans h.os, k.tape.trans h.tape, k.output.trans h.output, Nat.le_trans h.size k.size, fun i hi hn => (k.block i (Nat.lt_of_lt_of_le hi h.size) hn).trans (h.block i hi hn)⟩
theorem room_mid {w w4 : World} {b B o : Nat} {cur : Array Value} {cs : List Value} {x : Go.Obj} (H : w.drew.grownBy w4 (some b) ∧ ∃ cur', Blk w4 b cur' ∧ Over cur o cs cur') (hB : w.heap[B]? = some x) (hne : B ≠ b) :
    w.grownBy w4 (some b) ∧ ∃ c1, Blk w4 b c1 ∧ Over cur o cs c1 ∧ w4.heap[B]? = some x := by
  obtain ⟨g, c1, h1, h2⟩ := H
  refine ⟨⟨g.os, g.tape, g.output, g.size, g.block⟩, c1, h1, h2, ?_⟩
  exact (g.block B (Array.getElem?_eq_some_iff.1 hB).1 (by simpa using hne)).trans hB

set_option maxHeartbeats 4000000 in
set_option maxRecDepth 100000 in
theorem ins_room {w : World} {b off n cap lo B : Nat} {L : List Th} (t : Th) (h : Sl w 51 2 (.slice (some ⟨b, off, none⟩) n cap) n (cells2 L)) (hL : L.length = n) (hn : n ≤ 1000) (hlo : lo < n) (hroom : n + 1 ≤ cap) (hB : w.heap[B]? = some (.cells #[.int .u64 t.1, .int .u64 t.2] 51 (0, 0))) (hne : B ≠ b) :
    Calls Try.prog 48 #[.slice (some ⟨b, off, none⟩) n cap, i64 lo, .slice (some ⟨B, 0, none⟩) 1 1] w fun e w' => Ins w (.slice (some ⟨b, off, none⟩) n cap) n (insL L lo t) e w' := by
  rcases h.2.2 with ⟨hv, rfl⟩ | ⟨b', off', cap', cur, hv, hh, h1, h2, h3, h4⟩
  · cases hv
  simp only [Value.slice.injEq, Option.some.injEq, Addr.mk.injEq, and_true, true_and] at hv
  obtain ⟨⟨rfl, rfl⟩, rfl⟩ := hv
  have hcl : (cells2 L).length = n * 2 := by rw [cells2_len, hL]
  have hcap2 : (n + 1) * 2 ≤ cap * 2 := Nat.mul_le_mul_right _ hroom
  have hov : ∀ o lb cb, (callFunc 52 #[.slice (some ⟨B, 0, none⟩) 1 1, .slice (some ⟨b, o, none⟩) lb cb]).run Try.prog w = .ok (.value (.bool false)) w := fun o lb cb => overlaps_run hB hh hne (by omega)
  -- the first copy
  have CP1 : ∀ W : World, W.heap = w.heap → ∀ ty dc sc, ∃ w', (Builtin.copy_ #[22, 22] ty #[.slice (some ⟨b, off + (lo + 1) * 2, none⟩) (n - lo) dc, .slice (some ⟨b, off + lo * 2, none⟩) (n + 1 - lo) sc]).run Try.prog W = .ok (goInt ((n - lo : Nat) : Int)) w' ∧
      (W.grownBy w' (some b) ∧ ∃ cur', Blk w' b cur' ∧ Over cur (off + (lo + 1) * 2) ((cells2 L).drop (lo * 2)) cur') := fun W hW ty dc sc => by
    refine copy_blk (show Blk W b cur by unfold Blk; rw [hW]; exact hh) (off + (lo + 1) * 2) (n - lo) dc (.slice (some ⟨b, off + lo * 2, none⟩) (n + 1 - lo) sc) (n + 1 - lo) (n - lo) ((cells2 L).drop (lo * 2)) (by simp [Builtin.lenOf]) (by show min (n + 1 - lo) (n - lo) = n - lo; omega) ?_ (by rw [List.length_drop, hcl]; omega) (fun u hu => cells2_one L u (List.mem_of_mem_drop hu)) ty
    refine run_firstCells_some W 2 (n - lo) ⟨b, off + lo * 2, none⟩ (n + 1 - lo) sc _ (by rw [List.length_drop, hcl]; omega) (fun j u hj => ?_)
    rw [List.getElem?_drop] at hj
    have hjl := (List.getElem?_eq_some_iff.1 hj).1
    rw [Addr.add_lit]
    simp only [World.cell?, hW, hh]
    show cur[off + lo * 2 + j]? = some u
    rw [Nat.add_assoc, h4 _ (by omega)]; exact hj
  -- the second
  have CP2 : ∀ (W : World) (c1 : Array Value), Blk W b c1 → c1.size = cur.size → W.heap[B]? = some (.cells #[.int .u64 t.1, .int .u64 t.2] 51 (0, 0)) → ∀ ty dl dc, 1 ≤ dl → ∃ w', (Builtin.copy_ #[22, 22] ty #[.slice (some ⟨b, off + lo * 2, none⟩) dl dc, .slice (some ⟨B, 0, none⟩) 1 1]).run Try.prog W = .ok (goInt 1) w' ∧
      (W.grownBy w' (some b) ∧ ∃ cur', Blk w' b cur' ∧ Over c1 (off + lo * 2) (tcs t) cur') := fun W c1 hc1 hsz hBW ty dl dc hdl => by
    refine copy_blk hc1 (off + lo * 2) dl dc (.slice (some ⟨B, 0, none⟩) 1 1) 1 1 (tcs t) (by simp [Builtin.lenOf]) (by show min 1 dl = 1; omega) ?_ (by rw [hsz]; show _ + 2 ≤ _; omega) (by simp [tcs, Value.oneCell']) ty
    exact run_firstCells_some W 2 1 ⟨B, 0, none⟩ 1 1 (tcs t) rfl (World.news_of_block hBW)
  have HOV := Lib.hid hov
  have HC1 := Lib.hid CP1
  have HC2 := Lib.hid CP2
  have HB := Lib.hid hB
  have HNE := Lib.hid hne
  have HH := Lib.hid hh
  have H4 := Lib.hid h4
  have HL := Lib.hid hL
  have H3 := Lib.hid h3
  have H1 := Lib.hid h.2.1
  have H2 := Lib.hid h2
  have q1 : ((lo : Int) == (n : Int)) = false := by simp; omega
  have q2 : ((n : Int) + 1 > (cap : Int)) = False := by simp; omega
  have q3 : (lo : Int) ≤ (n : Int) := by omega
  have q4 : ¬ (cap = lo) := by omega
  have q5 : ¬ (cap = lo + 1) := by omega
  have q6 : (lo : Int) + 1 ≤ (n : Int) + 1 := by omega
  have q7 : (n : Int) + 1 ≤ (cap : Int) := by omega
  have q8 : (lo : Int) ≤ (n : Int) + 1 := by omega
  have q9 : IntKind.i64.wrap ((lo : Int) + 1) = (lo : Int) + 1 := by rw [IntKind.wrap_i64]; omega
  have q10 : (0 : Int) ≤ (lo : Int) + 1 := by omega
  have q11 : ((lo : Int) + 1).toNat = lo + 1 := by omega
  clear hov CP1 CP2 hB hh h4 hL h3 h hne hcl hcap2 h2
  go_enter Try.func48, Try.ntmps48
  go_wp2_with (simp only [HOV.out])
  go_region_law (first
    | ((with_reducible show (if Region.wanted (Oper.mk _ (Op.call { callee := Callee.builtin Builtin.copy, args := _, argTypes := _ }) _ _ _ _) _ = true then _ else _))
       refine step_copyR rfl (.tmp 73) (.tmp 76) 22 22 rfl (v := .slice (some ⟨b, off + (lo + 1) * 2, none⟩) (n - lo) (cap - (lo + 1))) (u := .slice (some ⟨b, off + lo * 2, none⟩) (n + 1 - lo) (cap - lo)) (by simp [Act.eval, Act.put]) (by simp [Act.eval, Act.put]) (HC1.out _ (by rfl) _ _ _) ?_
       rintro w4 H
       have H5 := Lib.hid (room_mid H HB.out HNE.out)
       clear H))
  all_goals
    have RUN2 := Lib.hid (show ∀ ty, ∃ w6, (Builtin.copy_ #[22, 22] ty #[.slice (some ⟨b, off + lo * 2, none⟩) (n + 1 - lo) (cap - lo), .slice (some ⟨B, 0, none⟩) 1 1]).run Try.prog w4 = .ok (goInt 1) w6 ∧ (w.grownBy w6 (some b) ∧ ∃ c1 c2, Over cur (off + (lo + 1) * 2) ((cells2 L).drop (lo * 2)) c1 ∧ Blk w6 b c2 ∧ Over c1 (off + lo * 2) (tcs t) c2) from fun ty => by
      obtain ⟨g5, c1, k1, k2, k3⟩ := H5.out
      obtain ⟨w6, r6, g6, c2, k4, k5⟩ := HC2.out w4 c1 k1 k2.1 k3 ty (n + 1 - lo) (cap - lo) (by omega)
      exact ⟨w6, r6, grown_trans g5 g6, c1, c2, k2, k4, k5⟩)
    go_wp2_with ((with_reducible show wpList _ _ _ (Oper.mk _ (Op.call { callee := Callee.builtin Builtin.copy, args := _, argTypes := _ }) _ _ _ _ :: _) _ _); refine wpList_copyR rfl (.tmp 80) (.tmp 81) 22 22 rfl rfl rfl (RUN2.out _) ?_; rintro w6 H; have H6 := Lib.hid H; clear H)
    go_returns
    obtain ⟨g6, c1, c2, k2, k4, k5⟩ := H6.out
    refine ⟨some ⟨b, off, none⟩, cap, rfl, ⟨by rw [cells2_len, insL_len L lo t (by rw [HL.out]; omega), HL.out], cells2_one _, .inr ⟨b, off, cap, c2, rfl, k4, hroom, H2.out, by rw [k5.1, k2.1]; exact H3.out, ?_⟩⟩, g6, fun k hk => .inl hk⟩
    exact shift_cells t HL.out (by omega) H4.out k2 k5
end Go.Proofs.Ytphfcfnbefikiaa
