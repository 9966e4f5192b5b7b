/- The document's out and Do. -/
import Derived.Test.YtphfcfnbefikiaaR1
namespace Go.Proofs.Ytphfcfnbefikiaa
open Go.RowKit
set_option linter.unusedVariables false
set_option linter.unusedSimpArgs false

theorem Sl.set {w : World} {e : TypeId} {k n cap b off j : Nat} {xs : List Value} (h : Sl w e k (.slice (some ⟨b, off, none⟩) n cap) n xs) (val : Value) (h1 : val.oneCell' = true) (hj : j < n * k) :
    Sl (w.setCell ⟨b, off + j, none⟩ val) e k (.slice (some ⟨b, off, none⟩) n cap) n (xs.set j val) := by
  refine ⟨by rw [List.length_set, h.1], fun u hu => ?_, ?_⟩
  · rcases List.mem_or_eq_of_mem_set hu with h' | h'
    · exact h.2.1 u h'
    · rw [h']; exact h1
  · rcases h.2.2 with ⟨hv, _⟩ | ⟨b', off', cap', cur, hv, hh, a1, a2, a3, a4⟩
    · cases hv
    · simp only [Value.slice.injEq, Option.some.injEq, Addr.mk.injEq, and_true, true_and] at hv
      obtain ⟨⟨rfl, rfl⟩, rfl⟩ := hv
      refine .inr ⟨b, off, cap, cur.setIfInBounds (off + j) val, rfl, ?_, a1, a2, by rw [Array.size_setIfInBounds]; exact a3, fun i hi => ?_⟩
      · simp [World.setCell, Array.getElem?_modify, hh]
      · have hsz : n * k ≤ cap * k := Nat.mul_le_mul_right _ a1
        by_cases hij : i = j
        · subst hij
          rw [Array.getElem?_setIfInBounds_self_of_lt (by omega), List.getElem?_set_self (by rw [h.1]; exact hj)]
        · rw [Array.getElem?_setIfInBounds_ne (by omega), List.getElem?_set_ne (by omega)]
          exact a4 i hi

/-- What an operation on the document's object comes to. -/
def Rid (w : World) (Y : Nat) (u : Value) (c : Int) (Q : List Pu) (w' : World) : Prop :=
  ∃ u', Re w' Y u' c Q ∧ Ch (some Y) u.ownBlock w w' ∧ Mv w u u'

theorem rid_not {w w3 : World} {Y : Nat} {u : Value} {c : Int} {Q : List Pu} (h : Re w Y u c Q) (hb : Below w.heap.size w w3) : Rid w Y u c Q w3 := ⟨u, h.below hb, Ch.of_below hb, fun k hk => .inl hk⟩

theorem rid_gone {w w3 : World} {Y b off n cap i : Nat} {c : Int} {Q : List Pu} {p : Pu} (h : Re w Y (.slice (some ⟨b, off, none⟩) n cap) c Q) (hQ : Q.length = n) (hp : Q[i]? = some p)
    (h3 : Below w.heap.size (w.setCell ⟨b, off + i * 3 + 2, none⟩ (.bool true)) w3) : Rid w Y (.slice (some ⟨b, off, none⟩) n cap) c (Q.set i (p.1, true)) w3 := by
  have hi := (List.getElem?_eq_some_iff.1 hp).1
  have hY := h.ltY
  have hYb : Y ≠ b := fun e => h.ny (by simp [Value.ownBlock, e])
  have hsl := h.sl
  rw [hQ] at hsl
  have x1 : (w.setCell ⟨b, off + i * 3 + 2, none⟩ (.bool true)).heap[Y]? = w.heap[Y]? := Below.heap_setCell _ _ _ _ hYb
  have hre : Re (w.setCell ⟨b, off + i * 3 + 2, none⟩ (.bool true)) Y (.slice (some ⟨b, off, none⟩) n cap) c (Q.set i (p.1, true)) := by
    refine ⟨(World.cell?_of_block (w := w) (a := ⟨Y, 0, none⟩) x1).trans h.c0, (World.cell?_of_block (w := w) (a := ⟨Y, 1, none⟩) x1).trans h.hv, (World.frozen?_of_block (w := w) (a := ⟨Y, 1, none⟩) x1).trans h.fz, ?_, h.ny⟩
    rw [List.length_set, hQ, cells3_set hp, Nat.add_assoc off]
    exact hsl.set _ rfl (by omega)
  refine ⟨_, hre.below (by rw [World.size_setCell]; exact h3), ?_, fun k hk => .inl hk⟩
  refine ⟨h3.os, h3.tape, h3.output, by simpa using h3.size, fun k hk _ n2 => ?_⟩
  rw [h3.block k hk, Below.heap_setCell _ _ _ _ (fun e => n2 (by simp [Value.ownBlock, e]))]

set_option maxHeartbeats 4000000 in
theorem rout_neg {Y : Nat} {u : Value} {c : Int} {Q : List Pu} (i : Int) (hi : i < 0) (w : World) (h : Re w Y u c Q) :
    Calls Try.prog 37 #[P Y, i64 i] w fun e w' => e = .returned (ansV (outR i Q).1) ∧ Rid w Y u c (outR i Q).2 w' := by
  have HO := Lib.hid h
  have HR := Lib.hid (show outR i Q = (no, Q) by unfold outR; rw [if_pos hi])
  clear h
  go_enter Try.func37, Try.ntmps37
  go_wp2
  go_returns
  rw [HR.out]
  exact ⟨rfl, rid_not HO.out (by go_grown)⟩

set_option maxHeartbeats 4000000 in
theorem rout_at {Y i : Nat} {u : Value} {c : Int} {Q : List Pu} {p : Pu} (hp : Q[i]? = some p) (hn : Q.length ≤ 1000) (w : World) (h : Re w Y u c Q) :
    Calls Try.prog 37 #[P Y, i64 i] w fun e w' => e = .returned (ansV (outR i Q).1) ∧ Rid w Y u c (outR i Q).2 w' := by
  have HR := Lib.hid (show outR i Q = (yesA p.1.2, Q.set i (p.1, true)) by unfold outR; rw [if_neg (by omega), Int.toNat_natCast, hp])
  obtain ⟨ad, cap, rfl, _⟩ := h.sl.form
  obtain ⟨n, hQ⟩ : ∃ n, Q.length = n := ⟨_, rfl⟩
  have hi := (List.getElem?_eq_some_iff.1 hp).1
  rw [hQ] at h hn hi
  have hv := h.hv
  have hY := h.ltY
  have hsl := h.sl
  rw [hQ] at hsl
  obtain ⟨b, off, rfl, hbl, x1, x2, x3, x4⟩ := put_cells hsl hQ hp
  have hYb : Y ≠ b := fun e => h.ny (by simp [Value.ownBlock, e])
  have HO := Lib.hid h
  have HQ := Lib.hid hQ
  have HP := Lib.hid hp
  have hlt : (i : Int) < (n : Int) := by omega
  clear h hQ hp hsl
  go_enter Try.func37, Try.ntmps37
  go_wp2
  go_returns
  rw [HR.out, HQ.out]
  exact ⟨rfl, rid_gone HO.out HQ.out HP.out (by go_grown)⟩

theorem rout_any {Y : Nat} {u : Value} {c : Int} {Q : List Pu} (i : Int) (hi : i < 0 ∨ ∃ (j : Nat) (p : Pu), i = j ∧ Q[j]? = some p) (hn : Q.length ≤ 1000) (w : World) (h : Re w Y u c Q) :
    Calls Try.prog 37 #[P Y, i64 i] w fun e w' => e = .returned (ansV (outR i Q).1) ∧ Rid w Y u c (outR i Q).2 w' := by
  rcases hi with hi | ⟨j, p, rfl, hp⟩
  · exact rout_neg i hi w h
  · exact rout_at hp hn w h

/-- .. lifted over what lay between, and over the answer's block -/
theorem rid_lift {w W w4 : World} {Y : Nat} {u : Value} {c : Int} {Q Q' : List Pu} (h : Re w Y u c Q) (hb : Below w.heap.size w W) (bx : W.heap[w.heap.size]? = some box40) (hd : Rid W Y u c Q' w4) :
    w4.heap[w.heap.size]? = some box40 ∧ ∀ w3, Ch (some w.heap.size) none w4 w3 → Rid w Y u c Q' w3 := by
  obtain ⟨v', h1, h2, h3⟩ := hd
  have hlt := (Array.getElem?_eq_some_iff.1 bx).1
  have hY := h.ltY
  refine ⟨(h2.block _ hlt (by simp only [ne_eq, Option.some.injEq]; omega) (fun e => by have := h.sl.lt e.symm; omega)).trans bx, fun w3 hc => ?_⟩
  have hvb : ∀ b, v'.ownBlock = some b → b ≠ w.heap.size := fun b hb' e => by
    subst e
    rcases h3 _ hb' with e' | e'
    · have := h.sl.lt e'; omega
    · omega
  refine ⟨v', h1.ch hc (by simp only [ne_eq, Option.some.injEq]; omega) (by simp) (fun b hb' e => hvb b hb' (by simpa using e.symm)) (fun b _ => by simp), ?_, fun k hk => ?_⟩
  · have hsz := hb.size
    have hsz2 := h2.size
    refine ⟨hc.os.trans (h2.os.trans hb.os), hc.tape.trans (h2.tape.trans hb.tape), hc.output.trans (h2.output.trans hb.output), Nat.le_trans hsz (Nat.le_trans hsz2 hc.size), fun k hk n1 n2 => ?_⟩
    rw [hc.block k (by omega) (by simp only [ne_eq, Option.some.injEq]; omega) (by simp), h2.block k (by omega) n1 n2]
    exact hb.block k hk
  · rcases h3 k hk with e | e
    · exact .inl e
    · right; have := hb.size; omega

theorem info77 : (Try.prog.info? 77).map (fun i => (i.zero.map (·.cells.size), i.size, i.bytes)) = some (some 3, 3, 24) := by kernel_rfl
theorem info77p : ∃ i z, Try.prog.info? 77 = some i ∧ i.zero = some z ∧ z.cells.size = 3 ∧ i.size = 3 ∧ i.bytes = 24 := by
  have := info77
  cases hh : Try.prog.info? 77 with
  | none => rw [hh] at this; cases this
  | some i => rw [hh] at this; simp at this; obtain ⟨⟨z, hz, h0⟩, h1, h2⟩ := this; exact ⟨i, z, rfl, hz, h0, h1, h2⟩

/-- What an append to the puts leaves. -/
structure RApp (w w4 : World) (Y : Nat) (u u4 : Value) : Prop where
  ch : Ch none u.ownBlock w w4
  hv : w4.cell? ⟨Y, 1, none⟩ = some u
  fz : w4.frozen? ⟨Y, 1, none⟩ = false
  bx : w4.heap[w.heap.size]? = some box40
  sz : w.heap.size < w4.heap.size
  mv : Mv w u u4
  nb : u4.ownBlock ≠ some w.heap.size

theorem radd_run {w : World} {Y n cap : Nat} {ad : Option Addr} {c : Int} {Q : List Pu} (h : Re w Y (.slice ad n cap) c Q) (hQ : Q.length = n) (hn : n ≤ 1000) (t : Th) (W : World) (hb : Below w.heap.size w W) (hx : W.heap[w.heap.size]? = some box40)
    (B : Nat) (hr : W.heap[B]? = some (.cells #[.int .u64 t.1, .int .u64 t.2, .bool false] 77 (0, 0))) (ty : TypeId) :
    ∃ ad4 cap4 w4, (Builtin.append_ #[73, 73] ty #[.slice ad n cap, .slice (some ⟨B, 0, none⟩) 1 1]).run Try.prog W = .ok (.slice ad4 (n + 1) cap4) w4 ∧
      (Sl w4 77 3 (.slice ad4 (n + 1) cap4) (Q ++ [(t, false)]).length (cells3 (Q ++ [(t, false)])) ∧ RApp w w4 Y (.slice ad n cap) (.slice ad4 (n + 1) cap4)) := by
  obtain ⟨i, z, hi, hz, hzc, hs, h8⟩ := info77p
  obtain ⟨v', w', h1, h2, h3, h4⟩ := (h.sl.below hb).append (P := Try.prog) 73 73 ty i z 24 Try.underlying73 hi hz hs h8 hzc (.slice (some ⟨B, 0, none⟩) 1 1) 1 [.int .u64 t.1, .int .u64 t.2, .bool false]
    (Src.ofSlice W Try.underlying73 ⟨B, 0, none⟩ 1 1 _ rfl (World.news_of_block hr) (by simp [Value.oneCell'])) (by unfold maxLen; omega) (by omega)
  obtain ⟨ad4, cap4, rfl, _⟩ := h2.form
  rw [hQ] at h1 h2 h4
  have hch : Ch none (Value.slice ad n cap).ownBlock w w' := (Ch.of_below hb).trans (Ch.of_grown h3) (fun k hk => .inl hk)
  have hY := h.ltY
  have hW : w.heap.size < W.heap.size := (Array.getElem?_eq_some_iff.1 hx).1
  refine ⟨ad4, cap4, w', h1, by rw [List.length_append, hQ, cells3_append]; exact h2, hch, (hch.cell (p := ⟨Y, 1, none⟩) hY (by simp) (Ne.symm h.ny)).trans h.hv, (hch.frozen (p := ⟨Y, 1, none⟩) hY (by simp) (Ne.symm h.ny)).trans h.fz, ?_, Nat.lt_of_lt_of_le hW h3.size, fun k hk => ?_, fun e => ?_⟩
  · rw [h3.block _ hW (fun e => by have := h.sl.lt e.symm; omega)]; exact hx
  · rcases h4 k hk with e | e
    · exact .inl e
    · right; omega
  · rcases h4 _ e with e' | e'
    · have := h.sl.lt e'; omega
    · omega

theorem rid_add {w w4 w3 : World} {Y : Nat} {u u4 : Value} {c : Int} {Q Q' : List Pu} (h : Re w Y u c Q) (hs : Sl w4 77 3 u4 Q'.length (cells3 Q')) (hr : RApp w w4 Y u u4) (h3 : Ch (some w.heap.size) none (w4.setCell ⟨Y, 1, none⟩ u4) w3) : Rid w Y u c Q' w3 := by
  have hY := h.ltY
  have hsz := hr.ch.size
  have ny : u4.ownBlock ≠ some Y := fun e => by
    rcases hr.mv Y e with e' | e'
    · exact h.ny e'
    · omega
  have e0 : w4.cell? ⟨Y, 0, none⟩ = some (.int .i64 c) := (hr.ch.cell (p := ⟨Y, 0, none⟩) hY (by simp) (Ne.symm h.ny)).trans h.c0
  have ho : Re (w4.setCell ⟨Y, 1, none⟩ u4) Y u4 c Q' :=
    ⟨(cset_other (by simp)).trans e0, cset_same hr.hv, by rw [World.frozen?_setCell]; exact hr.fz, hs.kept fun b hb' => Below.heap_setCell _ _ _ _ (fun e => ny (by rw [hb', e])), ny⟩
  refine ⟨u4, ho.ch h3 (by simp only [ne_eq, Option.some.injEq]; omega) (by simp) (fun b hb' e => hr.nb (by rw [hb', ← e])) (fun b _ => by simp), ?_, hr.mv⟩
  refine ⟨h3.os.trans hr.ch.os, h3.tape.trans hr.ch.tape, h3.output.trans hr.ch.output, Nat.le_trans (by simpa using hr.ch.size) h3.size, fun k hk h1 h2 => ?_⟩
  rw [h3.block k (by simp only [World.size_setCell]; omega) (by simp only [ne_eq, Option.some.injEq]; omega) (by simp), Below.heap_setCell _ _ _ _ (fun e => h1 (by rw [e]))]
  exact hr.ch.block k hk (by simp) h2
/-- the answer's cells, written behind the document's object's -/
theorem rbox_set {w : World} {B Y : Nat} {v : Value} (h : w.heap[B]? = some box40) (hne : Y ≠ B) :
    (∀ p, ((w.setCell ⟨Y, 1, none⟩ v).setCell ⟨B, 0, none⟩ p).cell? ⟨B, 0, none⟩ = some p) ∧
    (∀ p q, (((w.setCell ⟨Y, 1, none⟩ v).setCell ⟨B, 0, none⟩ p).setCell ⟨B, 1, none⟩ q).cell? ⟨B, 1, none⟩ = some q) ∧
    (∀ p q r, ((((w.setCell ⟨Y, 1, none⟩ v).setCell ⟨B, 0, none⟩ p).setCell ⟨B, 1, none⟩ q).setCell ⟨B, 2, none⟩ r).cell? ⟨B, 2, none⟩ = some r) := by
  obtain ⟨b1, b2, b3, b4⟩ := box_cell h
  have ne : ∀ j, (⟨Y, 1, none⟩ : Addr) ≠ ⟨B, j, none⟩ := fun j e => hne (congrArg Addr.block e)
  exact ⟨fun p => cset_same ((cset_other (ne 0)).trans b1), fun p q => cset_same ((cset_other (by simp)).trans ((cset_other (ne 1)).trans b2)), fun p q r => cset_same ((cset_other (by simp)).trans ((cset_other (by simp)).trans ((cset_other (ne 2)).trans b3)))⟩

theorem spec_2 (k : Int) (Q : List Pu) : lastR Q Q.length < 0 ∨ ∃ (j : Nat) (p : Pu), lastR Q Q.length = j ∧ Q[j]? = some p := by
  rcases lastR_spec Q Q.length (Nat.le_refl _) with ⟨h, _⟩ | ⟨i, t, h1, _, h2, _⟩
  · left; omega
  · right; exact ⟨i, _, h1, h2⟩
theorem spec_4 (k : Int) (Q : List Pu) : firstR Q 0 < 0 ∨ ∃ (j : Nat) (p : Pu), firstR Q 0 = j ∧ Q[j]? = some p := by
  rcases firstR_spec Q 0 with ⟨h, _⟩ | ⟨i, t, h1, h2, _⟩
  · left; omega
  · right; exact ⟨i, _, by rw [h1, Nat.zero_add], h2⟩
theorem spec_6 (k : Int) (Q : List Pu) : findR k Q 0 < 0 ∨ ∃ (j : Nat) (p : Pu), findR k Q 0 = j ∧ Q[j]? = some p := by
  rcases findR_spec k Q 0 with ⟨h, _⟩ | ⟨i, t, h1, h2, _⟩
  · left; omega
  · right; exact ⟨i, _, by rw [h1, Nat.zero_add], h2⟩

set_option maxHeartbeats 4000000 in
theorem rdo_bad {Y : Nat} {u : Value} {c : Int} {Q : List Pu} (o k x : Int) (w : World) (h : Re w Y u c Q) (hm : mayB c o = false) :
    Calls Try.prog 26 #[P Y, i64 o, u64 k, u64 x] w fun e w' => e = .returned (ansV bad) ∧ Rid w Y u c Q w' := by
  have HO := Lib.hid h
  have hY := h.ltY
  have c0 := h.c0
  have hb0 : Below w.heap.size w (w.alloc (.cells #[.int .i64 0, .bool false, .int .u64 0] 40)) := by go_grown
  have HB0 := Lib.hid hb0
  have HRE := Lib.hid (h.below hb0)
  have MAY := Lib.hid (fun W => rmay_any c o W)
  have HM := Lib.hid hm
  clear hb0 hm
  clear h
  go_enter Try.func26, Try.ntmps26
  go_wp2_with fail
  refine (MAY.out _).mono ?_
  rintro e w1 ⟨rfl, rfl⟩
  rw [HM.out]
  go_wp2
  go_returns
  exact ⟨rfl, rid_not HO.out (by go_grown)⟩

set_option maxHeartbeats 4000000 in
theorem rdo_2 {Y : Nat} {u : Value} {c : Int} {Q : List Pu} (k x : Int) (w : World) (h : Re w Y u c Q) (hn : Q.length ≤ 1000) (hm : mayB c 2 = true) :
    Calls Try.prog 26 #[P Y, i64 2, u64 k, u64 x] w fun e w' => e = .returned (ansV (outR (lastR Q Q.length) Q).1) ∧ Rid w Y u c (outR (lastR Q Q.length) Q).2 w' := by
  have HO := Lib.hid h
  have hY := h.ltY
  have c0 := h.c0
  have hb0 : Below w.heap.size w (w.alloc (.cells #[.int .i64 0, .bool false, .int .u64 0] 40)) := by go_grown
  have HB0 := Lib.hid hb0
  have HRE := Lib.hid (h.below hb0)
  have MAY := Lib.hid (fun W => rmay_any c 2 W)
  have HM := Lib.hid hm
  clear hb0 hm
  have FIND := Lib.hid (rlast_any _ HRE.out hn)
  have hio : (lastR Q Q.length) < 0 ∨ ∃ (j : Nat) (p : Pu), (lastR Q Q.length) = j ∧ Q[j]? = some p := spec_2 k Q
  have OUT := Lib.hid (rout_any _ hio hn _ HRE.out)
  obtain ⟨⟨⟨a1, a2, a3⟩, Q'⟩, hr⟩ : ∃ r, outR (lastR Q Q.length) Q = r := ⟨_, rfl⟩
  rw [hr] at OUT ⊢
  clear h hio hr
  go_enter Try.func26, Try.ntmps26
  go_wp2_with fail
  refine (MAY.out _).mono ?_
  rintro e w1 ⟨rfl, rfl⟩
  rw [HM.out]
  go_wp2_with fail
  refine FIND.out.mono ?_
  rintro e w1 ⟨rfl, rfl⟩
  go_wp2_with fail
  refine OUT.out.mono ?_
  rintro e w4 ⟨rfl, hd⟩
  obtain ⟨bx4, hfin⟩ := rid_lift HO.out HB0.out (by exact heap_alloc_new w _) hd
  have BX4 := Lib.hid bx4
  have FIN := Lib.hid hfin
  obtain ⟨e1, e2, e3, e4⟩ := box_cell bx4
  have hsz : w.heap.size < w4.heap.size := (Array.getElem?_eq_some_iff.1 bx4).1
  clear hd bx4 hfin c0
  unfold ansV
  go_wp2
  obtain ⟨f0, f1, f2⟩ := box_set0 BX4.out
  refine bodyPost_ret (v := ansV (a1, a2, a3)) (by simp [results, Try.results26, go_sem, f0, f1, f2, ansV]) rfl ?_
  exact ⟨rfl, FIN.out _ (box3 _ _ _ _ _)⟩

set_option maxHeartbeats 4000000 in
theorem rdo_4 {Y : Nat} {u : Value} {c : Int} {Q : List Pu} (k x : Int) (w : World) (h : Re w Y u c Q) (hn : Q.length ≤ 1000) (hm : mayB c 4 = true) :
    Calls Try.prog 26 #[P Y, i64 4, u64 k, u64 x] w fun e w' => e = .returned (ansV (outR (firstR Q 0) Q).1) ∧ Rid w Y u c (outR (firstR Q 0) Q).2 w' := by
  have HO := Lib.hid h
  have hY := h.ltY
  have c0 := h.c0
  have hb0 : Below w.heap.size w (w.alloc (.cells #[.int .i64 0, .bool false, .int .u64 0] 40)) := by go_grown
  have HB0 := Lib.hid hb0
  have HRE := Lib.hid (h.below hb0)
  have MAY := Lib.hid (fun W => rmay_any c 4 W)
  have HM := Lib.hid hm
  clear hb0 hm
  have FIND := Lib.hid (rfirst_any _ HRE.out hn)
  have hio : (firstR Q 0) < 0 ∨ ∃ (j : Nat) (p : Pu), (firstR Q 0) = j ∧ Q[j]? = some p := spec_4 k Q
  have OUT := Lib.hid (rout_any _ hio hn _ HRE.out)
  obtain ⟨⟨⟨a1, a2, a3⟩, Q'⟩, hr⟩ : ∃ r, outR (firstR Q 0) Q = r := ⟨_, rfl⟩
  rw [hr] at OUT ⊢
  clear h hio hr
  go_enter Try.func26, Try.ntmps26
  go_wp2_with fail
  refine (MAY.out _).mono ?_
  rintro e w1 ⟨rfl, rfl⟩
  rw [HM.out]
  go_wp2_with fail
  refine FIND.out.mono ?_
  rintro e w1 ⟨rfl, rfl⟩
  go_wp2_with fail
  refine OUT.out.mono ?_
  rintro e w4 ⟨rfl, hd⟩
  obtain ⟨bx4, hfin⟩ := rid_lift HO.out HB0.out (by exact heap_alloc_new w _) hd
  have BX4 := Lib.hid bx4
  have FIN := Lib.hid hfin
  obtain ⟨e1, e2, e3, e4⟩ := box_cell bx4
  have hsz : w.heap.size < w4.heap.size := (Array.getElem?_eq_some_iff.1 bx4).1
  clear hd bx4 hfin c0
  unfold ansV
  go_wp2
  obtain ⟨f0, f1, f2⟩ := box_set0 BX4.out
  refine bodyPost_ret (v := ansV (a1, a2, a3)) (by simp [results, Try.results26, go_sem, f0, f1, f2, ansV]) rfl ?_
  exact ⟨rfl, FIN.out _ (box3 _ _ _ _ _)⟩

set_option maxHeartbeats 4000000 in
theorem rdo_6 {Y : Nat} {u : Value} {c : Int} {Q : List Pu} (k x : Int) (w : World) (h : Re w Y u c Q) (hn : Q.length ≤ 1000) (hm : mayB c 6 = true) :
    Calls Try.prog 26 #[P Y, i64 6, u64 k, u64 x] w fun e w' => e = .returned (ansV (outR (findR k Q 0) Q).1) ∧ Rid w Y u c (outR (findR k Q 0) Q).2 w' := by
  have HO := Lib.hid h
  have hY := h.ltY
  have c0 := h.c0
  have hb0 : Below w.heap.size w (w.alloc (.cells #[.int .i64 0, .bool false, .int .u64 0] 40)) := by go_grown
  have HB0 := Lib.hid hb0
  have HRE := Lib.hid (h.below hb0)
  have MAY := Lib.hid (fun W => rmay_any c 6 W)
  have HM := Lib.hid hm
  clear hb0 hm
  have FIND := Lib.hid (rfind_any k _ HRE.out hn)
  have hio : (findR k Q 0) < 0 ∨ ∃ (j : Nat) (p : Pu), (findR k Q 0) = j ∧ Q[j]? = some p := spec_6 k Q
  have OUT := Lib.hid (rout_any _ hio hn _ HRE.out)
  obtain ⟨⟨⟨a1, a2, a3⟩, Q'⟩, hr⟩ : ∃ r, outR (findR k Q 0) Q = r := ⟨_, rfl⟩
  rw [hr] at OUT ⊢
  clear h hio hr
  go_enter Try.func26, Try.ntmps26
  go_wp2_with fail
  refine (MAY.out _).mono ?_
  rintro e w1 ⟨rfl, rfl⟩
  rw [HM.out]
  go_wp2_with fail
  refine FIND.out.mono ?_
  rintro e w1 ⟨rfl, rfl⟩
  go_wp2_with fail
  refine OUT.out.mono ?_
  rintro e w4 ⟨rfl, hd⟩
  obtain ⟨bx4, hfin⟩ := rid_lift HO.out HB0.out (by exact heap_alloc_new w _) hd
  have BX4 := Lib.hid bx4
  have FIN := Lib.hid hfin
  obtain ⟨e1, e2, e3, e4⟩ := box_cell bx4
  have hsz : w.heap.size < w4.heap.size := (Array.getElem?_eq_some_iff.1 bx4).1
  clear hd bx4 hfin c0
  unfold ansV
  go_wp2
  obtain ⟨f0, f1, f2⟩ := box_set0 BX4.out
  refine bodyPost_ret (v := ansV (a1, a2, a3)) (by simp [results, Try.results26, go_sem, f0, f1, f2, ansV]) rfl ?_
  exact ⟨rfl, FIN.out _ (box3 _ _ _ _ _)⟩

set_option maxHeartbeats 4000000 in
theorem rdo_1 {Y : Nat} {u : Value} {c : Int} {Q : List Pu} (k x : Int) (w : World) (h : Re w Y u c Q) (hn : Q.length ≤ 1000) (hm : mayB c 1 = true) :
    Calls Try.prog 26 #[P Y, i64 1, u64 k, u64 x] w fun e w' => e = .returned (ansV (yesA 0)) ∧ Rid w Y u c (Q ++ [((0, x), false)]) w' := by
  obtain ⟨ad, cap, rfl, _⟩ := h.sl.form
  obtain ⟨n, hQ⟩ : ∃ n, Q.length = n := ⟨_, rfl⟩
  rw [hQ] at h hn ⊢
  have HO := Lib.hid h
  have hY := h.ltY
  have c0 := h.c0
  have hb0 : Below w.heap.size w (w.alloc (.cells #[.int .i64 0, .bool false, .int .u64 0] 40)) := by go_grown
  have HB0 := Lib.hid hb0
  have HRE := Lib.hid (h.below hb0)
  have MAY := Lib.hid (fun W => rmay_any c 1 W)
  have HM := Lib.hid hm
  clear hb0 hm
  have hv := h.hv
  have hz := h.fz
  have RUN := Lib.hid (radd_run h hQ hn (0, x))
  clear h hQ
  go_enter Try.func26, Try.ntmps26
  go_wp2_with fail
  refine (MAY.out _).mono ?_
  rintro e w1 ⟨rfl, rfl⟩
  rw [HM.out]
  go_wp2_with (first
    | (at_builtin
       refine wpList_app rfl (.tmp 26) (.tmp 30) 73 73 rfl rfl rfl (RUN.out _ (by go_grown) (by exact alloc1_heap w _ _) (w.heap.size + 1) (by exact alloc2_heap w _ _) _) ?_
       rintro ad4 cap4 w4 H
       have H4 := Lib.hid H
       have k2 := H4.out.2.hv
       have k3 := H4.out.2.fz
       have k4 := H4.out.2.sz
       obtain ⟨b1, b2, b3, b4⟩ := box_cell H4.out.2.bx
       clear H))
  obtain ⟨f0, f1, f2⟩ := rbox_set (v := .slice ad4 (n + 1) cap4) H4.out.2.bx (show Y ≠ w.heap.size by omega)
  refine bodyPost_ret (v := ansV (yesA 0)) (by simp [results, Try.results26, go_sem, f0, f1, f2, ansV, yesA]) rfl ?_
  exact ⟨rfl, rid_add HO.out H4.out.1 H4.out.2 (box3 _ _ _ _ _)⟩

set_option maxHeartbeats 4000000 in
theorem rdo_3 {Y : Nat} {u : Value} {c : Int} {Q : List Pu} (k x : Int) (w : World) (h : Re w Y u c Q) (hn : Q.length ≤ 1000) (hm : mayB c 3 = true) :
    Calls Try.prog 26 #[P Y, i64 3, u64 k, u64 x] w fun e w' => e = .returned (ansV (yesA 0)) ∧ Rid w Y u c (Q ++ [((0, x), false)]) w' := by
  obtain ⟨ad, cap, rfl, _⟩ := h.sl.form
  obtain ⟨n, hQ⟩ : ∃ n, Q.length = n := ⟨_, rfl⟩
  rw [hQ] at h hn ⊢
  have HO := Lib.hid h
  have hY := h.ltY
  have c0 := h.c0
  have hb0 : Below w.heap.size w (w.alloc (.cells #[.int .i64 0, .bool false, .int .u64 0] 40)) := by go_grown
  have HB0 := Lib.hid hb0
  have HRE := Lib.hid (h.below hb0)
  have MAY := Lib.hid (fun W => rmay_any c 3 W)
  have HM := Lib.hid hm
  clear hb0 hm
  have hv := h.hv
  have hz := h.fz
  have RUN := Lib.hid (radd_run h hQ hn (0, x))
  clear h hQ
  go_enter Try.func26, Try.ntmps26
  go_wp2_with fail
  refine (MAY.out _).mono ?_
  rintro e w1 ⟨rfl, rfl⟩
  rw [HM.out]
  go_wp2_with (first
    | (at_builtin
       refine wpList_app rfl (.tmp 26) (.tmp 30) 73 73 rfl rfl rfl (RUN.out _ (by go_grown) (by exact alloc1_heap w _ _) (w.heap.size + 1) (by exact alloc2_heap w _ _) _) ?_
       rintro ad4 cap4 w4 H
       have H4 := Lib.hid H
       have k2 := H4.out.2.hv
       have k3 := H4.out.2.fz
       have k4 := H4.out.2.sz
       obtain ⟨b1, b2, b3, b4⟩ := box_cell H4.out.2.bx
       clear H))
  obtain ⟨f0, f1, f2⟩ := rbox_set (v := .slice ad4 (n + 1) cap4) H4.out.2.bx (show Y ≠ w.heap.size by omega)
  refine bodyPost_ret (v := ansV (yesA 0)) (by simp [results, Try.results26, go_sem, f0, f1, f2, ansV, yesA]) rfl ?_
  exact ⟨rfl, rid_add HO.out H4.out.1 H4.out.2 (box3 _ _ _ _ _)⟩

end Go.Proofs.Ytphfcfnbefikiaa
