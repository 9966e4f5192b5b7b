/- The lives: what Born and Life answer, and what Born leaves. -/
import Derived.Test.YtmolccpihmbniaaDoorF1
import Derived.Laws.OwnMore
import Derived.OneCell
namespace Go.Proofs.YtmolccpihmbniaaDoor
open Go.RowKit
set_option linter.unusedVariables false

/-- Below B all is as it was, but for block L. -/
structure Kp (B L : Nat) (w w' : World) : Prop where
  os : w'.os = w.os
  tape : w'.tape = w.tape
  output : w'.output = w.output
  size : w.heap.size ≤ w'.heap.size
  block : ∀ k, k < B → k ≠ L → w'.heap[k]? = w.heap[k]?

theorem Kp.refl (B L : Nat) (w : World) : Kp B L w w := ⟨rfl, rfl, rfl, Nat.le_refl _, fun _ _ _ => rfl⟩
theorem Kp.trans {B L : Nat} {a b c : World} (h : Kp B L a b) (k : Kp B L b c) : Kp B L a c :=
  ⟨k.os.trans h.os, k.tape.trans h.tape, k.output.trans h.output, Nat.le_trans h.size k.size, fun i hi hn => (k.block i hi hn).trans (h.block i hi hn)⟩
theorem Kp.of_below {B L : Nat} {w w' : World} (h : Below w.heap.size w w') (hB : B ≤ w.heap.size) : Kp B L w w' :=
  ⟨h.os, h.tape, h.output, h.size, fun k hk _ => h.block k (Nat.lt_of_lt_of_le hk hB)⟩
theorem Kp.of_grown {B L : Nat} {w w' : World} {row : Option Nat} (h : w.grownBy w' row) (hB : B ≤ w.heap.size) (hr : ∀ k, row = some k → B ≤ k) : Kp B L w w' :=
  ⟨h.os, h.tape, h.output, h.size, fun k hk _ => h.block k (Nat.lt_of_lt_of_le hk hB) (fun e => by have := hr k e.symm; omega)⟩
theorem Kp.set_L {B L : Nat} {a w : World} (h : Kp B L a w) (o : Nat) (u : Value) : Kp B L a (w.setCell ⟨L, o, none⟩ u) :=
  h.trans ⟨rfl, rfl, rfl, by simp, fun k _ hn => Below.heap_setCell _ _ _ _ hn⟩
theorem Kp.set_hi {B L : Nat} {a w : World} (h : Kp B L a w) {p : Addr} (hp : B ≤ p.block) (u : Value) : Kp B L a (w.setCell p u) :=
  h.trans ⟨rfl, rfl, rfl, by simp, fun k hk _ => Below.heap_setCell _ _ _ _ (by omega)⟩
theorem Kp.cell {B L : Nat} {w w' : World} (h : Kp B L w w') {p : Addr} (h1 : p.block < B) (h2 : p.block ≠ L) : w'.cell? p = w.cell? p := World.cell?_of_block (w := w) (h.block _ h1 h2)
theorem Kp.frozen {B L : Nat} {w w' : World} (h : Kp B L w w') {p : Addr} (h1 : p.block < B) (h2 : p.block ≠ L) : w'.frozen? p = w.frozen? p := World.frozen?_of_block (w := w) (h.block _ h1 h2)
theorem Kp.below {B L : Nat} {w0 w w' : World} (h : Kp B L w w') (hb : Below w0.heap.size w0 w) (hL : w0.heap.size ≤ L) (hB : w0.heap.size ≤ B) : Below w0.heap.size w0 w' :=
  hb.trans ⟨h.os, h.tape, h.output, h.size, fun k hk => h.block k (by omega) (by omega)⟩

/-- The lives are C (of slot i + 1: C (i + 1)); all that Born may touch is block L and blocks from B on. -/
structure Lv (B L : Nat) (C : Nat → Int) (m : Nat) (lv : List Int) (v : Value) (w : World) : Prop where
  c : w.cell? ⟨L, 0, none⟩ = some v
  f : w.frozen? ⟨L, 0, none⟩ = false
  own : w.ownsRow B 3 1 v m (lv.map (.int .i64))
  len : lv.length = m
  m : m ≤ 1000
  get : ∀ i, lv.getD i 0 = C (i + 1)
  lt : L < B
  sz : B ≤ w.heap.size

theorem Lv.below {B L : Nat} {C : Nat → Int} {m : Nat} {lv : List Int} {v : Value} {w w' : World} (h : Lv B L C m lv v w) (hb : Below w.heap.size w w') : Lv B L C m lv v w' := by
  refine ⟨keep hb h.c, ?_, own_below h.own hb, h.len, h.m, h.get, h.lt, Nat.le_trans h.sz hb.size⟩
  rw [hb.frozen (World.block_lt_of_cell? _ _ h.c)]; exact h.f

theorem own_slice {w : World} {B m : Nat} {v : Value} {xs : List Value} (h : w.ownsRow B 3 1 v m xs) : ∃ ad cap, v = .slice ad m cap := by
  rcases h.2 with ⟨rfl, rfl⟩ | ⟨g, cap, cur, rfl, _⟩
  · exact ⟨_, _, rfl⟩
  · exact ⟨_, _, rfl⟩

theorem info3 : (Tryd.prog.info? 3).map (fun i => (i.zero, i.size, i.bytes)) = some (some (.int .i64 0), 1, 8) := by kernel_rfl
theorem info3p : ∃ i, Tryd.prog.info? 3 = some i ∧ i.zero = some (.int .i64 0) ∧ i.size = 1 ∧ i.bytes = 8 := by
  have := info3
  cases hh : Tryd.prog.info? 3 with
  | none => rw [hh] at this; cases this
  | some i => rw [hh] at this; simp at this; exact ⟨i, rfl, this.1, this.2.1, this.2.2⟩

def pad (lv : List Int) (k : Nat) : List Int := lv ++ List.replicate k 0
theorem pad_succ (lv : List Int) (k : Nat) : (pad lv (k + 1)).map (Value.int .i64) = (pad lv k).map (Value.int .i64) ++ [.int .i64 0] := by
  simp [pad, List.replicate_succ']
theorem pad_get (lv : List Int) (k i : Nat) : (pad lv k).getD i 0 = lv.getD i 0 := by
  unfold pad
  simp only [List.getD_eq_getElem?_getD, List.getElem?_append]
  split
  · rfl
  · rw [List.getElem?_replicate]
    have : lv[i]? = none := List.getElem?_eq_none (by omega)
    rw [this]
    split <;> rfl
theorem pad_len (lv : List Int) (k : Nat) : (pad lv k).length = lv.length + k := by simp [pad]

def up (C : Nat → Int) (n : Nat) : Nat → Int := fun i => if i = n then C i + 1 else C i

theorem born_after {B L m k cap2 g cap3 : Nat} {ad2 : Option Addr} {lv : List Int} {w1 wr w2 : World} {x : Value} {o : Obj} (hown : wr.ownsRow B 3 1 (.slice ad2 (m + k) cap2) (m + k) ((pad lv k).map (.int .i64))) (hkp : Kp B L w1 wr) (hBs : B ≤ wr.heap.size) (hLB : L < B)
    (hcl : wr.cell? ⟨L, 0, none⟩ = some x) (hfl : wr.frozen? ⟨L, 0, none⟩ = false)
    (hown2 : w2.ownsRow B 3 1 (.slice (some ⟨g, 0, none⟩) (m + k + 1) cap3) (m + k + 1) ((pad lv k).map (.int .i64) ++ [.int .i64 0])) (hgrow : (wr.alloc o).grownBy w2 (Value.slice ad2 (m + k) cap2).ownBlock) :
    w2.ownsRow B 3 1 (.slice (some ⟨g, 0, none⟩) (m + k + 1) cap3) (m + k + 1) ((pad lv (k + 1)).map (.int .i64)) ∧ Kp B L w1 w2 ∧ w2.cell? ⟨L, 0, none⟩ = some x ∧ w2.frozen? ⟨L, 0, none⟩ = false := by
  have hlow : ∀ j, (Value.slice ad2 (m + k) cap2).ownBlock = some j → B ≤ j := fun j hj => (hown.lt _ hj).1
  have hLw : L < wr.heap.size := by omega
  refine ⟨by rw [pad_succ]; exact hown2, hkp.trans ((Kp.of_below (w' := wr.alloc o) (by go_grown) hBs).trans (Kp.of_grown hgrow (by simp; omega) hlow)), ?_, ?_⟩
  · refine hgrow.cell ?_ (fun e => by have := hlow L e.symm; omega)
    rw [World.cell?_alloc_lt _ _ _ (by exact hLw)]; exact hcl
  · rw [hgrow.frozen_far _ (by simp; omega) (fun e => by have := hlow L e.symm; omega), World.frozen?_alloc_old _ _ _ (by simp only; omega)]; exact hfl

theorem set_get (l : List Int) (j : Nat) (hj : j < l.length) (x : Int) (i : Nat) : (l.set j x).getD i 0 = if i = j then x else l.getD i 0 := by
  simp only [List.getD_eq_getElem?_getD, List.getElem?_set]
  by_cases h : j = i
  · subst h; simp [hj]
  · rw [if_neg h, if_neg (fun e => h e.symm)]

theorem born_done {B L m k g cap2 n : Nat} {C : Nat → Int} {lv : List Int} {w1 wr : World} {x : Value} (hn : 1 ≤ n) (hnm : n ≤ m + k) (hmk : m + k ≤ 1000) (hlen : lv.length = m) (hget : ∀ i, lv.getD i 0 = C (i + 1))
    (hown : wr.ownsRow B 3 1 (.slice (some ⟨g, 0, none⟩) (m + k) cap2) (m + k) ((pad lv k).map (.int .i64))) (hkp : Kp B L w1 wr) (hBg : B ≤ g) (hLB : L < B) (hBs : B ≤ wr.heap.size)
    (hcl : wr.cell? ⟨L, 0, none⟩ = some x) (hfl : wr.frozen? ⟨L, 0, none⟩ = false) :
    (∃ m' lv' v', Lv B L (up C n) m' lv' v' ((wr.setCell ⟨g, n - 1, none⟩ (.int .i64 (C n + 1))).setCell ⟨L, 0, none⟩ (.slice (some ⟨g, 0, none⟩) (m + k) cap2))) ∧
      Kp B L w1 ((wr.setCell ⟨g, n - 1, none⟩ (.int .i64 (C n + 1))).setCell ⟨L, 0, none⟩ (.slice (some ⟨g, 0, none⟩) (m + k) cap2)) := by
  refine ⟨⟨m + k, (pad lv k).set (n - 1) (C n + 1), _, ⟨cset_same (u := x) ?_, ?_, ?_, ?_, hmk, ?_, hLB, ?_⟩⟩, (hkp.set_hi (by exact hBg) _).set_L _ _⟩
  · rw [cset_other (fun e => by have h := congrArg Addr.block e; simp only at h; omega)]; exact hcl
  · simp only [World.frozen?_setCell]; exact hfl
  · rw [List.map_set]
    exact ownsRow_setCell_below (hown.stored (n - 1) _).1 (by exact hLB) _
  · simp [pad_len, hlen]
  · intro i
    rw [set_get _ _ (by rw [pad_len, hlen]; omega), pad_get, hget]
    unfold up
    by_cases h : i = n - 1
    · subst h; rw [if_pos rfl, if_pos (by omega), show n - 1 + 1 = n by omega]
    · rw [if_neg h, if_neg (by omega)]
  · simp only [World.size_setCell]; exact hBs

set_option maxHeartbeats 4000000 in
set_option maxRecDepth 100000 in
theorem born_any (A : Nat) (r : Ar) (s : Sm r) (n : Nat) (hn : 1 ≤ n ∧ n ≤ 100) (B L : Nat) (hV : r.V = .pointer (some ⟨L, 0, none⟩)) (hA : A < B) (hAL : A ≠ L) (C : Nat → Int) (hC : 0 ≤ C n ∧ C n ≤ 1000) (m : Nat) (lv : List Int) (v : Value) (w : World) (h : At A r w) (hl : Lv B L C m lv v w)
    {c d : Int} (hf : fnd n r.i0 r.i1 r.i2 = (c, d, true)) :
    Calls Tryd.prog 23 #[.pointer (some ⟨A, 0, none⟩), .int .i64 n] w fun e w' => e = .returned (.int .i64 (C n + 1)) ∧ (∃ m' lv' v', Lv B L (up C n) m' lv' v' w') ∧ Kp B L w w' := by
  obtain ⟨i, hi, hz, h1, h8⟩ := info3p
  go_enter Tryd.func23, Tryd.ntmps23
  go_wp2_with fail
  refine (has_any A r s n _ h hf).mono ?_
  rintro e w1 ⟨rfl, hb1⟩
  have hl1 := hl.below hb1
  have HK1 := Lib.hid (Kp.of_below (L := L) hb1 hl.sz)
  have hat := h.below hb1
  have c6 := hat.c6
  rw [hV] at c6
  have cl := hl1.c
  have HAT := Lib.hid hat
  have HL1 := Lib.hid hl1
  obtain ⟨ad, cap, hvs⟩ := own_slice hl1.own
  subst hvs
  clear hl hb1 h hf hat hl1
  go_wp2_with fail
  go_loopw [5] (fun u wr => ∃ k : Nat, m + k ≤ max m n ∧ (∃ ad cap, u = .slice ad (m + k) cap) ∧ wr.ownsRow B 3 1 u (m + k) ((pad lv k).map (.int .i64)) ∧ Kp B L w1 wr ∧ wr.cell? ⟨L, 0, none⟩ = some (.slice ad m cap) ∧ wr.frozen? ⟨L, 0, none⟩ = false) (fun u _ => n - (match u with | .slice _ l _ => l | _ => 0))
  case atStart => exact ⟨0, by omega, ⟨_, _, rfl⟩, by simpa [pad] using HL1.out.own, Kp.refl _ _ _, HL1.out.c, HL1.out.f⟩
  case round =>
    obtain ⟨k, hk, ⟨ad2, cap2, rfl⟩, hown, hkp, hcl, hfl⟩ := hrel
    have hm := HL1.out.m
    have hBs : B ≤ wr.heap.size := Nat.le_trans HL1.out.sz hkp.size
    have HO := Lib.hid hown
    have HK := Lib.hid hkp
    have HCL := Lib.hid hcl
    have HFL := Lib.hid hfl
    have hLB := HL1.out.lt
    clear hown hkp hcl hfl
    by_cases hlt : m + k < n
    · have hlt' : (m : Int) + (k : Int) < (n : Int) := by omega
      go_wp2_with (first
        | (at_builtin; refine wpList_append_lies _ rfl _ _ 45 rfl B 3 i (.int .i64 0) 1 8 Tryd.underlying45 hi hz h1 h8 rfl (by decide) (.slice ad2 (m + k) cap2) _ _ rfl (HO.out.alloc _) ⟨wr.heap.size, 0, none⟩ 1 1 [.int .i64 0] rfl rfl (newsN wr #[.int .i64 0] 3) (by intro u hu; simp at hu; subst hu; rfl) (by decide) (by unfold maxLen; omega) (by omega) (by simp; omega) _ rfl ?_
           intro g cap3 w2 hown2 hgrow hatg hlt
           have H2 := Lib.hid (born_after HO.out HK.out hBs hLB HCL.out HFL.out hown2 hgrow)
           clear hown2 hgrow hatg hlt))
      refine ⟨?_, ?_⟩
      · first
          | exact ⟨k + 1, by omega, ⟨_, _, rfl⟩, H2.out⟩
          | ((repeat apply Exists.intro); refine ⟨?_, rfl⟩; exact ⟨k + 1, by omega, ⟨_, _, rfl⟩, H2.out⟩)
      · simp; omega
    · have hge : (n : Int) ≤ (m : Int) + (k : Int) := by omega
      have hdec : decide ((m : Int) + (k : Int) < (n : Int)) = false := by simp; omega
      obtain ⟨g, cap3, hveq, hBg, hgs⟩ := HO.out.form (by omega)
      simp only [Value.slice.injEq, true_and] at hveq
      obtain ⟨rfl, rfl⟩ := hveq
      have hcg : wr.cell? ⟨g, n - 1, none⟩ = some (.int .i64 (C n)) := by
        rw [HO.out.cellAt (n - 1) (by omega), List.getElem?_map, List.getElem?_eq_getElem (by rw [pad_len, HL1.out.len]; omega)]
        have hp := pad_get lv k (n - 1)
        rw [HL1.out.get (n - 1), show n - 1 + 1 = n by omega, List.getD_eq_getElem?_getD, List.getElem?_eq_getElem (by rw [pad_len, HL1.out.len]; omega)] at hp
        simp only [Option.getD_some] at hp
        rw [hp]; rfl
      have hfg : wr.frozen? ⟨g, n - 1, none⟩ = false := HO.out.frozenAt (n - 1)
      have hne : g ≠ L := by omega
      have hneA : g ≠ A := by omega
      have c6r : wr.cell? ⟨A, 6, none⟩ = some (.pointer (some ⟨L, 0, none⟩)) := by rw [HK.out.cell (by exact hA) (by exact hAL)]; exact c6
      have hcl := HCL.out
      have hfl := HFL.out
      have hnn : ((n : Int) - 1).toNat = n - 1 := by omega
      go_wp2
      go_returns
      have hfin := born_done (C := C) hn.1 (by omega) (by omega) HL1.out.len HL1.out.get HO.out HK.out hBg hLB hBs HCL.out HFL.out
      exact ⟨rfl, hfin.1, HK1.out.trans hfin.2⟩

set_option maxHeartbeats 4000000 in
theorem life_any (A : Nat) (r : Ar) (s : Sm r) (n : Nat) (hn : 1 ≤ n ∧ n ≤ 100) (B L : Nat) (hV : r.V = .pointer (some ⟨L, 0, none⟩)) (C : Nat → Int) (m : Nat) (lv : List Int) (v : Value) (w : World) (h : At A r w) (hl : Lv B L C m lv v w)
    {c d : Int} (hf : fnd n r.i0 r.i1 r.i2 = (c, d, true)) :
    Calls Tryd.prog 24 #[.pointer (some ⟨A, 0, none⟩), .int .i64 n] w fun e w' => e = .returned (.int .i64 (C n)) ∧ Below w.heap.size w w' := by
  by_cases hlt : m < n
  · have hC : C n = 0 := by
      have hg := hl.get (n - 1)
      rw [show n - 1 + 1 = n by omega, List.getD_eq_getElem?_getD, List.getElem?_eq_none (by rw [hl.len]; omega)] at hg
      simpa using hg.symm
    rw [hC]
    go_enter Tryd.func24, Tryd.ntmps24
    go_wp2_with fail
    refine (has_any A r s n _ h hf).mono ?_
    rintro e w1 ⟨rfl, hb1⟩
    have hl1 := hl.below hb1
    have c6 := (h.below hb1).c6
    rw [hV] at c6
    have cl := hl1.c
    obtain ⟨ad, cap, hvs⟩ := own_slice hl1.own
    subst hvs
    have hlt' : (m : Int) < (n : Int) := by omega
    have HB := Lib.hid hb1
    clear hl hl1 hb1 h hf hC
    go_wp2
    go_returns
    exact ⟨rfl, HB.out⟩
  · go_enter Tryd.func24, Tryd.ntmps24
    go_wp2_with fail
    refine (has_any A r s n _ h hf).mono ?_
    rintro e w1 ⟨rfl, hb1⟩
    have hl1 := hl.below hb1
    have c6 := (h.below hb1).c6
    rw [hV] at c6
    have cl := hl1.c
    obtain ⟨g, cap, hvs, _, _⟩ := hl1.own.form (by omega)
    subst hvs
    have hcg : w1.cell? ⟨g, n - 1, none⟩ = some (.int .i64 (C n)) := by
      rw [hl1.own.cellAt (n - 1) (by omega), List.getElem?_map, List.getElem?_eq_getElem (by rw [hl1.len]; omega)]
      have hp := hl1.get (n - 1)
      rw [show n - 1 + 1 = n by omega, List.getD_eq_getElem?_getD, List.getElem?_eq_getElem (by rw [hl1.len]; omega)] at hp
      simp only [Option.getD_some] at hp
      rw [hp]; rfl
    have hdec : decide ((m : Int) < (n : Int)) = false := by simp; omega
    have hge : (n : Int) ≤ (m : Int) := by omega
    have hnn : ((n : Int) - 1).toNat = n - 1 := by omega
    have HB := Lib.hid hb1
    clear hl hl1 hb1 h hf
    go_wp2
    go_returns
    exact ⟨rfl, HB.out⟩

end Go.Proofs.YtmolccpihmbniaaDoor
