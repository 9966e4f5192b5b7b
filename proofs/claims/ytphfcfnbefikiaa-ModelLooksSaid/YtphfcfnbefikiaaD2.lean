/- The iterator of an object's things, for whatever loop. -/
import Derived.RangeFuncNested
import Derived.RangeFuncBound
import Derived.RangeFuncCalls
import Derived.RangeFuncLeaves
import Derived.Shelf.Abstract
import Derived.Shelf.AbstractIn
import Derived.OwnWalkIn
import Derived.TacticsInMore
import Derived.LoopNIn
import Derived.LoopIn
import Derived.Test.YtphfcfnbefikiaaD1
namespace Go.Proofs.Ytphfcfnbefikiaa
open Go.RowKit Go.Shelf
set_option linter.unusedVariables false
set_option linter.unusedSimpArgs false
attribute [local go_sem] Oper.semAt_some

/-- The row of the slice in a box. -/
def RowOf (W : World) (Bb k : Nat) : Prop := ∃ v, W.cell? ⟨Bb, 0, none⟩ = some v ∧ v.ownBlock = some k
/-- What a round keeps: all cells but those of its box, and of the slice in it. -/
def Kb (Bb : Nat) (W W' : World) : Prop :=
  W.heap.size ≤ W'.heap.size ∧ ((W.cell? ⟨Bb, 0, none⟩).isSome = true → (W'.cell? ⟨Bb, 0, none⟩).isSome = true ∧
    (∀ k o, W.heap[k]? = some o → o.isCells = true → k ≠ Bb → ¬ RowOf W Bb k → W'.heap[k]? = some o) ∧ ∀ k, RowOf W' Bb k → RowOf W Bb k ∨ W.heap.size ≤ k)
theorem kb_t {Bb : Nat} {A B C : World} (h : Kb Bb A B) (k : Kb Bb B C) : Kb Bb A C := by
  refine ⟨Nat.le_trans h.1 k.1, fun hs => ?_⟩
  obtain ⟨h1, h2, h3⟩ := h.2 hs
  obtain ⟨k1, k2, k3⟩ := k.2 h1
  refine ⟨k1, fun i o hi ho hn hr => k2 i o (h2 i o hi ho hn hr) ho hn (fun hB => ?_), fun i hi => ?_⟩
  · rcases h3 i hB with e | e
    · exact hr e
    · have := (Array.getElem?_eq_some_iff.1 hi).1; omega
  · rcases k3 i hi with e | e
    · exact h3 i e
    · right; have := h.1; omega
theorem cell_block {W : World} {B : Nat} (h : (W.cell? ⟨B, 0, none⟩).isSome = true) : ∃ o, W.heap[B]? = some o ∧ o.isCells = true := by
  cases hh : W.heap[B]? with
  | none => simp [World.cell?, hh] at h
  | some o =>
    refine ⟨o, rfl, ?_⟩
    cases o <;> first | rfl | (simp [World.cell?, hh] at h)
theorem kb_b {Bb n₀ : Nat} (W : World) (l : Nat) (o o' : Go.Obj) (_ : n₀ ≤ l) (h : W.heap[l]? = some o) (ho : o.isCells = false) (_ : o.isWalk = false) : Kb Bb W (W.putObj l o') := by
  have hg := grownBy_putObj' W l o'
  refine ⟨hg.size, fun hs => ?_⟩
  obtain ⟨ob, hb1, hb2⟩ := cell_block hs
  have hne : Bb ≠ l := fun e => by subst e; rw [h] at hb1; obtain rfl := Option.some.inj hb1; rw [ho] at hb2; cases hb2
  have hc : (W.putObj l o').cell? ⟨Bb, 0, none⟩ = W.cell? ⟨Bb, 0, none⟩ := World.cell?_of_block (w := W) (hg.block Bb (Array.getElem?_eq_some_iff.1 hb1).1 (by simpa using hne))
  refine ⟨by rw [hc]; exact hs, fun k x hk hx hn _ => ?_, fun k hk => .inl ?_⟩
  · have hkl : k ≠ l := fun e => by subst e; rw [h] at hk; obtain rfl := Option.some.inj hk; rw [ho] at hx; cases hx
    rw [hg.block k (Array.getElem?_eq_some_iff.1 hk).1 (by simpa using hkl)]; exact hk
  · obtain ⟨v, hv1, hv2⟩ := hk
    rw [hc] at hv1
    exact ⟨v, hv1, hv2⟩

def thV (x : Th) : Value := .agg #[.int .u64 x.1, .int .u64 x.2]

/-- A slice of one's own stays through a round. -/
theorem Sl.kb {Bb n cap : Nat} {W W' : World} {ad : Option Addr} {L : List Th} (h : Sl W 51 2 (.slice ad n cap) n (cells2 L)) (hk : Kb Bb W W') (hs : (W.cell? ⟨Bb, 0, none⟩).isSome = true) (hr : ∀ b, (Value.slice ad n cap).ownBlock = some b → b ≠ Bb ∧ ¬ RowOf W Bb b) : Sl W' 51 2 (.slice ad n cap) n (cells2 L) := by
  refine h.kept fun b hb => ?_
  obtain ⟨h1, h2, h3⟩ := hk.2 hs
  obtain ⟨n1, n2⟩ := hr b hb
  rcases h.2.2 with ⟨hv, _⟩ | ⟨b', off, cap', cur, hv, hh, _⟩
  · simp only [Value.slice.injEq] at hv; obtain ⟨rfl, -⟩ := hv; cases hb
  · simp only [Value.slice.injEq] at hv
    obtain ⟨rfl, -⟩ := hv
    simp only [Value.ownBlock, Option.some.injEq] at hb
    subst hb
    rw [hh, h2 _ _ hh rfl n1 n2]

theorem cell_lt {W : World} {B : Nat} (h : (W.cell? ⟨B, 0, none⟩).isSome = true) : B < W.heap.size := by
  obtain ⟨o, h1, _⟩ := cell_block h
  exact (Array.getElem?_eq_some_iff.1 h1).1
theorem rev_own {W w1 : World} {ad' : Option Addr} {m cap' : Nat} {L : List Th} (h : OwnSl W.heap.size w1 (.slice ad' m cap') m L) (hb : Below W.heap.size W w1) (hn : m ≤ 1000) :
    Calls Try.prog 36 #[.slice ad' m cap'] w1 fun e w2 => e = .returned (.tuple #[]) ∧ OwnSl W.heap.size w2 (.slice ad' m cap') m L.reverse ∧ Below W.heap.size W w2 := by
  rcases h.2.1.2.2 with ⟨hv, rfl⟩ | ⟨b, off, cap2, cur, hv, _⟩
  · simp only [Value.slice.injEq] at hv
    obtain ⟨rfl, -, rfl⟩ := hv
    have hL : L = [] := by have := h.1; simpa using this
    subst hL
    refine (reverse_nil w1).mono ?_
    rintro e w2 ⟨rfl, rfl⟩
    exact ⟨rfl, h, hb⟩
  · simp only [Value.slice.injEq] at hv
    obtain ⟨rfl, -, rfl⟩ := hv
    refine (reverse_any w1 h.2.1 h.1 hn).mono ?_
    rintro e w2 ⟨rfl, h1, h2⟩
    exact ⟨rfl, ⟨by rw [List.length_reverse]; exact h.1, h1, h.2.2⟩, hb.grown h2 hb.size (fun k e => by cases e; exact h.2.2 b rfl)⟩
theorem row_start {W w2 : World} {Bb : Nat} {v : Value} (hb : Below W.heap.size W w2) (h1 : (W.cell? ⟨Bb, 0, none⟩).isSome = true) (h2 : ∀ k, RowOf W Bb k → k < W.heap.size) (h3 : ∀ b, v.ownBlock = some b → W.heap.size ≤ b) :
    (w2.cell? ⟨Bb, 0, none⟩).isSome = true ∧ ∀ b, v.ownBlock = some b → b ≠ Bb ∧ ¬ RowOf w2 Bb b := by
  have hc : w2.cell? ⟨Bb, 0, none⟩ = W.cell? ⟨Bb, 0, none⟩ := hb.cell (p := ⟨Bb, 0, none⟩) (cell_lt h1)
  refine ⟨by rw [hc]; exact h1, fun b hb' => ⟨fun e => ?_, fun hr => ?_⟩⟩
  · have := h3 b hb'; have := cell_lt h1; omega
  · obtain ⟨u, u1, u2⟩ := hr
    rw [hc] at u1
    have := h2 b ⟨u, u1, u2⟩; have := h3 b hb'; omega
theorem abides_below {B : Nat} {J : List Th → World → Prop} (h : AbidesFrom B J) {pre : List Th} {A C : World} (hj : J pre A) (hb : Below A.heap.size A C) : J pre C :=
  h pre A C none hj ⟨hb.os, hb.tape, hb.output, hb.size, fun k hk _ => hb.block k hk⟩ (fun r e => by cases e)
theorem row_kb {Bb n cap : Nat} {W W' : World} {ad : Option Addr} {L : List Th} (h : Sl W 51 2 (.slice ad n cap) n (cells2 L)) (hk : Kb Bb W W') (hs : (W.cell? ⟨Bb, 0, none⟩).isSome = true) (hr : ∀ b, (Value.slice ad n cap).ownBlock = some b → b ≠ Bb ∧ ¬ RowOf W Bb b) :
    (W'.cell? ⟨Bb, 0, none⟩).isSome = true ∧ ∀ b, (Value.slice ad n cap).ownBlock = some b → b ≠ Bb ∧ ¬ RowOf W' Bb b := by
  obtain ⟨h1, h2, h3⟩ := hk.2 hs
  refine ⟨h1, fun b hb => ⟨(hr b hb).1, fun e => ?_⟩⟩
  rcases h3 b e with e' | e'
  · exact (hr b hb).2 e'
  · have := h.lt hb; omega


set_option maxHeartbeats 4000000 in
set_option maxRecDepth 100000 in
theorem all1_in (n : Nat) (hn : 1 ≤ n) (l Bx X H Bb : Nat) (v : Value) (c : Int) (L : List Th) (J Jx : List Th → World → Prop) (W : World) (hJ : AbidesFrom W.heap.size J)
    (hY : ∀ pre x W1, J pre W1 → pre.length < L.length → YieldAt Fence.wide (n - 1) Try.prog l #[thV x] W1 fun e W' => (e = .returned (.bool true) ∧ J (pre ++ [x]) W' ∧ Kb Bb W1 W') ∨ (e = .returned (.bool false) ∧ Jx (pre ++ [x]) W'))
    (hBx : W.cell? ⟨Bx, 0, none⟩ = some (P X)) (hO : Ob W X H v c L) (hLn : L.length ≤ 1000) (hBb : (W.cell? ⟨Bb, 0, none⟩).isSome = true) (hrow : ∀ k, RowOf W Bb k → k < W.heap.size) (h0 : J [] W) (hc1 : (c == 1) = false) :
    CallsIn Fence.wide n Try.prog 35 #[.func (.yield l) #[] #[], P Bx] W fun e W' => (∃ v, e = .returned v) ∧ ((∃ ys, ys = L ∧ J ys W') ∨ (∃ pre, pre <+: L ∧ Jx pre W')) := by
  have MIS := Lib.hid (missing_at W hO.c1)
  obtain ⟨ad, cap, rfl, _⟩ := hO.sl.form
  obtain ⟨m, hL⟩ : ∃ m, L.length = m := ⟨_, rfl⟩
  have hsl := hO.sl
  have c0 := hO.c0
  have c1 := hO.c1
  have hv := hO.hv
  rw [hL] at hsl hv hLn
  have CLO := Lib.hid (clone_any W hsl hL hLn)
  have HY := Lib.hid hY
  have HJ := Lib.hid hJ
  have HL := Lib.hid hL
  have HBB := Lib.hid hBb
  have HROW := Lib.hid hrow
  have H0 := Lib.hid h0
  have hXl := hO.ltX
  have hHl := hO.ltH
  have hBl := World.block_lt_of_cell? _ _ hBx
  simp only at hBl
  have BX := Lib.hid hBx
  have C0 := Lib.hid c0
  clear hsl hY hJ hL hrow h0 hO hBb
  have f32 : Fence.wide.fn 32 := trivial
  have f33 : Fence.wide.fn 33 := trivial
  have f36 : Fence.wide.fn 36 := trivial
  refine callsIn_of_wp Try.func35 rfl trivial ?_ rfl
  simp only [Try.ntmps35, List.size_toArray, List.length_cons, List.length_nil, Nat.reduceAdd, Nat.reduceSub, Array.replicate_succ, Array.replicate_zero, List.push_toArray, List.append_toArray, List.nil_append, List.cons_append]
  gi_wp2_with (first
    | (gi_at_call 32; refine (callsIn_wide.2 MIS.out).mono ?_; rintro e w1 ⟨rfl, rfl⟩)
    | (gi_at_call 33
       refine (callsIn_wide.2 CLO.out).mono ?_
       rintro e w1 ⟨ad', cap', rfl, ho, hb⟩
       have HO1 := Lib.hid ho
       have HB1 := Lib.hid hb
       have d1 := keep hb BX.out
       have d2 := keep hb C0.out
       have hBl1 := World.block_lt_of_cell? _ _ d1
       clear ho hb))
  obtain ⟨q1, q2⟩ := row_start HB1.out HBB.out HROW.out HO1.out.2.2
  have Q1 := Lib.hid q1
  have Q2 := Lib.hid q2
  clear q1 q2
  gi_loopw [24] (fun a wr => ∃ i : Nat, a = i64 i ∧ i ≤ m ∧ J ((L).take i) wr ∧ Sl wr 51 2 (.slice ad' m cap') m (cells2 (L)) ∧ (wr.cell? ⟨Bb, 0, none⟩).isSome = true ∧ ∀ b, (Value.slice ad' m cap').ownBlock = some b → b ≠ Bb ∧ ¬ RowOf wr Bb b) (fun a _ => m - (intOf a).toNat)
  case atStart => exact ⟨0, rfl, by omega, abides_below HJ.out H0.out HB1.out, HO1.out.2.1, Q1.out, Q2.out⟩
  case round =>
    obtain ⟨i, rfl, hi, hj, hs, r1, r2⟩ := hrel
    have HJJ := Lib.hid hj
    have HS := Lib.hid hs
    have R1 := Lib.hid r1
    have R2 := Lib.hid r2
    clear hj r1 r2
    by_cases hlt : i < m
    · have hlt' : (i : Int) < (m : Int) := by omega
      obtain ⟨t, ht⟩ : ∃ t, (L)[i]? = some t := ⟨_, List.getElem?_eq_getElem (by rw [HL.out]; exact hlt)⟩
      obtain ⟨b, off, cap3, hv3, hbl, _, _, _, hc, _⟩ := hs.at (by omega)
      simp only [Value.slice.injEq, true_and] at hv3
      obtain ⟨rfl, rfl⟩ := hv3
      have x1 : wr.cell? ⟨b, off + i * 2, none⟩ = some (.int .u64 t.1) := (hc _ (by omega)).trans (cells2_0 ht)
      have x2 : wr.cell? ⟨b, off + i * 2 + 1, none⟩ = some (.int .u64 t.2) := (hc (i * 2 + 1) (by omega)).trans (cells2_1 ht)
      have hbA : Below wr.heap.size wr (wr.alloc (.cells #[.int .u64 t.1, .int .u64 t.2] 51)) := by go_grown
      have hcA : (wr.alloc (.cells #[.int .u64 t.1, .int .u64 t.2] 51)).cell? ⟨Bb, 0, none⟩ = wr.cell? ⟨Bb, 0, none⟩ := hbA.cell (p := ⟨Bb, 0, none⟩) (cell_lt R1.out)
      have hr1 : ((wr.alloc (.cells #[.int .u64 t.1, .int .u64 t.2] 51)).cell? ⟨Bb, 0, none⟩).isSome = true := by rw [hcA]; exact R1.out
      have hr2 : ∀ b', (Value.slice (some ⟨b, off, none⟩) m cap').ownBlock = some b' → b' ≠ Bb ∧ ¬ RowOf (wr.alloc (.cells #[.int .u64 t.1, .int .u64 t.2] 51)) Bb b' := fun b' hb' => ⟨(R2.out b' hb').1, fun ⟨u, u1, u2⟩ => (R2.out b' hb').2 ⟨u, by rw [← hcA]; exact u1, u2⟩⟩
      have HSA := Lib.hid (HS.out.below hbA)
      have HR1 := Lib.hid hr1
      have HR2 := Lib.hid hr2
      have HT := Lib.hid ht
      obtain ⟨fn, tmps, assign, body, hy, hR⟩ := HY.out ((L).take i) t _ (abides_below HJ.out HJJ.out hbA) (by rw [List.length_take, HL.out]; have := HL.out; omega)
      dsimp only [thV] at hy
      have HR := Lib.hid hR
      clear hc ht hbA hcA hr1 hr2 hs hR
      gi_wp2
      refine HR.out.mono ?_
      rintro e W3 (⟨rfl, hJ3, hk3⟩ | ⟨rfl, hJx3⟩)
      · have S3 := Lib.hid (HSA.out.kb hk3 HR1.out HR2.out)
        have K3 := Lib.hid (row_kb HSA.out hk3 HR1.out HR2.out)
        have J3 := Lib.hid hJ3
        clear hJ3 hk3
        gi_wp2
        go_roundw
        case rel => exact ⟨i + 1, by first | rfl | simp, by omega, by rw [take_snoc HT.out]; exact J3.out, S3.out, K3.out.1, K3.out.2⟩
        case measure => simp [intOf]; omega
      · have J3 := Lib.hid hJx3
        clear hJx3
        gi_wp2
        refine bodyPost_ret (results_none rfl _ _ _) rfl ?_
        exact ⟨⟨_, rfl⟩, .inr ⟨_, ⟨(L).drop (i + 1), by rw [← take_snoc HT.out, List.take_append_drop]⟩, J3.out⟩⟩
    · have hge : (m : Int) ≤ (i : Int) := by omega
      obtain rfl : i = m := by omega
      clear hs
      gi_wp2
      go_end0
      refine ⟨⟨_, rfl⟩, .inl ⟨_, rfl, ?_⟩⟩
      have := HJJ.out
      rwa [List.take_of_length_le (by rw [HL.out]; exact Nat.le_refl _)] at this

set_option maxHeartbeats 4000000 in
set_option maxRecDepth 100000 in
theorem all1_st (n : Nat) (hn : 1 ≤ n) (l Bx X H Bb : Nat) (v : Value) (c : Int) (L : List Th) (J Jx : List Th → World → Prop) (W : World) (hJ : AbidesFrom W.heap.size J)
    (hY : ∀ pre x W1, J pre W1 → pre.length < L.length → YieldAt Fence.wide (n - 1) Try.prog l #[thV x] W1 fun e W' => (e = .returned (.bool true) ∧ J (pre ++ [x]) W' ∧ Kb Bb W1 W') ∨ (e = .returned (.bool false) ∧ Jx (pre ++ [x]) W'))
    (hBx : W.cell? ⟨Bx, 0, none⟩ = some (P X)) (hO : Ob W X H v c L) (hLn : L.length ≤ 1000) (hBb : (W.cell? ⟨Bb, 0, none⟩).isSome = true) (hrow : ∀ k, RowOf W Bb k → k < W.heap.size) (h0 : J [] W) (hc1 : c = 1) :
    CallsIn Fence.wide n Try.prog 35 #[.func (.yield l) #[] #[], P Bx] W fun e W' => (∃ v, e = .returned v) ∧ ((∃ ys, ys = L.reverse ∧ J ys W') ∨ (∃ pre, pre <+: L.reverse ∧ Jx pre W')) := by
  have MIS := Lib.hid (missing_at W hO.c1)
  obtain ⟨ad, cap, rfl, _⟩ := hO.sl.form
  obtain ⟨m, hL⟩ : ∃ m, L.length = m := ⟨_, rfl⟩
  have hsl := hO.sl
  have c0 := hO.c0
  have c1 := hO.c1
  have hv := hO.hv
  rw [hL] at hsl hv hLn
  have CLO := Lib.hid (clone_any W hsl hL hLn)
  have HY := Lib.hid hY
  have HJ := Lib.hid hJ
  have HL := Lib.hid hL
  have HBB := Lib.hid hBb
  have HROW := Lib.hid hrow
  have H0 := Lib.hid h0
  have hXl := hO.ltX
  have hHl := hO.ltH
  have hBl := World.block_lt_of_cell? _ _ hBx
  simp only at hBl
  have BX := Lib.hid hBx
  have C0 := Lib.hid c0
  subst hc1
  clear hsl hY hJ hL hrow h0 hO hBb
  have f32 : Fence.wide.fn 32 := trivial
  have f33 : Fence.wide.fn 33 := trivial
  have f36 : Fence.wide.fn 36 := trivial
  refine callsIn_of_wp Try.func35 rfl trivial ?_ rfl
  simp only [Try.ntmps35, List.size_toArray, List.length_cons, List.length_nil, Nat.reduceAdd, Nat.reduceSub, Array.replicate_succ, Array.replicate_zero, List.push_toArray, List.append_toArray, List.nil_append, List.cons_append]
  gi_wp2_with (first
    | (gi_at_call 32; refine (callsIn_wide.2 MIS.out).mono ?_; rintro e w1 ⟨rfl, rfl⟩)
    | (gi_at_call 33
       refine (callsIn_wide.2 CLO.out).mono ?_
       rintro e w1 ⟨ad', cap', rfl, ho, hb⟩
       have HO1 := Lib.hid ho
       have HB1 := Lib.hid hb
       have d1 := keep hb BX.out
       have d2 := keep hb C0.out
       have hBl1 := World.block_lt_of_cell? _ _ d1
       clear ho hb)
    | (gi_at_call 36
       refine (callsIn_wide.2 (rev_own HO1.out HB1.out hLn)).mono ?_
       rintro e w2 ⟨rfl, ho, hb⟩
       have HO2 := Lib.hid ho
       have HB2 := Lib.hid hb
       clear ho hb))
  obtain ⟨q1, q2⟩ := row_start HB2.out HBB.out HROW.out HO2.out.2.2
  have Q1 := Lib.hid q1
  have Q2 := Lib.hid q2
  clear q1 q2
  gi_loopw [24] (fun a wr => ∃ i : Nat, a = i64 i ∧ i ≤ m ∧ J ((L.reverse).take i) wr ∧ Sl wr 51 2 (.slice ad' m cap') m (cells2 (L.reverse)) ∧ (wr.cell? ⟨Bb, 0, none⟩).isSome = true ∧ ∀ b, (Value.slice ad' m cap').ownBlock = some b → b ≠ Bb ∧ ¬ RowOf wr Bb b) (fun a _ => m - (intOf a).toNat)
  case atStart => exact ⟨0, rfl, by omega, abides_below HJ.out H0.out HB2.out, HO2.out.2.1, Q1.out, Q2.out⟩
  case round =>
    obtain ⟨i, rfl, hi, hj, hs, r1, r2⟩ := hrel
    have HJJ := Lib.hid hj
    have HS := Lib.hid hs
    have R1 := Lib.hid r1
    have R2 := Lib.hid r2
    clear hj r1 r2
    by_cases hlt : i < m
    · have hlt' : (i : Int) < (m : Int) := by omega
      obtain ⟨t, ht⟩ : ∃ t, (L.reverse)[i]? = some t := ⟨_, List.getElem?_eq_getElem (by rw [List.length_reverse, HL.out]; exact hlt)⟩
      obtain ⟨b, off, cap3, hv3, hbl, _, _, _, hc, _⟩ := hs.at (by omega)
      simp only [Value.slice.injEq, true_and] at hv3
      obtain ⟨rfl, rfl⟩ := hv3
      have x1 : wr.cell? ⟨b, off + i * 2, none⟩ = some (.int .u64 t.1) := (hc _ (by omega)).trans (cells2_0 ht)
      have x2 : wr.cell? ⟨b, off + i * 2 + 1, none⟩ = some (.int .u64 t.2) := (hc (i * 2 + 1) (by omega)).trans (cells2_1 ht)
      have hbA : Below wr.heap.size wr (wr.alloc (.cells #[.int .u64 t.1, .int .u64 t.2] 51)) := by go_grown
      have hcA : (wr.alloc (.cells #[.int .u64 t.1, .int .u64 t.2] 51)).cell? ⟨Bb, 0, none⟩ = wr.cell? ⟨Bb, 0, none⟩ := hbA.cell (p := ⟨Bb, 0, none⟩) (cell_lt R1.out)
      have hr1 : ((wr.alloc (.cells #[.int .u64 t.1, .int .u64 t.2] 51)).cell? ⟨Bb, 0, none⟩).isSome = true := by rw [hcA]; exact R1.out
      have hr2 : ∀ b', (Value.slice (some ⟨b, off, none⟩) m cap').ownBlock = some b' → b' ≠ Bb ∧ ¬ RowOf (wr.alloc (.cells #[.int .u64 t.1, .int .u64 t.2] 51)) Bb b' := fun b' hb' => ⟨(R2.out b' hb').1, fun ⟨u, u1, u2⟩ => (R2.out b' hb').2 ⟨u, by rw [← hcA]; exact u1, u2⟩⟩
      have HSA := Lib.hid (HS.out.below hbA)
      have HR1 := Lib.hid hr1
      have HR2 := Lib.hid hr2
      have HT := Lib.hid ht
      obtain ⟨fn, tmps, assign, body, hy, hR⟩ := HY.out ((L.reverse).take i) t _ (abides_below HJ.out HJJ.out hbA) (by rw [List.length_take, List.length_reverse, HL.out]; have := HL.out; omega)
      dsimp only [thV] at hy
      have HR := Lib.hid hR
      clear hc ht hbA hcA hr1 hr2 hs hR
      gi_wp2
      refine HR.out.mono ?_
      rintro e W3 (⟨rfl, hJ3, hk3⟩ | ⟨rfl, hJx3⟩)
      · have S3 := Lib.hid (HSA.out.kb hk3 HR1.out HR2.out)
        have K3 := Lib.hid (row_kb HSA.out hk3 HR1.out HR2.out)
        have J3 := Lib.hid hJ3
        clear hJ3 hk3
        gi_wp2
        go_roundw
        case rel => exact ⟨i + 1, by first | rfl | simp, by omega, by rw [take_snoc HT.out]; exact J3.out, S3.out, K3.out.1, K3.out.2⟩
        case measure => simp [intOf]; omega
      · have J3 := Lib.hid hJx3
        clear hJx3
        gi_wp2
        refine bodyPost_ret (results_none rfl _ _ _) rfl ?_
        exact ⟨⟨_, rfl⟩, .inr ⟨_, ⟨(L.reverse).drop (i + 1), by rw [← take_snoc HT.out, List.take_append_drop]⟩, J3.out⟩⟩
    · have hge : (m : Int) ≤ (i : Int) := by omega
      obtain rfl : i = m := by omega
      clear hs
      gi_wp2
      go_end0
      refine ⟨⟨_, rfl⟩, .inl ⟨_, rfl, ?_⟩⟩
      have := HJJ.out
      rwa [List.take_of_length_le (by rw [List.length_reverse, HL.out]; exact Nat.le_refl _)] at this

/-- An object's All gives, to whatever loop keeps its word, its things in their order. -/
theorem all_stops (n : Nat) (hn : 1 ≤ n) (Bx X H Bb : Nat) (v : Value) (c : Int) (L : List Th) (w : World) (hBx : w.cell? ⟨Bx, 0, none⟩ = some (P X)) (hO : Ob w X H v c L) (hLn : L.length ≤ 1000) (hBb : (w.cell? ⟨Bb, 0, none⟩).isSome = true) (hrow : ∀ k, RowOf w Bb k → k < w.heap.size) :
    SeqStopsK Fence.wide n Try.prog 35 #[P Bx] (fun x : Th => #[thV x]) (Kb Bb) (fun ys => ys = tell c L) (fun pre => pre <+: tell c L) L.length w := fun l J Jx W hW hJ _ hY h0 => by
  have hc : W.cell? ⟨Bb, 0, none⟩ = w.cell? ⟨Bb, 0, none⟩ := hW.cell (p := ⟨Bb, 0, none⟩) (cell_lt hBb)
  have h1 : (W.cell? ⟨Bb, 0, none⟩).isSome = true := by rw [hc]; exact hBb
  have h2 : ∀ k, RowOf W Bb k → k < W.heap.size := fun k ⟨u, u1, u2⟩ => Nat.lt_of_lt_of_le (hrow k ⟨u, by rw [← hc]; exact u1, u2⟩) hW.size
  unfold tell
  by_cases hc1 : c = 1
  · rw [if_pos hc1]
    exact all1_st n hn l Bx X H Bb v c L J Jx W hJ hY (keep hW hBx) (hO.below hW) hLn h1 h2 h0 hc1
  · rw [if_neg hc1]
    exact all1_in n hn l Bx X H Bb v c L J Jx W hJ hY (keep hW hBx) (hO.below hW) hLn h1 h2 h0 (by simp [hc1])
end Go.Proofs.Ytphfcfnbefikiaa
