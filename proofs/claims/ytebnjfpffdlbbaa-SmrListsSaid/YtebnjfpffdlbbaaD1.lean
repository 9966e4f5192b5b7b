/- How a walk that makes only new memory meets a law's post; what a configuration, a slot that was retired, and a slice of guards read as. -/
import Derived.Test.YtebnjfpffdlbbaaA4
import Derived.ProofKit
import Derived.OpenShut
import Derived.Carry
import Derived.Deep.Slices
import Derived.Deep.Fields
namespace Go.Proofs.Ytebnjfpffdlbbaa
open Go.ChangeShapes Go.WideShapes Go.ChangeAt Go.WideMaps Go.WideElems Go.Deep Go.RowKit
set_option linter.unusedVariables false
set_option linter.unusedSimpArgs false

theorem own : ownKnob Try.prog.godebug = none := by kernel_rfl
theorem laidOut : laidOutB Try.prog = true := by kernel_rfl

theorem post_kept {H : Type} {enc : TypeId × Value → H} {P : Program} {f : Func} {s : ChangeSpec} {apart fresh handsOn : Bool} {W W' : World} {args : Array Value} {v : Value} {ds gs : List (DataW H)} {before pa : List MemPlace}
    (hW : DataW.Whole enc P f.params.toList s.vars apart W args.toList ds gs before)
    (hres : ∀ (b : Nat) (sp : Nat → Bool) (hd : Bool), DataW.TrodAll enc P W' b sp hd f.resultTypes.toList (v.resultList f.resultTypes.size) (s.fn H (ds ++ gs)).results [])
    (hargs : DataW.TrodAll enc P W' 0 (fun b => decide (b < W.heap.size)) true f.params.toList args.toList (s.fn H (ds ++ gs)).args pa)
    (hvars : ∀ sp : Nat → Bool, DataW.TrodVars enc P W' sp s.vars (s.fn H (ds ++ gs)).vars [])
    (hb : Below W.heap.size W W') :
    s.post enc P f apart fresh handsOn false W args v W' :=
  ⟨ds, gs, before, [], pa, [], hW, hres _ _ _, hargs, hvars _, hb.frame _, fun h => nomatch h⟩

theorem u64_of {a : Int} (w : (Lit.int .u64 a).wf = true) : 0 ≤ a ∧ a < 18446744073709551616 := by
  have h1 : IntKind.u64.min = 0 := by decide +kernel
  have h2 : IntKind.u64.max = 18446744073709551615 := by decide +kernel
  simp [Lit.wf, h1, h2] at w
  omega
theorem i64_of {a : Int} (w : (Lit.int .i64 a).wf = true) : -9223372036854775808 ≤ a ∧ a < 9223372036854775808 := by
  have h1 : IntKind.i64.min = -9223372036854775808 := by decide +kernel
  have h2 : IntKind.i64.max = 9223372036854775807 := by decide +kernel
  simp [Lit.wf, h1, h2] at w
  omega

/-- Field i is of type t, at o. -/
def Fld (fs : Array Field) (i t o : Nat) : Prop := ∃ f, fs[i]? = some f ∧ f.type = t ∧ f.offset = o

theorem flds25 : ∃ fs, Try.prog.underlying 25 = some (.struct fs) ∧ fs.size = 6 ∧ Fld fs 0 3 0 ∧ Fld fs 1 22 1 ∧ Fld fs 2 3 3 ∧ Fld fs 3 3 4 ∧ Fld fs 4 3 5 ∧ Fld fs 5 23 6 :=
  ⟨_, Try.underlying25, rfl, ⟨_, rfl, rfl, rfl⟩, ⟨_, rfl, rfl, rfl⟩, ⟨_, rfl, rfl, rfl⟩, ⟨_, rfl, rfl, rfl⟩, ⟨_, rfl, rfl, rfl⟩, ⟨_, rfl, rfl, rfl⟩⟩
theorem flds30 : ∃ fs, Try.prog.underlying 30 = some (.struct fs) ∧ fs.size = 3 ∧ Fld fs 0 23 0 ∧ Fld fs 1 23 1 ∧ Fld fs 2 23 2 :=
  ⟨_, Try.underlying30, rfl, ⟨_, rfl, rfl, rfl⟩, ⟨_, rfl, rfl, rfl⟩, ⟨_, rfl, rfl, rfl⟩⟩
theorem cells3 : Try.prog.cellsOf 3 = 1 := by kernel_rfl
theorem cells23 : Try.prog.cellsOf 23 = 1 := by kernel_rfl
theorem cells22 : Try.prog.cellsOf 22 = 2 := by kernel_rfl
theorem cells25 : Try.prog.cellsOf 25 = 7 := by kernel_rfl
theorem cells30 : Try.prog.cellsOf 30 = 3 := by kernel_rfl

section
variable {H : Type} {enc : TypeId × Value → H} {w : World} {base : Nat} {spare : Nat → Bool} {held : Bool}

theorem fld_at {fs : Array Field} {i t o c n : Nat} {cs : List Value} {xs : List (DataW H × List MemPlace)} (hg : ∀ (i : Nat) (f : Field), fs[i]? = some f → DataW.trod enc Try.prog w base spare held n f.type ((cs.drop f.offset).take (Try.prog.cellsOf f.type)) = xs[i]?)
    (hf : Fld fs i t o) (hc : Try.prog.cellsOf t = c) (hx : i < xs.length) : DataW.trod enc Try.prog w base spare held n t ((cs.drop o).take c) = some (xs[i]'hx) := by
  obtain ⟨f, h1, rfl, rfl⟩ := hf
  rw [← hc, hg i f h1]
  exact List.getElem?_eq_getElem hx

set_option maxRecDepth 100000 in
theorem open_cfg {b0 : Nat} {v : Value} {d : DataW H} {p : List MemPlace} (hv : Value.okWide Try.prog w .any b0 25 v) (h : DataW.Trod enc Try.prog w base spare held 25 v d p) : ∃ t a b th ca st er : Int, v = cfg t a b th ca st er := by
  obtain ⟨fs, hfs, hsz3, l0, l1, l2, l3, l4, l5⟩ := flds25
  obtain ⟨cs, rfl, hsz⟩ := okWide_struct hfs hv
  obtain ⟨l⟩ := cs
  match l, hsz.trans cells25 with
  | [c0, c1, c2, c3, c4, c5, c6], _ =>
    obtain ⟨fuel, hf⟩ := h
    obtain ⟨xs, n, _, hx, _, hlen, hg⟩ := DataW.trod_struct hfs hf
    rw [hsz3] at hlen
    obtain ⟨t, e0, -, -⟩ := DataW.trod_int Try.underlying3 (fld_at hg l0 cells3 (by omega))
    obtain ⟨ys, k, _, -, -, hl2, hy⟩ := DataW.trod_array Try.underlying22 (fld_at hg l1 cells22 (by omega))
    have z0 := hy 0 (by decide)
    have z1 := hy 1 (by decide)
    rw [cells3] at z0 z1
    rw [List.getElem?_eq_getElem (by omega)] at z0 z1
    obtain ⟨a, e1, -, -⟩ := DataW.trod_int Try.underlying3 z0
    obtain ⟨b, e2, -, -⟩ := DataW.trod_int Try.underlying3 z1
    obtain ⟨th, e3, -, -⟩ := DataW.trod_int Try.underlying3 (fld_at hg l2 cells3 (by omega))
    obtain ⟨ca, e4, -, -⟩ := DataW.trod_int Try.underlying3 (fld_at hg l3 cells3 (by omega))
    obtain ⟨st, e5, -, -⟩ := DataW.trod_int Try.underlying3 (fld_at hg l4 cells3 (by omega))
    obtain ⟨er, e6, -, -⟩ := DataW.trod_int Try.underlying23 (fld_at hg l5 cells23 (by omega))
    refine ⟨t, a, b, th, ca, st, er, ?_⟩
    simp [Value.cells] at e0 e1 e2 e3 e4 e5 e6
    rw [e0, e1, e2, e3, e4, e5, e6]
    rfl

set_option maxRecDepth 100000 in
theorem open_old3 {fuel : Nat} {cs : List Value} {x : DataW H × List MemPlace} (h : DataW.trod enc Try.prog w base spare held fuel 30 cs = some x) (hl : cs.length = 3) : ∃ h b s : Int, cs = [.int .u64 h, .int .u64 b, .int .u64 s] ∧ (0 ≤ h ∧ h < 18446744073709551616) ∧ (0 ≤ b ∧ b < 18446744073709551616) ∧ (0 ≤ s ∧ s < 18446744073709551616) := by
  obtain ⟨fs, hfs, hsz3, l0, l1, l2⟩ := flds30
  match cs, hl with
  | [c0, c1, c2], _ =>
    obtain ⟨xs, n, _, hx, _, hlen, hg⟩ := DataW.trod_struct hfs h
    rw [hsz3] at hlen
    obtain ⟨h, e0, -, w0⟩ := DataW.trod_int Try.underlying23 (fld_at hg l0 cells23 (by omega))
    obtain ⟨b, e1, -, w1⟩ := DataW.trod_int Try.underlying23 (fld_at hg l1 cells23 (by omega))
    obtain ⟨s, e2, -, w2⟩ := DataW.trod_int Try.underlying23 (fld_at hg l2 cells23 (by omega))
    refine ⟨h, b, s, ?_, u64_of w0, u64_of w1, u64_of w2⟩
    simp at e0 e1 e2
    rw [e0, e1, e2]

set_option maxRecDepth 100000 in
theorem open_old {b0 : Nat} {v : Value} {d : DataW H} {p : List MemPlace} (hv : Value.okWide Try.prog w .any b0 30 v) (hd : DataW.Trod enc Try.prog w base spare held 30 v d p) : ∃ h b s : Int, v = .agg #[.int .u64 h, .int .u64 b, .int .u64 s] ∧ (0 ≤ h ∧ h < 18446744073709551616) ∧ (0 ≤ b ∧ b < 18446744073709551616) ∧ (0 ≤ s ∧ s < 18446744073709551616) := by
  obtain ⟨fs, hfs, -⟩ := flds30
  obtain ⟨cs, rfl, hsz⟩ := okWide_struct hfs hv
  obtain ⟨fuel, hf⟩ := hd
  obtain ⟨h, b, s, e, r⟩ := open_old3 (cs := cs.toList) (by simpa [Value.cells] using hf) (by simpa using hsz.trans cells30)
  refine ⟨h, b, s, ?_, r⟩
  congr 1
  apply Array.ext'
  simpa using e

theorem slice_one {y x : Option Addr} {m d l c : Nat} (h : (Value.slice y m d).cells.toList = [.slice x l c]) : y = x ∧ m = l ∧ d = c := by
  simpa [Value.cells] using h

/-- Cell k of element i, at whatever address. -/
theorem spot_none {a : Addr} {v : Value} (h : w.cell? a = some v) : a.spot = none := by
  cases hs : a.spot with
  | none => rfl
  | some q =>
    exfalso
    have : w.cell? a = none := by
      unfold World.cell?
      split
      · simp [hs]
      · rfl
    rw [this] at h
    cases h
theorem add_spot {a : Addr} (hs : a.spot = none) (k : Nat) : a.add k = ⟨a.block, a.off + k, none⟩ := by
  unfold Addr.add
  split
  · rename_i hz
    subst hz
    rw [← hs]
    rfl
  · rfl

theorem open_gs {fuel : Nat} {y0 : Option Addr} {y1 y2 : Nat} {x : DataW H × List MemPlace} (h : DataW.trod enc Try.prog w base spare held fuel 31 (Value.slice y0 y1 y2).cells.toList = some x) :
    ∃ gs : List Int, gs.length = y1 ∧ y1 ≤ 9223372036854775807 ∧ GsIn y0 gs w := by
  rcases open_slice Try.underlying31 h with ⟨h0, -⟩ | ⟨a, len, cap, m, n, D, Pl, hcs, hb, hl, hm, hmm, hx, hi⟩
  · obtain ⟨rfl, rfl, rfl⟩ := slice_one h0
    exact ⟨[], rfl, by omega, fun i hi => by cases hi⟩
  · obtain ⟨rfl, rfl, rfl⟩ := slice_one hcs
    have hlm : y1 ≤ m := by rw [hmm]; split <;> omega
    rw [cells23] at hi
    have hev : ∀ i, i < y1 → ∃ e : Int, w.cell? (a.add i) = some (.int .u64 e) := by
      intro i hil
      obtain ⟨cs', hc, ht⟩ := hi i (by omega)
      obtain ⟨_, hcl, hat⟩ := World.cells?_some hc
      match cs', hcl with
      | [c0], _ =>
        obtain ⟨e, e0, -, -⟩ := DataW.trod_int Try.underlying23 ht
        refine ⟨e, ?_⟩
        have := hat 0 (by decide)
        rw [e0] at this
        have ha : (a.add (i * 1)).add 0 = a.add i := by rw [add_add]; simp
        rw [ha] at this
        simpa using this
    obtain ⟨V, hV⟩ := choose_lt hev
    refine ⟨(List.range y1).map V, by simp, by unfold maxLen at hm; omega, fun i hi' => ?_⟩
    have hil : i < y1 := by simpa using hi'
    have h0 := hV 0 (by omega)
    have ha0 : a.add 0 = a := by simp [Addr.add]
    rw [ha0] at h0
    have hs := spot_none h0
    refine ⟨a.block, a.off, by rw [← hs], ?_⟩
    have := hV i hil
    rw [add_spot hs] at this
    rw [this]
    simp
end
end Go.Proofs.Ytebnjfpffdlbbaa
