/- What a thing, a call, a slice of things and a slice of calls read as. -/
import Derived.Test.YtphfcfnbefikiaaG1
import Derived.Test.YtphfcfnbefikiaaF1
namespace Go.Proofs.Ytphfcfnbefikiaa
open Go.ChangeShapes Go.WideShapes Go.ChangeAt Go.WideMaps Go.WideElems Go.Deep Go.RowKit
set_option linter.unusedVariables false
set_option linter.unusedSimpArgs false

/-- Field i is of type t, at o. -/
def Fld (fs : Array Field) (i t o : Nat) : Prop := ∃ f, fs[i]? = some f ∧ f.type = t ∧ f.offset = o

theorem flds51 : ∃ fs, Try.prog.underlying 51 = some (.struct fs) ∧ fs.size = 2 ∧ Fld fs 0 38 0 ∧ Fld fs 1 38 1 :=
  ⟨_, Try.underlying51, rfl, ⟨_, rfl, rfl, rfl⟩, ⟨_, rfl, rfl, rfl⟩⟩
theorem flds47 : ∃ fs, Try.prog.underlying 47 = some (.struct fs) ∧ fs.size = 3 ∧ Fld fs 0 33 0 ∧ Fld fs 1 38 1 ∧ Fld fs 2 38 2 :=
  ⟨_, Try.underlying47, rfl, ⟨_, rfl, rfl, rfl⟩, ⟨_, rfl, rfl, rfl⟩, ⟨_, rfl, rfl, rfl⟩⟩
theorem cells33' : Try.prog.cellsOf 33 = 1 := by kernel_rfl
theorem cells38' : Try.prog.cellsOf 38 = 1 := by kernel_rfl
theorem cells51' : Try.prog.cellsOf 51 = 2 := by kernel_rfl
theorem cells47' : Try.prog.cellsOf 47 = 3 := by kernel_rfl

section
variable {H : Type} {enc : TypeId × Value → H} {w : World} {base : Nat} {spare : Nat → Bool} {held : Bool}

theorem fld_at {fs : Array Field} {i t o c n : Nat} {cs : List Value} {xs : List (DataW H × List MemPlace)} (hg : ∀ (i : Nat) (f : Field), fs[i]? = some f → DataW.trod enc Try.prog w base spare held n f.type ((cs.drop f.offset).take (Try.prog.cellsOf f.type)) = xs[i]?)
    (hf : Fld fs i t o) (hc : Try.prog.cellsOf t = c) (hx : i < xs.length) : DataW.trod enc Try.prog w base spare held n t ((cs.drop o).take c) = some (xs[i]'hx) := by
  obtain ⟨f, h1, rfl, rfl⟩ := hf
  rw [← hc, hg i f h1]
  exact List.getElem?_eq_getElem hx

set_option maxRecDepth 100000 in
theorem open_thing2 {fuel : Nat} {cs : List Value} {x : DataW H × List MemPlace} (h : DataW.trod enc Try.prog w base spare held fuel 51 cs = some x) (hl : cs.length = 2) : ∃ t : Th, cs = [.int .u64 t.1, .int .u64 t.2] := by
  obtain ⟨fs, hfs, hsz3, l0, l1⟩ := flds51
  match cs, hl with
  | [c0, c1], _ =>
    obtain ⟨xs, n, _, hx, _, hlen, hg⟩ := DataW.trod_struct hfs h
    rw [hsz3] at hlen
    obtain ⟨h, e0, -, w0⟩ := DataW.trod_int Try.underlying38 (fld_at hg l0 cells38' (by omega))
    obtain ⟨b, e1, -, w1⟩ := DataW.trod_int Try.underlying38 (fld_at hg l1 cells38' (by omega))
    refine ⟨(h, b), ?_⟩
    simp at e0 e1
    rw [e0, e1]
set_option maxRecDepth 100000 in
theorem open_call3 {fuel : Nat} {cs : List Value} {x : DataW H × List MemPlace} (h : DataW.trod enc Try.prog w base spare held fuel 47 cs = some x) (hl : cs.length = 3) : ∃ t : Cl, cs = [.int .i64 t.1, .int .u64 t.2.1, .int .u64 t.2.2] ∧ (Lit.int .i64 t.1).wf = true := by
  obtain ⟨fs, hfs, hsz3, l0, l1, l2⟩ := flds47
  match cs, hl with
  | [c0, c1, c2], _ =>
    obtain ⟨xs, n, _, hx, _, hlen, hg⟩ := DataW.trod_struct hfs h
    rw [hsz3] at hlen
    obtain ⟨h, e0, -, w0⟩ := DataW.trod_int Try.underlying33 (fld_at hg l0 cells33' (by omega))
    obtain ⟨b, e1, -, w1⟩ := DataW.trod_int Try.underlying38 (fld_at hg l1 cells38' (by omega))
    obtain ⟨s, e2, -, w2⟩ := DataW.trod_int Try.underlying38 (fld_at hg l2 cells38' (by omega))
    refine ⟨(h, b, s), ?_, w0⟩
    simp at e0 e1 e2
    rw [e0, e1, e2]
set_option maxRecDepth 100000 in
theorem open_call {b0 : Nat} {v : Value} {d : DataW H} {p : List MemPlace} (hv : Value.okWide Try.prog w .any b0 47 v) (hd : DataW.Trod enc Try.prog w base spare held 47 v d p) : ∃ o k x : Int, v = .agg #[.int .i64 o, .int .u64 k, .int .u64 x] ∧ (Lit.int .i64 o).wf = true := by
  obtain ⟨fs, hfs, -⟩ := flds47
  obtain ⟨cs, rfl, hsz⟩ := okWide_struct hfs hv
  obtain ⟨fuel, hf⟩ := hd
  obtain ⟨t, e, r⟩ := open_call3 (cs := cs.toList) (by simpa [Value.cells] using hf) (by simpa using hsz.trans cells47')
  refine ⟨t.1, t.2.1, t.2.2, ?_, r⟩
  congr 1
  apply Array.ext'
  simpa using e

theorem slice_one {y x : Option Addr} {m d l c : Nat} (h : (Value.slice y m d).cells.toList = [.slice x l c]) : y = x ∧ m = l ∧ d = c := by
  simpa [Value.cells] using h

theorem spot_none {a : Addr} {v : Value} (h : w.cell? a = some v) : a.spot = none := by
  cases hs : a.spot with
  | none => rfl
  | some q =>
    exfalso
    have : w.cell? a = none := by
      unfold World.cell?
      split
      · simp [hs]
      · rfl
    rw [this] at h
    cases h
theorem add_spot {a : Addr} (hs : a.spot = none) (k : Nat) : a.add k = ⟨a.block, a.off + k, none⟩ := by
  unfold Addr.add
  split
  · rename_i hz
    subst hz
    rw [← hs]
    rfl
  · rfl

theorem open_ths {fuel : Nat} {y0 : Option Addr} {y1 y2 : Nat} {x : DataW H × List MemPlace} (h : DataW.trod enc Try.prog w base spare held fuel 22 (Value.slice y0 y1 y2).cells.toList = some x) :
    ∃ l : List Th, ThsIn y0 y1 l w ∧ y1 ≤ 9223372036854775807 := by
  rcases open_slice Try.underlying22 h with ⟨h0, -⟩ | ⟨a, len, cap, m, n, D, Pl, hcs, hb, hl, hm, hmm, hx, hi⟩
  · obtain ⟨rfl, rfl, rfl⟩ := slice_one h0
    exact ⟨[], nothing_in w, by omega⟩
  · obtain ⟨rfl, rfl, rfl⟩ := slice_one hcs
    have hlm : y1 ≤ m := by rw [hmm]; split <;> omega
    rw [cells51'] at hi
    have hev : ∀ i, i < y1 → ∃ o : Th, w.cell? ((a.add (i * 2)).add 0) = some (.int .u64 o.1) ∧ w.cell? ((a.add (i * 2)).add 1) = some (.int .u64 o.2) := by
      intro i hil
      obtain ⟨cs', hc, ht⟩ := hi i (by omega)
      obtain ⟨_, hcl, hat⟩ := World.cells?_some hc
      obtain ⟨t, e⟩ := open_thing2 ht hcl
      refine ⟨t, ?_, ?_⟩
      · rw [hat 0 (by omega), e]; rfl
      · rw [hat 1 (by omega), e]; rfl
    obtain ⟨G, hG⟩ := choose_lt hev
    refine ⟨(List.range y1).map G, ⟨by simp, fun i t ht => ?_⟩, by unfold maxLen at hm; omega⟩
    have hil : i < y1 := by
      have := (List.getElem?_eq_some_iff.1 ht).1
      simpa using this
    have ht' : G i = t := by
      rw [List.getElem?_map, List.getElem?_range hil] at ht
      simpa using ht
    have h00 := (hG 0 (by omega)).1
    rw [show (a.add (0 * 2)).add 0 = a by simp [Addr.add]] at h00
    have hs := spot_none h00
    obtain ⟨h0, h1⟩ := hG i hil
    rw [add_add, add_spot hs, ht'] at h0 h1
    exact ⟨a.block, a.off, by rw [← hs], h0, h1⟩
theorem open_calls {fuel : Nat} {y0 : Option Addr} {y1 y2 : Nat} {x : DataW H × List MemPlace} (h : DataW.trod enc Try.prog w base spare held fuel 23 (Value.slice y0 y1 y2).cells.toList = some x) :
    ∃ l : List Cl, CallsIn y0 y1 l w ∧ y1 ≤ 9223372036854775807 := by
  rcases open_slice Try.underlying23 h with ⟨h0, -⟩ | ⟨a, len, cap, m, n, D, Pl, hcs, hb, hl, hm, hmm, hx, hi⟩
  · obtain ⟨rfl, rfl, rfl⟩ := slice_one h0
    exact ⟨[], ⟨rfl, fun i t h => by simp at h⟩, by omega⟩
  · obtain ⟨rfl, rfl, rfl⟩ := slice_one hcs
    have hlm : y1 ≤ m := by rw [hmm]; split <;> omega
    rw [cells47'] at hi
    have hev : ∀ i, i < y1 → ∃ o : Cl, (Lit.int .i64 o.1).wf = true ∧ w.cell? ((a.add (i * 3)).add 0) = some (.int .i64 o.1) ∧ w.cell? ((a.add (i * 3)).add 1) = some (.int .u64 o.2.1) ∧ w.cell? ((a.add (i * 3)).add 2) = some (.int .u64 o.2.2) := by
      intro i hil
      obtain ⟨cs', hc, ht⟩ := hi i (by omega)
      obtain ⟨_, hcl, hat⟩ := World.cells?_some hc
      obtain ⟨t, e, r⟩ := open_call3 ht hcl
      refine ⟨t, r, ?_, ?_, ?_⟩
      · rw [hat 0 (by omega), e]; rfl
      · rw [hat 1 (by omega), e]; rfl
      · rw [hat 2 (by omega), e]; rfl
    obtain ⟨G, hG⟩ := choose_lt hev
    refine ⟨(List.range y1).map G, ⟨by simp, fun i t ht => ?_⟩, by unfold maxLen at hm; omega⟩
    have hil : i < y1 := by
      have := (List.getElem?_eq_some_iff.1 ht).1
      simpa using this
    have ht' : G i = t := by
      rw [List.getElem?_map, List.getElem?_range hil] at ht
      simpa using ht
    have h00 := (hG 0 (by omega)).2.1
    rw [show (a.add (0 * 3)).add 0 = a by simp [Addr.add]] at h00
    have hs := spot_none h00
    obtain ⟨hw, h0, h1, h2⟩ := hG i hil
    rw [add_add, add_spot hs, ht'] at h0 h1 h2
    rw [ht'] at hw
    exact ⟨hw, a.block, a.off, by rw [← hs], h0, h1, h2⟩
end
end Go.Proofs.Ytphfcfnbefikiaa
