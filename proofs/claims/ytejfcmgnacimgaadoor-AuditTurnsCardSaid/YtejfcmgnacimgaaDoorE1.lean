/- What the laws' arguments read as: facts, an event, a slice of events. -/
import Derived.Test.YtejfcmgnacimgaaDoorD1
import Derived.Deep.Slices
import Derived.Deep.Fields
namespace Go.Proofs.YtejfcmgnacimgaaDoor
open Go.ChangeShapes Go.WideShapes Go.Deep Go.RowKit
set_option linter.unusedVariables false
set_option linter.unusedSimpArgs false

/-- Field i is of type t, at o. -/
def Fld (fs : Array Field) (i t o : Nat) : Prop := ∃ f, fs[i]? = some f ∧ f.type = t ∧ f.offset = o

theorem flds24 : ∃ fs, Tryd.prog.underlying 24 = some (.struct fs) ∧ fs.size = 3 ∧ Fld fs 0 3 0 ∧ Fld fs 1 3 1 ∧ Fld fs 2 22 2 :=
  ⟨_, Tryd.underlying24, rfl, ⟨_, rfl, rfl, rfl⟩, ⟨_, rfl, rfl, rfl⟩, ⟨_, rfl, rfl, rfl⟩⟩
theorem flds54 : ∃ fs, Tryd.prog.underlying 54 = some (.struct fs) ∧ fs.size = 9 ∧ Fld fs 0 3 0 ∧ Fld fs 1 3 1 ∧ Fld fs 2 52 2 ∧ Fld fs 3 46 3 ∧ Fld fs 4 3 4 ∧ Fld fs 5 48 5 ∧ Fld fs 6 48 6 ∧ Fld fs 7 4 7 ∧ Fld fs 8 51 8 :=
  ⟨_, Tryd.underlying54, rfl, ⟨_, rfl, rfl, rfl⟩, ⟨_, rfl, rfl, rfl⟩, ⟨_, rfl, rfl, rfl⟩, ⟨_, rfl, rfl, rfl⟩, ⟨_, rfl, rfl, rfl⟩, ⟨_, rfl, rfl, rfl⟩, ⟨_, rfl, rfl, rfl⟩, ⟨_, rfl, rfl, rfl⟩, ⟨_, rfl, rfl, rfl⟩⟩
theorem flds51 : ∃ fs, Tryd.prog.underlying 51 = some (.struct fs) ∧ fs.size = 8 ∧ Fld fs 0 47 0 ∧ Fld fs 1 3 1 ∧ Fld fs 2 3 2 ∧ Fld fs 3 3 3 ∧ Fld fs 4 3 4 ∧ Fld fs 5 3 5 ∧ Fld fs 6 48 6 ∧ Fld fs 7 49 7 :=
  ⟨_, Tryd.underlying51, rfl, ⟨_, rfl, rfl, rfl⟩, ⟨_, rfl, rfl, rfl⟩, ⟨_, rfl, rfl, rfl⟩, ⟨_, rfl, rfl, rfl⟩, ⟨_, rfl, rfl, rfl⟩, ⟨_, rfl, rfl, rfl⟩, ⟨_, rfl, rfl, rfl⟩, ⟨_, rfl, rfl, rfl⟩⟩
theorem cells1 : ∀ t ∈ [3, 4, 46, 47, 48, 49, 52], Tryd.prog.cellsOf t = 1 := by
  intro t ht
  simp at ht
  rcases ht with rfl | rfl | rfl | rfl | rfl | rfl | rfl <;> kernel_rfl
theorem cells24 : Tryd.prog.cellsOf 24 = 4 := by kernel_rfl
theorem cells22 : Tryd.prog.cellsOf 22 = 2 := by kernel_rfl
theorem cells51 : Tryd.prog.cellsOf 51 = 8 := by kernel_rfl
theorem cells54 : Tryd.prog.cellsOf 54 = 16 := by kernel_rfl

section
variable {H : Type} {enc : TypeId × Value → H} {w : World} {base : Nat} {spare : Nat → Bool} {held : Bool}

theorem fld_at {fs : Array Field} {i t o c n : Nat} {cs : List Value} {xs : List (DataW H × List MemPlace)} (hg : ∀ (i : Nat) (f : Field), fs[i]? = some f → DataW.trod enc Tryd.prog w base spare held n f.type ((cs.drop f.offset).take (Tryd.prog.cellsOf f.type)) = xs[i]?)
    (hf : Fld fs i t o) (hc : Tryd.prog.cellsOf t = c) (hx : i < xs.length) : DataW.trod enc Tryd.prog w base spare held n t ((cs.drop o).take c) = some (xs[i]'hx) := by
  obtain ⟨f, h1, rfl, rfl⟩ := hf
  rw [← hc, hg i f h1]
  exact List.getElem?_eq_getElem hx

set_option maxRecDepth 100000 in
theorem open_facts {b0 : Nat} {v : Value} {d : DataW H} {p : List MemPlace} (hv : Value.okWide Tryd.prog w .any b0 24 v) (h : DataW.Trod enc Tryd.prog w base spare held 24 v d p) : ∃ T B a b : Int, v = facts T B a b ∧ (Lit.int .i64 B).wf = true := by
  obtain ⟨fs, hfs, hsz3, l0, l1, l2⟩ := flds24
  obtain ⟨cs, rfl, hsz⟩ := okWide_struct hfs hv
  obtain ⟨l⟩ := cs
  match l, hsz.trans cells24 with
  | [c0, c1, c2, c3], _ =>
    obtain ⟨fuel, hf⟩ := h
    obtain ⟨xs, n, _, hx, _, hlen, hg⟩ := DataW.trod_struct hfs hf
    rw [hsz3] at hlen
    have g0 := fld_at hg l0 (cells1 3 (by simp)) (by omega)
    have g1 := fld_at hg l1 (cells1 3 (by simp)) (by omega)
    have g2 := fld_at hg l2 cells22 (by omega)
    obtain ⟨T, e0, -, -⟩ := DataW.trod_int Tryd.underlying3 g0
    obtain ⟨B, e1, -, wB⟩ := DataW.trod_int Tryd.underlying3 g1
    obtain ⟨ys, k, _, -, -, hl2, hy⟩ := DataW.trod_array Tryd.underlying22 g2
    have z0 := hy 0 (by decide)
    have z1 := hy 1 (by decide)
    rw [cells1 3 (by simp)] at z0 z1
    rw [List.getElem?_eq_getElem (by omega)] at z0 z1
    obtain ⟨a, e2, -, -⟩ := DataW.trod_int Tryd.underlying3 z0
    obtain ⟨b, e3, -, -⟩ := DataW.trod_int Tryd.underlying3 z1
    refine ⟨T, B, a, b, ?_, wB⟩
    simp [Value.cells] at e0 e1 e2 e3
    rw [e0, e1, e2, e3]
    rfl


set_option maxRecDepth 100000 in
theorem open_event {fuel : Nat} {cs : List Value} {x : DataW H × List MemPlace} (h : DataW.trod enc Tryd.prog w base spare held fuel 54 cs = some x) (hl : cs.length = 16) : ∃ e : Ev, cs = (evCells e).toList ∧ e.Ok := by
  obtain ⟨fs, hfs, hsz9, l0, l1, l2, l3, l4, l5, l6, l7, l8⟩ := flds54
  obtain ⟨gs, hgs, hsz8, m0, m1, m2, m3, m4, m5, m6, m7⟩ := flds51
  match cs, hl with
  | [c0, c1, c2, c3, c4, c5, c6, c7, c8, c9, c10, c11, c12, c13, c14, c15], _ =>
    obtain ⟨xs, n, _, hx, _, hlen, hg⟩ := DataW.trod_struct hfs h
    rw [hsz9] at hlen
    obtain ⟨seq, e0, -, -⟩ := DataW.trod_int Tryd.underlying3 (fld_at hg l0 (cells1 3 (by simp)) (by omega))
    obtain ⟨th, e1, -, w1⟩ := DataW.trod_int Tryd.underlying3 (fld_at hg l1 (cells1 3 (by simp)) (by omega))
    obtain ⟨by_, e2, -, -⟩ := DataW.trod_int Tryd.underlying52 (fld_at hg l2 (cells1 52 (by simp)) (by omega))
    obtain ⟨kind, e3, -, -⟩ := DataW.trod_int Tryd.underlying46 (fld_at hg l3 (cells1 46 (by simp)) (by omega))
    obtain ⟨at_, e4, -, w4⟩ := DataW.trod_int Tryd.underlying3 (fld_at hg l4 (cells1 3 (by simp)) (by omega))
    obtain ⟨old, e5, -, -⟩ := DataW.trod_int Tryd.underlying48 (fld_at hg l5 (cells1 48 (by simp)) (by omega))
    obtain ⟨new, e6, -, w6⟩ := DataW.trod_int Tryd.underlying48 (fld_at hg l6 (cells1 48 (by simp)) (by omega))
    obtain ⟨ok, e7, -⟩ := DataW.trod_bool Tryd.underlying4 (fld_at hg l7 (cells1 4 (by simp)) (by omega))
    obtain ⟨ys, k, _, hy, _, hlen2, hh⟩ := DataW.trod_struct hgs (fld_at hg l8 cells51 (by omega))
    rw [hsz8] at hlen2
    obtain ⟨nk, f0, -, -⟩ := DataW.trod_int Tryd.underlying47 (fld_at hh m0 (cells1 47 (by simp)) (by omega))
    obtain ⟨slot, f1, -, -⟩ := DataW.trod_int Tryd.underlying3 (fld_at hh m1 (cells1 3 (by simp)) (by omega))
    obtain ⟨life, f2, -, -⟩ := DataW.trod_int Tryd.underlying3 (fld_at hh m2 (cells1 3 (by simp)) (by omega))
    obtain ⟨guard, f3, -, -⟩ := DataW.trod_int Tryd.underlying3 (fld_at hh m3 (cells1 3 (by simp)) (by omega))
    obtain ⟨read, f4, -, -⟩ := DataW.trod_int Tryd.underlying3 (fld_at hh m4 (cells1 3 (by simp)) (by omega))
    obtain ⟨cls, f5, -, -⟩ := DataW.trod_int Tryd.underlying3 (fld_at hh m5 (cells1 3 (by simp)) (by omega))
    obtain ⟨nn, f6, -, -⟩ := DataW.trod_int Tryd.underlying48 (fld_at hh m6 (cells1 48 (by simp)) (by omega))
    obtain ⟨code, f7, -, -⟩ := DataW.trod_int Tryd.underlying49 (fld_at hh m7 (cells1 49 (by simp)) (by omega))
    refine ⟨⟨seq, th, by_, kind, at_, old, new, ok, nk, slot, life, guard, read, cls, nn, code⟩, ?_, w1, ?_, ?_⟩
    · simp at e0 e1 e2 e3 e4 e5 e6 e7 f0 f1 f2 f3 f4 f5 f6 f7
      rw [e0, e1, e2, e3, e4, e5, e6, e7, f0, f1, f2, f3, f4, f5, f6, f7]
      rfl
    · have := i64_of w4; simp only; omega
    · have := u64_of w6; simp only; omega

instance : Inhabited Ev := ⟨⟨0, 0, 0, 0, 0, 0, 0, false, 0, 0, 0, 0, 0, 0, 0, 0⟩⟩

/-- A slice of events. -/
theorem open_events {fuel : Nat} {cs : List Value} {x : DataW H × List MemPlace} (h : DataW.trod enc Tryd.prog w base spare held fuel 39 cs = some x) :
    cs = [.slice none 0 0] ∨ ∃ (ad : Addr) (len cap : Nat) (es : List Ev), cs = [.slice (some ad) len cap] ∧ len ≤ cap ∧ cap ≤ maxLen ∧ es.length = len ∧ (∀ e ∈ es, e.Ok) ∧ EvsIn (some ad) es w := by
  rcases open_slice Tryd.underlying39 h with ⟨h0, -⟩ | ⟨a, len, cap, m, n, D, Pl, hcs, hb, hl, hm, hmm, hx, hi⟩
  · exact Or.inl h0
  · right
    have hlm : len ≤ m := by rw [hmm]; split <;> omega
    rw [cells54] at hi
    have hev : ∀ i, i < len → ∃ e : Ev, e.Ok ∧ ∀ k, k < 16 → w.cell? (a.add (i * 16 + k)) = (evCells e).toList[k]? := by
      intro i hil
      obtain ⟨cs', hc, ht⟩ := hi i (by omega)
      obtain ⟨_, hcl, hat⟩ := World.cells?_some hc
      obtain ⟨e, he1, he2⟩ := open_event ht hcl
      refine ⟨e, he2, fun k hk => ?_⟩
      rw [← add_add, hat k hk, he1]
    obtain ⟨V, hV⟩ := choose_lt hev
    refine ⟨a, len, cap, (List.range len).map V, hcs, hl, hm, by simp, ?_, ?_⟩
    · intro e he
      obtain ⟨i, hi1, rfl⟩ := List.mem_map.1 he
      exact (hV i (List.mem_range.1 hi1)).1
    · intro j e hj
      have hjl : j < len := by
        have := (List.getElem?_eq_some_iff.1 hj).1
        simpa using this
      have hje : V j = e := by simpa [hjl] using hj
      have hc := (hV j hjl).2
      rw [hje] at hc
      have h0 := (hV 0 (by omega)).2 0 (by decide)
      have hsp : a.spot = none := by
        cases hs : a.spot with
        | none => rfl
        | some q =>
          exfalso
          have ha0 : a.add (0 * 16 + 0) = a := by simp [Addr.add]
          rw [ha0] at h0
          have : w.cell? a = none := by
            unfold World.cell?
            split
            · simp [hs]
            · rfl
          rw [this] at h0
          simp [evCells] at h0
      refine ⟨a.block, a.off, by rw [← hsp], fun k v hk => ?_⟩
      have hk16 : k < 16 := by
        have := (Array.getElem?_eq_some_iff.1 hk).1
        simpa [evCells] using this
      have := hc k hk16
      have hadd : a.add (j * 16 + k) = ⟨a.block, a.off + j * 16 + k, none⟩ := by
        unfold Addr.add
        split
        · rename_i hz
          have : j * 16 = 0 := by omega
          have : k = 0 := by omega
          simp [*]
          rw [← hsp]
        · simp [Nat.add_assoc]
      rw [hadd] at this
      rw [this]
      simpa using hk
end
end Go.Proofs.YtejfcmgnacimgaaDoor
