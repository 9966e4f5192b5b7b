/- The document's own publish: of the slot that the thread owns. -/
import Derived.Test.YtejfcmgnacimgaaDoorT2
import Derived.Lib.SlFresh
namespace Go.Proofs.YtejfcmgnacimgaaDoor
open Go.RowKit
set_option linter.unusedVariables false
set_option linter.unusedSimpArgs false

def pubU (u : U) : U := ⟨upd (upd (upd u.s 0 2) 2 (-1)) 4 u.n, u.g, u.n⟩

section
variable {W S G : Nat} {B a b : Int} {cs cg : Nat} {u : U} {w : World}
theorem UAt.grown {w' : World} {o : Obj} {row : Option Nat} {base : Nat} (h : UAt W S G B a b cs cg u w) (hg : (w.alloc o).grownBy w' row) (hrow : ∀ k, row = some k → base ≤ k) (hW : W < base) (hS : S < base) (hG : G < base) (hbs : base ≤ w.heap.size) :
    UAt W S G B a b cs cg u w' ∧ w.heap.size ≤ w'.heap.size ∧ (∀ k, k < base → w'.heap[k]? = w.heap[k]?) ∧ w'.os = w.os ∧ w'.tape = w.tape ∧ w'.output = w.output := by
  have hblk : ∀ k, k < base → w'.heap[k]? = w.heap[k]? := fun k hk => by
    rw [hg.block k (by simp; omega) (fun e => by have := hrow k e.symm; omega)]
    exact Below.heap_alloc _ _ _ (by omega)
  have cell : ∀ {p : Addr} {v : Value}, p.block < base → w.cell? p = some v → w'.cell? p = some v := fun hp hv => (World.cell?_of_block (w := w) (hblk _ hp)).trans hv
  have fz : ∀ {p : Addr}, p.block < base → w'.frozen? p = w.frozen? p := fun hp => World.frozen?_of_block (w := w) (hblk _ hp)
  obtain ⟨ad, cap, c4'⟩ := h.wat.c4
  have hsz := hg.size
  simp only [World.size_alloc] at hsz
  exact ⟨⟨⟨cell (by exact hW) h.wat.c1, cell (by exact hW) h.wat.c2, ⟨ad, cap, cell (by exact hW) c4'⟩, h.wat.hB, h.wat.ha, h.wat.hb, h.wat.hm⟩, cell (by exact hW) h.c4, cell (by exact hW) h.c5, cell (by exact hW) h.c6, fun k hk => cell (by exact hS) (h.sc k hk), fun k hk => cell (by exact hG) (h.gc k hk),
    fun o => (fz (by exact hW)).trans (h.fW o), fun o => (fz (by exact hS)).trans (h.fS o), fun o => (fz (by exact hG)).trans (h.fG o), h.nWS, h.nWG, h.nSG⟩, by omega, hblk, hg.os, hg.tape, hg.output⟩
theorem UAt.pubd (h : UAt W S G B a b cs cg u w) : UAt W S G B a b cs cg (pubU u) (((w.setCell ⟨S, 0, none⟩ (.int .i64 2)).setCell ⟨S, 2, none⟩ (.int .i64 (-1))).setCell ⟨S, 4, none⟩ (.int .i64 u.n)) :=
  ((h.setS 0 (by decide) 2).setS 2 (by decide) (-1)).setS 4 (by decide) u.n
end

/-- All below a base is as in w, but for three blocks. -/
structure Kb (W S G base : Nat) (w w' : World) : Prop where
  os : w'.os = w.os
  tape : w'.tape = w.tape
  output : w'.output = w.output
  size : base ≤ w'.heap.size
  block : ∀ k, k < base → k ≠ W → k ≠ S → k ≠ G → w'.heap[k]? = w.heap[k]?
theorem Kb.kz {W S G base : Nat} {w w' : World} (h : Kb W S G base w w') (hb : w.heap.size ≤ base) : Kz W S G w w' := ⟨h.os, h.tape, h.output, Nat.le_trans hb h.size, fun k hk => h.block k (by omega)⟩

theorem info3t : (Tryd.prog.info? 3).map (fun i => (i.zero, i.size, i.bytes)) = some (some (.int .i64 0), 1, 8) := by kernel_rfl
theorem info3q : ∃ i, Tryd.prog.info? 3 = some i ∧ i.zero = some (.int .i64 0) ∧ i.size = 1 ∧ i.bytes = 8 := by
  have := info3t
  cases hh : Tryd.prog.info? 3 with
  | none => rw [hh] at this; cases this
  | some i => rw [hh] at this; simp at this; exact ⟨i, rfl, this.1, this.2.1, this.2.2⟩

def mzP (S : Nat) (v : Value) (w : World) : Nat := match w.cell? ⟨S, 0, none⟩ with
  | some (.int _ z) => if z = 1 then 10 else (match v with | .slice _ n _ => n | _ => 0)
  | _ => 0

/-- The first append, onto a slice without room. -/
theorem first_app {w : World} {base : Nat} (z : Int) (b0 : Addr) (hbase : base ≤ w.heap.size) : ∃ cap w', (Builtin.append_ #[99, 99] 99 #[.slice (some b0) 0 0, .slice (some ⟨w.heap.size, 0, none⟩) 1 1]).run Tryd.prog (w.alloc (.cells #[.int .i64 z] 3)) = .ok (.slice (some ⟨w.heap.size + 1, 0, none⟩) 1 cap) w' ∧
    w'.ownsRow base 3 1 (.slice (some ⟨w.heap.size + 1, 0, none⟩) 1 cap) 1 [.int .i64 z] ∧ (w.alloc (.cells #[.int .i64 z] 3)).grownBy w' none := by
  obtain ⟨i, hi, hz, h1, h8⟩ := info3q
  have hr := run_append_grow (P := Tryd.prog) (w.alloc (.cells #[.int .i64 z] 3)) 99 99 3 i (.int .i64 0) Tryd.underlying99 hi hz b0 0 0 [] (by simp) (by intro j v hj; simp at hj) ⟨w.heap.size, 0, none⟩ 1 1 [.int .i64 z] (by rw [h1]; rfl)
    (newsN w #[.int .i64 z] 3) (by omega) (by omega) (growslice_fits (by omega) (by rw [h8]; omega))
  simp only [Nat.zero_add] at hr
  have hge := grownCap_ge (w.alloc (.cells #[.int .i64 z] 3)) 1 0 3
  have hcm : grownCap (w.alloc (.cells #[.int .i64 z] 3)) 1 0 3 ≤ maxLen := grownCap_le_maxLen _ 1 0 3 (by unfold maxLen; omega)
  generalize grownCap (w.alloc (.cells #[.int .i64 z] 3)) 1 0 3 = cap at hr hge hcm
  have hsz : (w.alloc (.cells #[.int .i64 z] 3)).heap.size = w.heap.size + 1 := by simp
  rw [hsz] at hr
  refine ⟨cap, _, hr, ⟨rfl, Or.inr ⟨w.heap.size + 1, cap, #[] ++ #[.int .i64 z] ++ Builtin.zeroCells (Value.int IntKind.i64 0).cells (cap - 1), rfl, by omega, ?_, hge, hcm, ?_, ?_⟩⟩, ⟨rfl, rfl, rfl, by simp, fun k hk _ => heap_alloc_old (World.drew _) _ hk⟩⟩
  · show ((w.alloc _).heap.push _)[w.heap.size + 1]? = _
    rw [Array.getElem?_push, if_pos (by simp)]
  · simp [Builtin.zeroCells, Value.cells]; omega
  · simp
end Go.Proofs.YtejfcmgnacimgaaDoor
