/- A copy of the guards. -/
import Derived.Test.YtebnjfpffdlbbaaB2
import Derived.Test.YtebnjfpffdlbbaaM1
import Derived.Deep.Upon
import Derived.Deep.AppendLies
import Derived.Deep.RegionLaw
import Derived.Lib.SlFresh
namespace Go.Proofs.Ytebnjfpffdlbbaa
open Go.RowKit
set_option linter.unusedVariables false
set_option linter.unusedSimpArgs false

theorem info23 : (Try.prog.info? 23).map (fun i => (i.zero, i.size, i.bytes)) = some (some (.int .u64 0), 1, 8) := by kernel_rfl
theorem info23q : ∃ i, Try.prog.info? 23 = some i ∧ i.zero = some (.int .u64 0) ∧ i.size = 1 ∧ i.bytes = 8 := by
  have := info23
  cases hh : Try.prog.info? 23 with
  | none => rw [hh] at this; cases this
  | some i => rw [hh] at this; simp at this; exact ⟨i, rfl, this.1, this.2.1, this.2.2⟩


set_option maxRecDepth 100000 in
theorem copy_run {ad : Option Addr} {n c : Nat} {gs : List Int} {w : World} (hn : gs.length = n) (hl : n ≤ 300) (hin : GsIn ad gs w) :
    ∃ v' w', (Builtin.append_ #[31, 31] 31 #[.slice none 0 0, .slice ad n c]).run Try.prog w = .ok v' w' ∧ (∃ ad' c', v' = .slice ad' n c' ∧ GsIn ad' gs w') ∧ Below w.heap.size w w' := by
  obtain ⟨i, hi, hz, h1, h8⟩ := info23q
  subst hn
  cases gs with
  | nil =>
    have hs : Src Try.prog i.size 31 (.slice ad 0 c) 0 [] w := by
      cases ad with
      | none => exact Src.ofNil w Try.underlying31 c
      | some a => exact Src.ofSlice w Try.underlying31 a 0 c [] (by simp) (fun j u hj => by simp at hj) (fun u hu => by cases hu)
    exact ⟨_, _, run_append_nothing w 31 31 31 23 i Try.underlying31 hi none 0 0 (Nat.le_refl _) (.slice ad 0 c) hs, ⟨none, 0, rfl, fun i hi => by cases hi⟩, Below.refl _ _⟩
  | cons g gs =>
    obtain ⟨b, off, rfl, -⟩ := hin 0 (by simp)
    have hr := run_append_nil (P := Try.prog) w 31 31 23 i (.int .u64 0) Try.underlying31 hi hz ⟨b, off, none⟩ (g :: gs).length c ((g :: gs).map fun x => .int .u64 x) (by rw [h1]; simp)
      (fun j v hj => by
        rw [List.getElem?_map] at hj
        obtain ⟨x, hx, rfl⟩ := Option.map_eq_some_iff.1 hj
        obtain ⟨hjl, hjx⟩ := List.getElem?_eq_some_iff.1 hx
        obtain ⟨b', off', he, hc⟩ := hin j hjl
        have ha : (⟨b, off, none⟩ : Addr).add j = ⟨b, off + j, none⟩ := by unfold Addr.add; split <;> simp_all
        rw [ha]
        injection he with he
        injection he with e1 e2
        subst e1
        subst e2
        rw [hc, hjx])
      (by simp) (by simp at hl ⊢; omega) (by rw [h8]; simp at hl ⊢; omega)
    generalize grownCap w (g :: gs).length 0 23 = cap at hr
    refine ⟨_, _, hr, ⟨_, _, rfl, fun j hj => ⟨w.heap.size, 0, rfl, ?_⟩⟩, ⟨rfl, rfl, rfl, by simp, fun k hk => Below.heap_alloc w.drew _ k hk⟩⟩
    have hb := al_heap_new w.drew (.cells (((g :: gs).map fun x => Value.int .u64 x).toArray ++ Builtin.zeroCells (Value.int .u64 0).cells (cap - (g :: gs).length)) 23)
    have : ((w.drew.alloc (.cells (((g :: gs).map fun x => Value.int .u64 x).toArray ++ Builtin.zeroCells (Value.int .u64 0).cells (cap - (g :: gs).length)) 23))).heap[w.heap.size]? = some (.cells (((g :: gs).map fun x => Value.int .u64 x).toArray ++ Builtin.zeroCells (Value.int .u64 0).cells (cap - (g :: gs).length)) 23) := hb
    simp only [World.cell?, this]
    rw [Nat.zero_add, Array.getElem?_append_left (by simpa using hj)]
    rw [List.getElem?_toArray, List.getElem?_map, List.getElem?_eq_getElem hj]
    rfl

/-- An append as a step of a region that draws, by its run. -/
theorem step_append_run {P : Program} (w : World) {ops : Array Oper} {o : Oper} {a : Act} {K : Act → World → Prop} {Q : Exit → Act → World → Prop} {E : Prop} (hw : Region.wanted o (yielded ops a.tmps) = true) (s x : Operand) (t : TypeId)
    (ho : o.op = .call { callee := .builtin .append, args := #[s, x], argTypes := #[t, t] }) (v u : Value) (hs : a.eval s = v) (hx : a.eval x = u) {v' : Value} {w' : World}
    (hr : (Builtin.append_ #[t, t] o.type #[v, u]).run P w = .ok v' w') (h : K (a.put o.dst v') w') :
    if Region.wanted o (yielded ops a.tmps) = true then Oper.wp P o a w K Q else E := by
  rw [if_pos hw]
  exact Lib.wp_append_run_sl w s x t ho v u hs hx hr h

end Go.Proofs.Ytebnjfpffdlbbaa
