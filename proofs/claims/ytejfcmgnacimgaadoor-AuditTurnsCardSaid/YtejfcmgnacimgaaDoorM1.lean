/- The map of guards: what a look-up gives, what a store and a delete leave. -/
import Derived.Test.YtejfcmgnacimgaaDoorA3
import Derived.Maps.OwnSet
namespace Go.Proofs.YtejfcmgnacimgaaDoor
open Go.RowKit Go.Maps Go.ChangeMaps Go.MapKept Go.WideShapes
set_option linter.unusedVariables false
set_option linter.unusedSimpArgs false

theorem keyed : Keyed Tryd.prog 3 := int_keyed Tryd.underlying3
theorem zero93 (w : World) : (zeroValue 93).run Tryd.prog w = .ok (gagg fun _ => (0, 0)) w := by kernel_rfl
def wfI (t : Int) : Prop := (Lit.int .i64 t).wf = true

theorem map_keys {es : Array MapEntry} {G : Int → Nat → Int × Int} (h : ∀ x ∈ es.toList, ∃ t, x.key = .int .i64 t ∧ (Lit.int .i64 t).wf = true ∧ x.val = gagg (G t)) :
    ∀ x ∈ es.toList, ∃ kl, keyOf Tryd.prog 3 x.key = some kl := fun x hx => by
  obtain ⟨t, h1, h2, -⟩ := h x hx
  exact ⟨_, by rw [h1]; exact keyOf_int_mk Tryd.underlying3 h2⟩

theorem look_run {M : Nat} {G : Int → Nat → Int × Int} {w : World} (h : MapIs M G w) (t : Int) (ht : (Lit.int .i64 t).wf = true) :
    (Instr.lookup 72 (.map (some M)) (.int .i64 t) false).run Tryd.prog w = .ok (gagg (G t)) w := by
  obtain ⟨es, clock, hb, h1, h2, h3⟩ := h
  have hkey := keyOf_int_mk (P := Tryd.prog) Tryd.underlying3 ht
  rcases keyed.find w hkey es.toList (map_keys h1) with ⟨g1, g2⟩ | ⟨j, e0, g1, g2, g3⟩
  · rw [h3 t g2]
    simp [Instr.lookup, run_underlying Tryd.underlying72, MapKept.run_getObj_map hb, keyed.check w _ hkey, g1, zero93, Result.andThen, gagg]
  · obtain ⟨t', k1, k2, k3⟩ := h1 e0 (List.mem_of_getElem? g2)
    rw [g3] at k1
    obtain rfl : t = t' := by simpa using k1
    rw [← k3]
    simp [Instr.lookup, run_underlying Tryd.underlying72, MapKept.run_getObj_map hb, keyed.check w _ hkey, g1, Result.andThen]

def updG (G : Int → Nat → Int × Int) (t : Int) (g : Nat → Int × Int) : Int → Nat → Int × Int := fun u => if u = t then g else G u

theorem nodup_at {l : List Value} (h : l.Nodup) {i j : Nat} {v : Value} (hi : l[i]? = some v) (hj : l[j]? = some v) : i = j := by
  obtain ⟨hi', ei⟩ := List.getElem?_eq_some_iff.1 hi
  obtain ⟨hj', ej⟩ := List.getElem?_eq_some_iff.1 hj
  have hp := List.pairwise_iff_getElem.1 h
  rcases Nat.lt_trichotomy i j with g | g | g
  · exact absurd (ei.trans ej.symm) (hp i j hi' hj' g)
  · exact g
  · exact absurd (ej.trans ei.symm) (hp j i hj' hi' g)

theorem upd_run {M : Nat} {G : Int → Nat → Int × Int} {w : World} (h : MapIs M G w) (t : Int) (ht : (Lit.int .i64 t).wf = true) (g : Nat → Int × Int) :
    ∃ es clock, (Instr.mapUpdate 72 (.map (some M)) (.int .i64 t) (gagg g)).run Tryd.prog w = .ok () (setBlock w M (.map es clock)) ∧ MapIs M (updG G t g) (setBlock w M (.map es clock)) := by
  obtain ⟨es, clock, hb, h1, h2, h3⟩ := h
  have hkey := keyOf_int_mk (P := Tryd.prog) Tryd.underlying3 ht
  rcases keyed.find w hkey es.toList (map_keys h1) with ⟨g1, g2⟩ | ⟨j, e0, g1, g2, g3⟩
  · refine ⟨es.push ⟨.int .i64 t, gagg g, clock⟩, clock + 1, ?_, _, _, heap_setBlock_same hb _, ?_, ?_, ?_⟩
    · simp [Instr.mapUpdate, run_underlying Tryd.underlying72, MapKept.run_getObj_map hb, keyed.check w _ hkey, g1, MapKept.run_setObj_map _ hb, Result.andThen, setBlock]
    · intro x hx
      simp only [Array.toList_push, List.mem_append, List.mem_singleton] at hx
      rcases hx with hx | rfl
      · obtain ⟨u, k1, k2, k3⟩ := h1 x hx
        refine ⟨u, k1, k2, ?_⟩
        have : u ≠ t := fun e => g2 x hx (by rw [k1, e])
        rw [k3]; simp [updG, this]
      · exact ⟨t, rfl, ht, by simp [updG]⟩
    · simp only [Array.toList_push, List.map_append, List.map_cons, List.map_nil]
      rw [List.nodup_append]
      refine ⟨h2, by simp, ?_⟩
      intro a ha b hb' e
      obtain ⟨x, hx, rfl⟩ := List.mem_map.1 ha
      simp at hb'
      exact g2 x hx (e.trans hb')
    · intro u hu
      simp only [Array.toList_push, List.mem_append, List.mem_singleton] at hu
      have hne : u ≠ t := fun e => hu _ (Or.inr rfl) (by rw [e])
      simp only [updG, if_neg hne]
      exact h3 u fun x hx => hu x (Or.inl hx)
  · have hj : es[j]? = some e0 := by simpa using g2
    have hjl : j < es.toList.length := (List.getElem?_eq_some_iff.1 g2).1
    have hlist : (es.modify j (fun e' => { e' with key := .int .i64 t, val := gagg g })).toList = es.toList.set j { e0 with key := .int .i64 t, val := gagg g } := by rw [Array.toList_modify, modify_eq_set _ _ _ _ g2]
    have hkeys : (es.toList.set j { e0 with key := .int .i64 t, val := gagg g }).map (·.key) = es.toList.map (·.key) := by
      rw [List.map_set]
      apply List.ext_getElem?
      intro i
      rw [List.getElem?_set]
      split
      · rename_i e; subst e; simp [g2, g3]; simpa using hjl
      · rfl
    refine ⟨es.modify j (fun e' => { e' with key := .int .i64 t, val := gagg g }), clock, ?_, _, _, heap_setBlock_same hb _, ?_, ?_, ?_⟩
    · simp [Instr.mapUpdate, run_underlying Tryd.underlying72, MapKept.run_getObj_map hb, keyed.check w _ hkey, g1, hj, g3, keyed.stays w hkey, MapKept.run_setObj_map _ hb, Result.andThen, setBlock]
    · intro x hx
      rw [hlist] at hx
      obtain ⟨i, hi, ex⟩ := List.getElem_of_mem hx
      rw [List.getElem_set] at ex
      split at ex
      · subst ex; exact ⟨t, rfl, ht, by simp [updG]⟩
      · rename_i hne
        have hi' : i < es.toList.length := by simpa using hi
        have hm : x ∈ es.toList := ex ▸ List.getElem_mem hi'
        obtain ⟨u, k1, k2, k3⟩ := h1 x hm
        refine ⟨u, k1, k2, ?_⟩
        have : u ≠ t := fun e => hne (nodup_at h2 (v := .int .i64 t) (by simp [g2, g3]) (by
          have : es.toList[i]? = some x := by rw [List.getElem?_eq_getElem hi', ex]
          simp only [List.getElem?_map, this, Option.map_some, k1, e]))
        rw [k3]; simp [updG, this]
    · rw [hlist, hkeys]; exact h2
    · intro u hu
      rw [hlist] at hu
      have hall : ∀ v ∈ es.toList.map (·.key), v ≠ .int .i64 u := by
        rw [← hkeys]
        intro v hv
        obtain ⟨x, hx, rfl⟩ := List.mem_map.1 hv
        exact hu x hx
      have hne : u ≠ t := fun e => hall (.int .i64 t) (List.mem_map.2 ⟨e0, List.mem_of_getElem? g2, g3⟩) (by rw [e])
      simp only [updG, if_neg hne]
      exact h3 u fun x hx => hall _ (List.mem_map.2 ⟨x, hx, rfl⟩)

theorem del_run {M : Nat} {G : Int → Nat → Int × Int} {w : World} (h : MapIs M G w) (t : Int) (ht : (Lit.int .i64 t).wf = true) (ty : TypeId) :
    ∃ es clock, (Builtin.delete_ #[72, 3] ty #[.map (some M), .int .i64 t]).run Tryd.prog w = .ok (.tuple #[]) (setBlock w M (.map es clock)) ∧ MapIs M (updG G t fun _ => (0, 0)) (setBlock w M (.map es clock)) := by
  obtain ⟨es, clock, hb, h1, h2, h3⟩ := h
  have hkey := keyOf_int_mk (P := Tryd.prog) Tryd.underlying3 ht
  rcases keyed.find w hkey es.toList (map_keys h1) with ⟨g1, g2⟩ | ⟨j, e0, g1, g2, g3⟩
  · refine ⟨es, clock, ?_, _, _, heap_setBlock_same hb _, ?_, h2, ?_⟩
    · simp [Builtin.delete_, run_underlying Tryd.underlying72, MapKept.run_getObj_map hb, keyed.check w _ hkey, g1, MapKept.run_setObj_map _ hb, Result.andThen, setBlock]
    · intro x hx
      obtain ⟨u, k1, k2, k3⟩ := h1 x hx
      refine ⟨u, k1, k2, ?_⟩
      have : u ≠ t := fun e => g2 x hx (by rw [k1, e])
      rw [k3]; simp [updG, this]
    · intro u hu
      by_cases e : u = t
      · simp [updG, e]
      · simp only [updG, if_neg e]; exact h3 u hu
  · have hjl : j < es.toList.length := (List.getElem?_eq_some_iff.1 g2).1
    have hjs : j < es.size := by simpa using hjl
    have hsub : (es.eraseIdxIfInBounds j).toList = es.toList.eraseIdx j := by
      unfold Array.eraseIdxIfInBounds
      rw [dif_pos hjs]
      simp
    have hoth : ∀ x ∈ es.toList.eraseIdx j, x ∈ es.toList ∧ x.key ≠ .int .i64 t := by
      intro x hx
      obtain ⟨i, hne, hi⟩ := List.mem_eraseIdx_iff_getElem?.1 hx
      refine ⟨List.mem_of_getElem? hi, fun e => hne ?_⟩
      exact nodup_at h2 (v := .int .i64 t) (by simp [hi, e]) (by simp [g2, g3])
    refine ⟨es.eraseIdxIfInBounds j, clock, ?_, _, _, heap_setBlock_same hb _, ?_, ?_, ?_⟩
    · simp [Builtin.delete_, run_underlying Tryd.underlying72, MapKept.run_getObj_map hb, keyed.check w _ hkey, g1, MapKept.run_setObj_map _ hb, Result.andThen, setBlock]
    · intro x hx
      rw [hsub] at hx
      obtain ⟨hx1, hx2⟩ := hoth x hx
      obtain ⟨u, k1, k2, k3⟩ := h1 x hx1
      refine ⟨u, k1, k2, ?_⟩
      have : u ≠ t := fun e => hx2 (by rw [k1, e])
      rw [k3]; simp [updG, this]
    · rw [hsub]
      exact List.Nodup.sublist (List.Sublist.map _ (List.eraseIdx_sublist _ _)) h2
    · intro u hu
      rw [hsub] at hu
      by_cases e : u = t
      · simp [updG, e]
      · simp only [updG, if_neg e]
        refine h3 u fun x hx hk => ?_
        obtain ⟨i, hi, ex⟩ := List.getElem_of_mem hx
        have hij : i ≠ j := by
          rintro rfl
          have : es.toList[i]? = some x := by rw [List.getElem?_eq_getElem hi, ex]
          rw [g2] at this
          obtain rfl := Option.some.inj this
          rw [g3] at hk
          exact e (by simpa using hk.symm)
        exact hu x (List.mem_eraseIdx_iff_getElem?.2 ⟨i, hij, by rw [List.getElem?_eq_getElem hi, ex]⟩) hk
end Go.Proofs.YtejfcmgnacimgaaDoor
