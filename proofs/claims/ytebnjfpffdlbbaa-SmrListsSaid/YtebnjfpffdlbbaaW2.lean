/- A region that draws its order and only makes new memory: each operation's value as a predicate that new memory keeps. -/
import Derived.Test.YtebnjfpffdlbbaaW1
import Derived.Test.YtebnjfpffdlbbaaB1
namespace Go.Proofs.Ytebnjfpffdlbbaa
open Go.RowKit
set_option linter.unusedVariables false
set_option linter.unusedSimpArgs false

theorem lst_eq {l : Array Bool} {i : Nat} (h : i < l.size) : (l.setIfInBounds i true).getD i false = true := by
  simp [Array.getD_eq_getD_getElem?, Array.getElem?_setIfInBounds, h]
theorem lst_ne {l : Array Bool} {i j : Nat} (h : i ≠ j) : (l.setIfInBounds i true).getD j false = l.getD j false := by
  simp only [Array.getD_eq_getD_getElem?, Array.getElem?_setIfInBounds, if_neg h]
theorem lst_all {l : Array Bool} {j : Nat} (h : j < l.size) (g : l.getD j true = true) : l.getD j false = true := by
  simpa [Array.getD_eq_getD_getElem?, h] using g
theorem back_of {ops : Array Oper} (h : ((List.range ops.size).all fun i => match ops[i]? with | some o => o.after.toList.all (fun e => !Region.binds .any e || decide (e.on < i)) | none => true) = true) :
    ∀ i o, ops[i]? = some o → ∀ e ∈ o.after, Region.binds .any e = true → e.on < i := by
  intro i o ho e he hb
  have hi := (Array.getElem?_eq_some_iff.1 ho).1
  have h1 := List.all_eq_true.1 h i (List.mem_range.2 hi)
  rw [ho] at h1
  have h2 := List.all_eq_true.1 h1 e (Array.mem_toList_iff.2 he)
  rw [hb] at h2
  simpa using h2

/-- x, but v at i. -/
def upd (x : Nat → Value) (i : Nat) (v : Value) : Nat → Value := fun j => if j = i then v else x j

theorem upd_of {x : Nat → Value} {i : Nat} {v : Value} (h : x i = v) : x = upd x i v := by
  funext j
  unfold upd
  split
  · rename_i e; rw [e, h]
  · rfl

/-- Fr: the frame as the operations' values make it; V i: what is known of operation i's value. -/
theorem wp_region_grow {P : Program} {id : Nat} {ops : Array Oper} {Q : Exit → Act → World → Prop} {w0 : World} (hm : P.follows .mixedOrders = true) (Fr : (Nat → Value) → Act) (V : Nat → Value → World → Prop) (x0 : Nat → Value)
    (hback : ∀ i o, ops[i]? = some o → ∀ e ∈ o.after, Region.binds .any e = true → e.on < i)
    (hV : ∀ i v w w', V i v w → Below w.heap.size w w' → V i v w')
    (hstep : ∀ i o, ops[i]? = some o → ∀ (x : Nat → Value) (w : World), Below w0.heap.size w0 w → (∀ e ∈ o.after, Region.binds .any e = true → V e.on (x e.on) w) →
      wpOp P ops Q i (fun a' w' => ∃ v, a' = Fr (upd x i v) ∧ V i v w' ∧ Below w.heap.size w w') (Fr x) w)
    (hend : ∀ (x : Nat → Value) (w : World), Below w0.heap.size w0 w → (∀ j, j < ops.size → V j (x j) w) → Q .normal (Fr x) w) : (Code.region id ops true).wp P Q (Fr x0) w0 := by
  refine wp_region_inv hm (fun l a w => ∃ x, a = Fr x ∧ Below w0.heap.size w0 w ∧ ∀ j, l.getD j false = true → V j (x j) w) hback ⟨x0, rfl, (Below.refl _ _).drew, fun j h => ?_⟩ ?_ ?_
  · exfalso
    simp only [Array.getD_eq_getD_getElem?, Array.getElem?_replicate] at h
    split at h <;> simp at h
  · intro l a w i o hs hinv ho hl hpre
    obtain ⟨x, rfl, hb, hx⟩ := hinv
    refine wpOp_mono ?_ (hstep i o ho x w hb fun e he hbd => hx _ (hpre e he hbd))
    rintro a' w' ⟨v, rfl, hv, hb'⟩
    have hi : i < l.size := by rw [hs]; exact (Array.getElem?_eq_some_iff.1 ho).1
    refine ⟨_, rfl, hb.trans (hb'.mono hb.size), fun j hj => ?_⟩
    by_cases e : j = i
    · subst e
      unfold upd
      rw [if_pos rfl]
      exact hv
    · unfold upd
      rw [if_neg e]
      rw [lst_ne (fun h => e h.symm)] at hj
      exact hV _ _ _ _ (hx j hj) hb'
  · intro l a w hs hinv hall
    obtain ⟨x, rfl, hb, hx⟩ := hinv
    exact hend x w hb fun j hj => hx j (lst_all (by omega) (hall j hj))
end Go.Proofs.Ytebnjfpffdlbbaa
