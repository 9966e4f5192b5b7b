/- A region that draws its order, by an invariant on what has been done: each operation whose predecessors have been done keeps it; it gives the post when all have been done. -/
import Derived.Test.YtphfcfnbefikiaaE1
import Derived.Orders
namespace Go.Proofs.Ytphfcfnbefikiaa
open Go.RowKit
set_option linter.unusedVariables false
set_option linter.unusedSimpArgs false

/-- How many operations are still to be done. -/
def todo (n : Nat) (listed : Array Bool) : Nat := (List.range n).countP fun i => !(listed.getD i true)

theorem todo_lt {n i : Nat} {listed : Array Bool} (hi : i < n) (hs : listed.size = n) (h : listed.getD i true = false) : todo n (listed.setIfInBounds i true) < todo n listed := by
  unfold todo
  have get : ∀ j, (listed.setIfInBounds i true).getD j true = if j = i then true else listed.getD j true := by
    intro j
    simp only [Array.getD_eq_getD_getElem?, Array.getElem?_setIfInBounds]
    by_cases e : i = j
    · subst e; simp [hs, hi]
    · rw [if_neg e, if_neg (fun h => e h.symm)]
  have hle : ∀ l : List Nat, l.countP (fun j => !((listed.setIfInBounds i true).getD j true)) ≤ l.countP fun j => !(listed.getD j true) := by
    intro l
    refine List.countP_mono_left fun j _ hj => ?_
    rw [get] at hj
    by_cases e : j = i
    · rw [if_pos e] at hj; simp at hj
    · rw [if_neg e] at hj; exact hj
  have : ∀ l : List Nat, i ∈ l → l.countP (fun j => !((listed.setIfInBounds i true).getD j true)) < l.countP fun j => !(listed.getD j true) := by
    intro l
    induction l with
    | nil => intro h; cases h
    | cons a l ih =>
      intro hm
      rw [List.countP_cons, List.countP_cons]
      by_cases e : a = i
      · subst e
        rw [get a, if_pos rfl, h]
        have := hle l
        simp only [Bool.not_true, Bool.not_false, if_true, Bool.false_eq_true, if_false]
        omega
      · have hm' : i ∈ l := by
          rcases List.mem_cons.1 hm with h1 | h1
          · exact absurd h1.symm e
          · exact h1
        rw [get a, if_neg e]
        have := ih hm'
        omega
  exact this _ (List.mem_range.2 hi)

/-- Where each operation's predecessors stand ahead of it, nothing is ready only when all has been done. -/
theorem all_done {md : Region.Mode} {ops : Array Oper} {listed : Array Bool} (hback : ∀ i o, ops[i]? = some o → ∀ e ∈ o.after, Region.binds md e = true → e.on < i) (hs : listed.size = ops.size) (h : Region.ready md ops listed = []) :
    ∀ i, i < ops.size → listed.getD i true = true := by
  intro i
  induction i using Nat.strongRecOn with
  | ind i ih =>
    intro hi
    cases hl : listed.getD i true with
    | true => rfl
    | false =>
      exfalso
      have hm : i ∈ Region.ready md ops listed := by
        rw [mem_ready]
        refine ⟨hl, ops[i], Array.getElem?_eq_getElem hi, fun e he hb => ?_⟩
        have hlt := hback i _ (Array.getElem?_eq_getElem hi) e he hb
        have := ih e.on hlt (by omega)
        have hb : e.on < listed.size := by omega
        simpa [Array.getD_eq_getD_getElem?, Array.getElem?_eq_getElem hb] using this
      rw [h] at hm
      cases hm

theorem wpAny_inv {P : Program} {md : Region.Mode} {ops : Array Oper} {Q : Exit → Act → World → Prop} (Inv : Array Bool → Act → World → Prop)
    (hback : ∀ i o, ops[i]? = some o → ∀ e ∈ o.after, Region.binds md e = true → e.on < i)
    (hstep : ∀ (listed : Array Bool) (a : Act) (w : World) (i : Nat) (o : Oper), listed.size = ops.size → Inv listed a w → ops[i]? = some o → listed.getD i true = false → (∀ e ∈ o.after, Region.binds md e = true → listed.getD e.on false = true) →
      wpOp P ops Q i (fun a' w' => Inv (listed.setIfInBounds i true) a' w') a w)
    (hend : ∀ (listed : Array Bool) (a : Act) (w : World), listed.size = ops.size → Inv listed a w → (∀ i, i < ops.size → listed.getD i true = true) → Q .normal a w) :
    ∀ (fuel : Nat) (listed : Array Bool) (a : Act) (w : World), listed.size = ops.size → todo ops.size listed ≤ fuel → Inv listed a w → wpAny P md ops Q fuel listed a w
  | 0, listed, a, w, hs, ht, hi => by
    have hr : Region.ready md ops listed = [] := by
      cases hr : Region.ready md ops listed with
      | nil => rfl
      | cons j l =>
        have hj : j ∈ Region.ready md ops listed := by rw [hr]; exact List.mem_cons_self ..
        obtain ⟨h1, o, h2, -⟩ := mem_ready.1 hj
        have := todo_lt (Array.getElem?_eq_some_iff.1 h2).1 hs h1
        omega
    exact ⟨hr, hend listed a w hs hi (all_done hback hs hr)⟩
  | fuel + 1, listed, a, w, hs, ht, hi => by
    refine ⟨fun hr => hend listed a w hs hi (all_done hback hs hr), fun i hm => ?_⟩
    obtain ⟨h1, o, h2, h3⟩ := mem_ready.1 hm
    refine wpOp_mono (fun a' w' h' => ?_) (hstep listed a w i o hs hi h2 h1 h3)
    have := todo_lt (Array.getElem?_eq_some_iff.1 h2).1 hs h1
    exact wpAny_inv Inv hback hstep hend fuel _ a' w' (by simpa using hs) (by omega) h'

theorem wp_region_inv {P : Program} {id : Nat} {ops : Array Oper} {Q : Exit → Act → World → Prop} {a : Act} {w : World} (hm : P.follows .mixedOrders = true) (Inv : Array Bool → Act → World → Prop)
    (hback : ∀ i o, ops[i]? = some o → ∀ e ∈ o.after, Region.binds .any e = true → e.on < i)
    (h0 : Inv (Array.replicate ops.size false) a w.drew)
    (hstep : ∀ (listed : Array Bool) (a : Act) (w : World) (i : Nat) (o : Oper), listed.size = ops.size → Inv listed a w → ops[i]? = some o → listed.getD i true = false → (∀ e ∈ o.after, Region.binds .any e = true → listed.getD e.on false = true) →
      wpOp P ops Q i (fun a' w' => Inv (listed.setIfInBounds i true) a' w') a w)
    (hend : ∀ (listed : Array Bool) (a : Act) (w : World), listed.size = ops.size → Inv listed a w → (∀ i, i < ops.size → listed.getD i true = true) → Q .normal a w) :
    (Code.region id ops true).wp P Q a w := by
  refine wp_region_any hm (wpAny_inv Inv hback hstep hend ops.size _ a _ (by simp) ?_ h0)
  unfold todo
  exact Nat.le_trans (List.countP_le_length) (by simp)
theorem lst_eq {l : Array Bool} {i : Nat} (h : i < l.size) : (l.setIfInBounds i true).getD i false = true := by
  simp [Array.getD_eq_getD_getElem?, Array.getElem?_setIfInBounds, h]
theorem lst_ne {l : Array Bool} {i j : Nat} (h : i ≠ j) : (l.setIfInBounds i true).getD j false = l.getD j false := by
  simp only [Array.getD_eq_getD_getElem?, Array.getElem?_setIfInBounds, if_neg h]
theorem lst_all {l : Array Bool} {j : Nat} (h : j < l.size) (g : l.getD j true = true) : l.getD j false = true := by
  simpa [Array.getD_eq_getD_getElem?, h] using g
theorem back_of {ops : Array Oper} (h : ((List.range ops.size).all fun i => match ops[i]? with | some o => o.after.toList.all (fun e => !Region.binds .any e || decide (e.on < i)) | none => true) = true) :
    ∀ i o, ops[i]? = some o → ∀ e ∈ o.after, Region.binds .any e = true → e.on < i := by
  intro i o ho e he hb
  have hi := (Array.getElem?_eq_some_iff.1 ho).1
  have h1 := List.all_eq_true.1 h i (List.mem_range.2 hi)
  rw [ho] at h1
  have h2 := List.all_eq_true.1 h1 e (Array.mem_toList_iff.2 he)
  rw [hb] at h2
  simpa using h2

/-- x, but v at i. -/
def upd (x : Nat → Value) (i : Nat) (v : Value) : Nat → Value := fun j => if j = i then v else x j

theorem upd_of {x : Nat → Value} {i : Nat} {v : Value} (h : x i = v) : x = upd x i v := by
  funext j
  unfold upd
  split
  · rename_i e; rw [e, h]
  · rfl


/-- A region that draws its order, whose calls may write: each operation's value as a predicate, the world by what has been done. -/
theorem wp_region_state {P : Program} {id : Nat} {ops : Array Oper} {Q : Exit → Act → World → Prop} {w0 : World} (hm : P.follows .mixedOrders = true) (Fr : (Nat → Value) → Act) (V : Nat → Value → Prop) (St : Array Bool → World → Prop) (x0 : Nat → Value)
    (hback : ∀ i o, ops[i]? = some o → ∀ e ∈ o.after, Region.binds .any e = true → e.on < i)
    (h0 : St (Array.replicate ops.size false) w0.drew)
    (hstep : ∀ i o, ops[i]? = some o → ∀ (l : Array Bool) (x : Nat → Value) (w : World), l.size = ops.size → l.getD i true = false → St l w → (∀ e ∈ o.after, Region.binds .any e = true → V e.on (x e.on) ∧ l.getD e.on false = true) →
      wpOp P ops Q i (fun a' w' => ∃ v, a' = Fr (upd x i v) ∧ V i v ∧ St (l.setIfInBounds i true) w') (Fr x) w)
    (hend : ∀ (l : Array Bool) (x : Nat → Value) (w : World), St l w → (∀ j, j < ops.size → V j (x j) ∧ l.getD j false = true) → Q .normal (Fr x) w) : (Code.region id ops true).wp P Q (Fr x0) w0 := by
  refine wp_region_inv hm (fun l a w => ∃ x, a = Fr x ∧ St l w ∧ ∀ j, l.getD j false = true → V j (x j)) hback ⟨x0, rfl, h0, fun j h => ?_⟩ ?_ ?_
  · exfalso
    simp only [Array.getD_eq_getD_getElem?, Array.getElem?_replicate] at h
    split at h <;> simp at h
  · intro l a w i o hs hinv ho hl hpre
    obtain ⟨x, rfl, hst, hx⟩ := hinv
    refine wpOp_mono ?_ (hstep i o ho l x w hs hl hst fun e he hbd => ⟨hx _ (hpre e he hbd), hpre e he hbd⟩)
    rintro a' w' ⟨v, rfl, hv, hst'⟩
    have hi : i < l.size := by rw [hs]; exact (Array.getElem?_eq_some_iff.1 ho).1
    refine ⟨_, rfl, hst', fun j hj => ?_⟩
    by_cases e : j = i
    · subst e
      unfold upd
      rw [if_pos rfl]
      exact hv
    · unfold upd
      rw [if_neg e]
      rw [lst_ne (fun h => e h.symm)] at hj
      exact hx j hj
  · intro l a w hs hinv hall
    obtain ⟨x, rfl, hst, hx⟩ := hinv
    exact hend l x w hst fun j hj => ⟨hx j (lst_all (by omega) (hall j hj)), lst_all (by omega) (hall j hj)⟩
theorem wpOp_bare {P : Program} {ops : Array Oper} {Q : Exit → Act → World → Prop} {i : Nat} {o : Oper} {K : Act → World → Prop} {a : Act} {w : World} (ho : ops[i]? = some o) (hg : o.guard = none)
    (h : ∀ K' : Act → World → Prop, (∀ a w, K a w → K' a w) → Oper.wp P o a w K' Q) : wpOp P ops Q i K a w :=
  wpOp_step ho fun K' hK => by rw [if_pos (by simp [Region.wanted, hg])]; exact h K' hK
end Go.Proofs.Ytphfcfnbefikiaa
