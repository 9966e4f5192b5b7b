/- A region that draws its order, by an invariant on what has been done: each operation whose predecessors have been done keeps it; it gives the post when all have been done. -/
import Derived.Test.YtebnjfpffdlbbaaA3
import Derived.Orders
namespace Go.Proofs.Ytebnjfpffdlbbaa
open Go.RowKit
set_option linter.unusedVariables false
set_option linter.unusedSimpArgs false

/-- How many operations are still to be done. -/
def todo (n : Nat) (listed : Array Bool) : Nat := (List.range n).countP fun i => !(listed.getD i true)

theorem todo_lt {n i : Nat} {listed : Array Bool} (hi : i < n) (hs : listed.size = n) (h : listed.getD i true = false) : todo n (listed.setIfInBounds i true) < todo n listed := by
  unfold todo
  have get : ∀ j, (listed.setIfInBounds i true).getD j true = if j = i then true else listed.getD j true := by
    intro j
    simp only [Array.getD_eq_getD_getElem?, Array.getElem?_setIfInBounds]
    by_cases e : i = j
    · subst e; simp [hs, hi]
    · rw [if_neg e, if_neg (fun h => e h.symm)]
  have hle : ∀ l : List Nat, l.countP (fun j => !((listed.setIfInBounds i true).getD j true)) ≤ l.countP fun j => !(listed.getD j true) := by
    intro l
    refine List.countP_mono_left fun j _ hj => ?_
    rw [get] at hj
    by_cases e : j = i
    · rw [if_pos e] at hj; simp at hj
    · rw [if_neg e] at hj; exact hj
  have : ∀ l : List Nat, i ∈ l → l.countP (fun j => !((listed.setIfInBounds i true).getD j true)) < l.countP fun j => !(listed.getD j true) := by
    intro l
    induction l with
    | nil => intro h; cases h
    | cons a l ih =>
      intro hm
      rw [List.countP_cons, List.countP_cons]
      by_cases e : a = i
      · subst e
        rw [get a, if_pos rfl, h]
        have := hle l
        simp only [Bool.not_true, Bool.not_false, if_true, Bool.false_eq_true, if_false]
        omega
      · have hm' : i ∈ l := by
          rcases List.mem_cons.1 hm with h1 | h1
          · exact absurd h1.symm e
          · exact h1
        rw [get a, if_neg e]
        have := ih hm'
        omega
  exact this _ (List.mem_range.2 hi)

/-- Where each operation's predecessors stand ahead of it, nothing is ready only when all has been done. -/
theorem all_done {md : Region.Mode} {ops : Array Oper} {listed : Array Bool} (hback : ∀ i o, ops[i]? = some o → ∀ e ∈ o.after, Region.binds md e = true → e.on < i) (hs : listed.size = ops.size) (h : Region.ready md ops listed = []) :
    ∀ i, i < ops.size → listed.getD i true = true := by
  intro i
  induction i using Nat.strongRecOn with
  | ind i ih =>
    intro hi
    cases hl : listed.getD i true with
    | true => rfl
    | false =>
      exfalso
      have hm : i ∈ Region.ready md ops listed := by
        rw [mem_ready]
        refine ⟨hl, ops[i], Array.getElem?_eq_getElem hi, fun e he hb => ?_⟩
        have hlt := hback i _ (Array.getElem?_eq_getElem hi) e he hb
        have := ih e.on hlt (by omega)
        have hb : e.on < listed.size := by omega
        simpa [Array.getD_eq_getD_getElem?, Array.getElem?_eq_getElem hb] using this
      rw [h] at hm
      cases hm

theorem wpAny_inv {P : Program} {md : Region.Mode} {ops : Array Oper} {Q : Exit → Act → World → Prop} (Inv : Array Bool → Act → World → Prop)
    (hback : ∀ i o, ops[i]? = some o → ∀ e ∈ o.after, Region.binds md e = true → e.on < i)
    (hstep : ∀ (listed : Array Bool) (a : Act) (w : World) (i : Nat) (o : Oper), listed.size = ops.size → Inv listed a w → ops[i]? = some o → listed.getD i true = false → (∀ e ∈ o.after, Region.binds md e = true → listed.getD e.on false = true) →
      wpOp P ops Q i (fun a' w' => Inv (listed.setIfInBounds i true) a' w') a w)
    (hend : ∀ (listed : Array Bool) (a : Act) (w : World), listed.size = ops.size → Inv listed a w → (∀ i, i < ops.size → listed.getD i true = true) → Q .normal a w) :
    ∀ (fuel : Nat) (listed : Array Bool) (a : Act) (w : World), listed.size = ops.size → todo ops.size listed ≤ fuel → Inv listed a w → wpAny P md ops Q fuel listed a w
  | 0, listed, a, w, hs, ht, hi => by
    have hr : Region.ready md ops listed = [] := by
      cases hr : Region.ready md ops listed with
      | nil => rfl
      | cons j l =>
        have hj : j ∈ Region.ready md ops listed := by rw [hr]; exact List.mem_cons_self ..
        obtain ⟨h1, o, h2, -⟩ := mem_ready.1 hj
        have := todo_lt (Array.getElem?_eq_some_iff.1 h2).1 hs h1
        omega
    exact ⟨hr, hend listed a w hs hi (all_done hback hs hr)⟩
  | fuel + 1, listed, a, w, hs, ht, hi => by
    refine ⟨fun hr => hend listed a w hs hi (all_done hback hs hr), fun i hm => ?_⟩
    obtain ⟨h1, o, h2, h3⟩ := mem_ready.1 hm
    refine wpOp_mono (fun a' w' h' => ?_) (hstep listed a w i o hs hi h2 h1 h3)
    have := todo_lt (Array.getElem?_eq_some_iff.1 h2).1 hs h1
    exact wpAny_inv Inv hback hstep hend fuel _ a' w' (by simpa using hs) (by omega) h'

theorem wp_region_inv {P : Program} {id : Nat} {ops : Array Oper} {Q : Exit → Act → World → Prop} {a : Act} {w : World} (hm : P.follows .mixedOrders = true) (Inv : Array Bool → Act → World → Prop)
    (hback : ∀ i o, ops[i]? = some o → ∀ e ∈ o.after, Region.binds .any e = true → e.on < i)
    (h0 : Inv (Array.replicate ops.size false) a w.drew)
    (hstep : ∀ (listed : Array Bool) (a : Act) (w : World) (i : Nat) (o : Oper), listed.size = ops.size → Inv listed a w → ops[i]? = some o → listed.getD i true = false → (∀ e ∈ o.after, Region.binds .any e = true → listed.getD e.on false = true) →
      wpOp P ops Q i (fun a' w' => Inv (listed.setIfInBounds i true) a' w') a w)
    (hend : ∀ (listed : Array Bool) (a : Act) (w : World), listed.size = ops.size → Inv listed a w → (∀ i, i < ops.size → listed.getD i true = true) → Q .normal a w) :
    (Code.region id ops true).wp P Q a w := by
  refine wp_region_any hm (wpAny_inv Inv hback hstep hend ops.size _ a _ (by simp) ?_ h0)
  unfold todo
  exact Nat.le_trans (List.countP_le_length) (by simp)
end Go.Proofs.Ytebnjfpffdlbbaa
