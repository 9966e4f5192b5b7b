/- The document's Things: one thing more. -/
import Derived.Test.YtphfcfnbefikiaaS1
import Derived.Test.YtphfcfnbefikiaaR4
namespace Go.Proofs.Ytphfcfnbefikiaa
open Go.RowKit
set_option linter.unusedVariables false
set_option linter.unusedSimpArgs false

/-- where a thing is laid among those that have been told -/
def atOf (c : Int) (out : List Th) (t : Th) : Nat := if c = 1 then 0 else if isMap c = true then low out t.1 else out.length
def tstep (c : Int) (out : List Th) (p : Pu) : List Th := if p.2 then out else insL out (atOf c out p.1) p.1
def tupto (c : Int) (Q : List Pu) : List Th := Q.foldl (tstep c) []
theorem tupto_snoc (c : Int) (Q : List Pu) (p : Pu) : tupto c (Q ++ [p]) = tstep c (tupto c Q) p := by unfold tupto; rw [List.foldl_append]; rfl
theorem atOf_le (c : Int) (out : List Th) (t : Th) : atOf c out t ≤ out.length := by
  unfold atOf
  split
  · omega
  · split
    · exact low_le _ _
    · omega
theorem tstep_len (c : Int) (out : List Th) (p : Pu) : (tstep c out p).length ≤ out.length + 1 := by
  unfold tstep
  split
  · omega
  · rw [insL_len _ _ _ (atOf_le c out p.1)]; omega
theorem tupto_len (c : Int) (Q : List Pu) : (tupto c Q).length ≤ Q.length := by
  have : ∀ (Q : List Pu) (out : List Th), (Q.foldl (tstep c) out).length ≤ out.length + Q.length := by
    intro Q
    induction Q with
    | nil => intro out; simp
    | cons p Q ih =>
      intro out
      have h1 := ih (tstep c out p)
      have h2 := tstep_len c out p
      simp only [List.foldl_cons, List.length_cons]; omega
  have := this Q []
  simpa [tupto] using this
theorem fold_live (f : List Th → Th → List Th) (Q : List Pu) : ∀ out, Q.foldl (fun out p => if p.2 then out else f out p.1) out = (live Q).foldl f out := by
  induction Q with
  | nil => intro out; rfl
  | cons p Q ih =>
    intro out
    rw [List.foldl_cons, ih, live_cons]
    split
    · rfl
    · rfl
theorem fold_cons (l : List Th) : ∀ out, l.foldl (fun o t => t :: o) out = l.reverse ++ out := by
  induction l with
  | nil => intro out; rfl
  | cons t l ih => intro out; rw [List.foldl_cons, ih]; simp
theorem fold_app (l : List Th) : ∀ out, l.foldl (fun o t => o ++ [t]) out = out ++ l := by
  induction l with
  | nil => intro out; simp
  | cons t l ih => intro out; rw [List.foldl_cons, ih]; simp
theorem tupto_things (c : Int) (Q : List Pu) : tupto c Q = things c Q := by
  have h : tupto c Q = (live Q).foldl (fun out t => insL out (atOf c out t) t) [] := fold_live (fun out t => insL out (atOf c out t) t) Q []
  rw [h]
  unfold things
  by_cases h1 : c = 1
  · subst h1
    rw [if_pos rfl]
    have : (fun (out : List Th) (t : Th) => insL out (atOf 1 out t) t) = fun o t => t :: o := by
      funext o t; simp [insL, atOf]
    rw [this, fold_cons]; simp
  · rw [if_neg h1]
    by_cases hm : isMap c = true
    · rw [if_pos hm]
      have : (fun (out : List Th) (t : Th) => insL out (atOf c out t) t) = fun o t => ins t o := by
        funext o t; simp only [insL, atOf, ins]; rw [if_neg h1, if_pos hm]
      rw [this]
    · rw [if_neg hm]
      have : (fun (out : List Th) (t : Th) => insL out (atOf c out t) t) = fun o t => o ++ [t] := by
        funext o t; simp only [insL, atOf]; rw [if_neg h1, if_neg hm]; simp
      rw [this, fold_app]; simp

/-- a slice of one's own: its row lies from B on -/
def OwnSl (B : Nat) (w : World) (v : Value) (n : Nat) (L : List Th) : Prop := L.length = n ∧ Sl w 51 2 v n (cells2 L) ∧ ∀ b, v.ownBlock = some b → B ≤ b
theorem OwnSl.below {B n : Nat} {w w' : World} {v : Value} {L : List Th} (h : OwnSl B w v n L) (hb : Below w.heap.size w w') : OwnSl B w' v n L := ⟨h.1, h.2.1.below hb, h.2.2⟩

/-- an append to a slice of one's own: of what another slice holds -/
theorem app_own {B n m : Nat} {w W : World} {ad adx : Option Addr} {cap capx : Nat} {L M : List Th} (hw : Below B w W) (hB : B ≤ w.heap.size) (h : OwnSl B W (.slice ad n cap) n L) (hx : Sl W 51 2 (.slice adx m capx) m (cells2 M)) (hM : M.length = m) (hn : n + m ≤ 5000) (ty : TypeId) {k : Nat} (hk : n + m = k) :
    ∃ ad4 cap4 w4, (Builtin.append_ #[22, 22] ty #[.slice ad n cap, .slice adx m capx]).run Try.prog W = .ok (.slice ad4 k cap4) w4 ∧ (OwnSl B w4 (.slice ad4 k cap4) k (L ++ M) ∧ Below B w w4) := by
  obtain ⟨i, z, hi, hz, hzc, hs, h8⟩ := info51p
  have hsrc : Src Try.prog 2 22 (.slice adx m capx) m (cells2 M) W := ⟨.inl ⟨51, Try.underlying22⟩, fun w' => by simp [Builtin.lenOf], firstCells_sl _ hx, firstCells_sl _ (hx.kept (w' := W.drew) fun _ _ => rfl), hx.1, hx.2.1⟩
  obtain ⟨v', w', h1, h2, h3, h4⟩ := h.2.1.append (P := Try.prog) 22 22 ty i z 16 Try.underlying22 hi hz hs h8 hzc (.slice adx m capx) m (cells2 M) hsrc (by unfold maxLen; omega) (by omega)
  obtain ⟨ad4, cap4, rfl, _⟩ := h2.form
  rw [hk] at h1 h2 h4
  rw [← cells2_append] at h2
  have hWs := hw.size
  refine ⟨ad4, cap4, w', h1, ⟨by rw [List.length_append, h.1, hM, hk], h2, fun b hb => ?_⟩, hw.grown h3 (by omega) h.2.2⟩
  rcases h4 b hb with e | e
  · exact h.2.2 b e
  · omega
end Go.Proofs.Ytphfcfnbefikiaa
