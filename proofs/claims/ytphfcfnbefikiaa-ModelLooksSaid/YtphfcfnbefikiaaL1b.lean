/- A region that draws, one of whose operations makes what the later ones are about. -/
import Derived.Test.YtphfcfnbefikiaaL1
namespace Go.Proofs.Ytphfcfnbefikiaa
open Go.RowKit
set_option linter.unusedVariables false
set_option linter.unusedSimpArgs false

/-- wp_region_state, where the state speaks of the values too. -/
theorem wp_region_full {P : Program} {id : Nat} {ops : Array Oper} {Q : Exit → Act → World → Prop} {w0 : World} (hm : P.follows .mixedOrders = true) (Fr : (Nat → Value) → Act) (St : Array Bool → (Nat → Value) → World → Prop) (x0 : Nat → Value)
    (hback : ∀ i o, ops[i]? = some o → ∀ e ∈ o.after, Region.binds .any e = true → e.on < i)
    (h0 : St (Array.replicate ops.size false) x0 w0.drew)
    (hstep : ∀ i o, ops[i]? = some o → ∀ (l : Array Bool) (x : Nat → Value) (w : World), l.size = ops.size → l.getD i true = false → St l x w → (∀ e ∈ o.after, Region.binds .any e = true → l.getD e.on false = true) →
      wpOp P ops Q i (fun a' w' => ∃ v, a' = Fr (upd x i v) ∧ St (l.setIfInBounds i true) (upd x i v) w') (Fr x) w)
    (hend : ∀ (l : Array Bool) (x : Nat → Value) (w : World), St l x w → (∀ j, j < ops.size → l.getD j false = true) → Q .normal (Fr x) w) : (Code.region id ops true).wp P Q (Fr x0) w0 := by
  refine wp_region_inv hm (fun l a w => ∃ x, a = Fr x ∧ St l x w) hback ⟨x0, rfl, h0⟩ ?_ ?_
  · intro l a w i o hs hinv ho hl hpre
    obtain ⟨x, rfl, hst⟩ := hinv
    refine wpOp_mono ?_ (hstep i o ho l x w hs hl hst fun e he hbd => hpre e he hbd)
    rintro a' w' ⟨v, rfl, hst'⟩
    exact ⟨_, rfl, hst'⟩
  · intro l a w hs hinv hall
    obtain ⟨x, rfl, hst⟩ := hinv
    exact hend l x w hst fun j hj => lst_all (by omega) (hall j hj)

/-- Ahead of operation K fixed values; behind it, values by what it made. -/
def Big {α : Type} (K : Nat) (val : Nat → Value) (Pre : World → Prop) (VX : α → Nat → Value) (T : α → World → Prop) (l : Array Bool) (x : Nat → Value) (W : World) : Prop :=
  (∀ j, j < K → l.getD j false = true → x j = val j) ∧ (l.getD K false = false → Pre W ∧ ∀ j, K < j → l.getD j false = false) ∧
    (l.getD K false = true → ∃ a, T a W ∧ ∀ j, K ≤ j → l.getD j false = true → x j = VX a j)
section
variable {α : Type} {K : Nat} {val : Nat → Value} {Pre : World → Prop} {VX : α → Nat → Value} {T : α → World → Prop} {l : Array Bool} {x : Nat → Value} {W W' : World}
theorem upd_ne {i j : Nat} {v : Value} (h : j ≠ i) : upd x i v j = x j := by unfold upd; rw [if_neg h]
theorem upd_eq {i : Nat} {v : Value} : upd x i v i = v := by unfold upd; rw [if_pos rfl]
theorem Big.start (h : Pre W) (n : Nat) : Big K val Pre VX T (Array.replicate n false) x W := by
  have : ∀ j, (Array.replicate n false).getD j false = false := fun j => by
    simp only [Array.getD_eq_getD_getElem?, Array.getElem?_replicate]
    split <;> rfl
  exact ⟨fun j _ e => (by rw [this] at e; exact absurd e (by decide)), fun _ => ⟨h, fun j _ => this j⟩, fun e => (by rw [this] at e; exact absurd e (by decide))⟩
theorem Big.lo {i : Nat} {v : Value} (h : Big K val Pre VX T l x W) (hi : i < K) (hv : v = val i) : Big K val Pre VX T (l.setIfInBounds i true) (upd x i v) W := by
  refine ⟨fun j hj e => ?_, fun e => ?_, fun e => ?_⟩
  · by_cases hji : j = i
    · subst hji; rw [upd_eq]; exact hv
    · rw [upd_ne hji]; rw [lst_ne (fun h => hji h.symm)] at e; exact h.1 j hj e
  · rw [lst_ne (by omega)] at e
    obtain ⟨a, b⟩ := h.2.1 e
    exact ⟨a, fun j hj => by rw [lst_ne (by omega)]; exact b j hj⟩
  · rw [lst_ne (by omega)] at e
    obtain ⟨a, b, c⟩ := h.2.2 e
    exact ⟨a, b, fun j hj e => by rw [lst_ne (by omega)] at e; rw [upd_ne (by omega)]; exact c j hj e⟩
theorem Big.mid {v : Value} {a : α} (h : Big K val Pre VX T l x W) (hs : K < l.size) (hl : l.getD K false = false) (hT : T a W') (hv : v = VX a K) : Big K val Pre VX T (l.setIfInBounds K true) (upd x K v) W' := by
  refine ⟨fun j hj e => ?_, fun e => ?_, fun e => ⟨a, hT, fun j hj e => ?_⟩⟩
  · rw [upd_ne (by omega)]; rw [lst_ne (by omega)] at e; exact h.1 j hj e
  · rw [lst_eq hs] at e; cases e
  · by_cases hji : j = K
    · subst hji; rw [upd_eq]; exact hv
    · rw [lst_ne (fun h => hji h.symm)] at e
      have := (h.2.1 hl).2 j (by omega)
      rw [this] at e; cases e
theorem Big.hi {i : Nat} {v : Value} {a : α} (h : Big K val Pre VX T l x W) (hi : K < i) (hK : l.getD K false = true) (hT : T a W') (hx : ∀ j, K ≤ j → l.getD j false = true → x j = VX a j) (hv : v = VX a i) : Big K val Pre VX T (l.setIfInBounds i true) (upd x i v) W' := by
  refine ⟨fun j hj e => ?_, fun e => ?_, fun e => ⟨a, hT, fun j hj e => ?_⟩⟩
  · rw [upd_ne (by omega)]; rw [lst_ne (by omega)] at e; exact h.1 j hj e
  · rw [lst_ne (by omega)] at e; rw [hK] at e; cases e
  · by_cases hji : j = i
    · subst hji; rw [upd_eq]; exact hv
    · rw [upd_ne hji]; rw [lst_ne (fun h => hji h.symm)] at e; exact hx j hj e
theorem Big.got {j : Nat} (h : Big K val Pre VX T l x W) (hj : K ≤ j) (e : l.getD j false = true) : l.getD K false = true := by
  cases hK : l.getD K false with
  | true => rfl
  | false =>
    exfalso
    by_cases hjk : j = K
    · subst hjk; rw [hK] at e; cases e
    · have := (h.2.1 hK).2 j (by omega); rw [this] at e; cases e
end
theorem Two.from {wb W w : World} {c : Int} {X Y : Nat} {L : List Th} {Q : List Pu} (hb : Below wb.heap.size wb W) (h : Two W w c X Y L Q) : Two wb w c X Y L Q := by
  obtain ⟨H, v, u, hO, hR, hd, l1, l2, hb2⟩ := h
  exact ⟨H, v, u, hO, hR, hd, fun k hk => Nat.le_trans hb.size (l1 k hk), fun k hk => Nat.le_trans hb.size (l2 k hk), hb.trans (hb2.mono hb.size)⟩
theorem Two.copy {w0 w : World} {c : Int} {X Y : Nat} {L : List Th} {Q : List Pu} (h : Two w0 w c X Y L Q) (hn : L.length ≤ 1000) : Calls Try.prog 20 #[P X] w fun e w' => ∃ X', e = .returned (P X') ∧ Made w c L w' X' := by
  obtain ⟨H, v, u, hO, -⟩ := h; exact copy_any w hO hn
theorem Two.rcopy {w0 w : World} {c : Int} {X Y : Nat} {L : List Th} {Q : List Pu} (h : Two w0 w c X Y L Q) (hn : Q.length ≤ 1000) : Calls Try.prog 21 #[P Y] w fun e w' => ∃ Y', e = .returned (P Y') ∧ RMade w c Q w' Y' := by
  obtain ⟨H, v, u, -, hR, -⟩ := h; exact rcopy_any w hR hn
theorem Made.below {w0 w : World} {c : Int} {X : Nat} {L : List Th} (h : Made w0 c L w X) : Below w0.heap.size w0 w := by
  obtain ⟨_, _, -, b, -⟩ := h; exact b
end Go.Proofs.Ytphfcfnbefikiaa
