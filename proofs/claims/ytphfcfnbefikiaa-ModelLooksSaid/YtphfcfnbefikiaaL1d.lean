/- A slice of things of one's own, whose values are turned. -/
import Derived.Test.YtphfcfnbefikiaaL1c
namespace Go.Proofs.Ytphfcfnbefikiaa
open Go.RowKit
set_option linter.unusedVariables false
set_option linter.unusedSimpArgs false

/-- m things at or above block B, with whatever values. -/
def Own2 (B : Nat) (ad : Option Addr) (cap m : Nat) (W : World) : Prop :=
  ∃ xs, Sl W 51 2 (.slice ad m cap) m xs ∧ (∀ i, i < m → ∃ z, xs[i * 2 + 1]? = some (.int .u64 z)) ∧ ∀ b, (Value.slice ad m cap).ownBlock = some b → B ≤ b
section
variable {B cap m : Nat} {ad : Option Addr} {W : World} {L : List Th}
theorem OwnSl.own2 (h : OwnSl B W (.slice ad m cap) m L) : Own2 B ad cap m W := by
  obtain ⟨h1, h2, h3⟩ := h
  refine ⟨cells2 L, h2, fun i hi => ?_, h3⟩
  have : i < L.length := by omega
  exact ⟨_, cells2_1 (List.getElem?_eq_getElem this)⟩
theorem Own2.at (h : Own2 B ad cap m W) {i : Nat} (hi : i < m) : ∃ (b off : Nat) (z : Int), ad = some ⟨b, off, none⟩ ∧ B ≤ b ∧ W.cell? ⟨b, off + i * 2 + 1, none⟩ = some (.int .u64 z) ∧ W.frozen? ⟨b, off + i * 2 + 1, none⟩ = false ∧
    ∀ z', Own2 B ad cap m (W.setCell ⟨b, off + i * 2 + 1, none⟩ (.int .u64 z')) := by
  obtain ⟨xs, hs, hz, hb⟩ := h
  obtain ⟨z, hxz⟩ := hz i hi
  rcases hs.2.2 with ⟨hv, hm⟩ | ⟨b, off, cap', cur, hv, hh, a1, a2, a3, a4⟩
  · omega
  · simp only [Value.slice.injEq, true_and] at hv
    obtain ⟨rfl, rfl⟩ := hv
    have hlt : i * 2 + 1 < m * 2 := by omega
    refine ⟨b, off, z, rfl, hb b rfl, ?_, by simp [World.frozen?, hh], fun z' => ⟨xs.set (i * 2 + 1) (.int .u64 z'), ?_, fun j hj => ?_, hb⟩⟩
    · have := a4 _ hlt
      rw [hxz] at this
      simp [World.cell?, hh, Nat.add_assoc, this]
    · rw [Nat.add_assoc]
      exact hs.set _ rfl hlt
    · by_cases hij : j = i
      · subst hij
        exact ⟨z', List.getElem?_set_self (by rw [hs.1]; exact hlt)⟩
      · obtain ⟨y, hy⟩ := hz j hj
        exact ⟨y, by rw [List.getElem?_set_ne (by omega)]; exact hy⟩
end
/-- The two, and their copies; what is made later may stay, too. -/
theorem quad' {wb w2 w3 w4 : World} {c : Int} {L : List Th} {Q : List Pu} {X Y X2 Y2 : Nat} (h : Two wb w2 c X Y L Q) (h1 : Made w2 c L w3 X2) (h2 : RMade w3 c Q w4 Y2) :
    ∃ (S : Nat → Prop) (H v H2 v2 u u2 : _), Ob w4 X H v c L ∧ Re w4 Y u c Q ∧ Ob w4 X2 H2 v2 c L ∧ Re w4 Y2 u2 c Q ∧
      (∀ W, Below w4.heap.size w4 W → ∀ T : Nat → Prop, (∀ k, T k → w4.heap.size ≤ k ∧ k < W.heap.size) → Ts (fun k => S k ∨ T k) W W c X Y L Q) ∧ (∀ W1 W, Below w4.heap.size w4 W1 → Stay S W1 W → Ob W X2 H2 v2 c L ∧ Re W Y2 u2 c Q) ∧ (∀ k, k < wb.heap.size → S k) ∧ Below wb.heap.size wb w4 := by
  obtain ⟨S, H, v, H2, v2, u, u2, o1, r1, o2, r2, hT, hS, hB, hb⟩ := quad h h1 h2
  refine ⟨S, H, v, H2, v2, u, u2, o1, r1, o2, r2, fun W hW T hT' => ?_, hS, hB, hb⟩
  obtain ⟨H, v, u, hO, hR, hd, l1, l2, hb0⟩ := h
  obtain ⟨H', v', u', q1, q2, q3, q4, q5, q6⟩ := hT w4 (Below.refl _ _)
  refine ⟨H', v', u', q1.below hW, q2.below hW, q3, fun k hk e => ?_, fun k hk e => ?_, Stay.refl fun k hk => ?_⟩
  · rcases hk with hk | hk
    · exact q4 k hk e
    · have := (hT' k hk).1; have := fp_lt q1 e; omega
  · rcases hk with hk | hk
    · exact q5 k hk e
    · have := (hT' k hk).1; have := gp_lt q2 e; omega
  · rcases hk with hk | hk
    · exact Nat.lt_of_lt_of_le (q6.lt k hk) hW.size
    · exact (hT' k hk).2
theorem Stay.less {S T : Nat → Prop} {wS w : World} (h : Stay (fun k => S k ∨ T k) wS w) : Stay S wS w :=
  ⟨h.os, h.tape, h.output, h.size, fun k hk => h.lt k (.inl hk), fun k hk => h.block k (.inl hk)⟩
end Go.Proofs.Ytphfcfnbefikiaa
