/- Two objects that change, two copies that stay. -/
import Derived.Test.YtphfcfnbefikiaaF6a
import Derived.Test.YtphfcfnbefikiaaN2
namespace Go.Proofs.Ytphfcfnbefikiaa
open Go.RowKit
set_option linter.unusedVariables false
set_option linter.unusedSimpArgs false

theorem client_is (n : Int) (w : World) : Calls Try.prog 12 #[i64 n] w fun e w' => e = .returned (i64 (1 + (IntKind.u64.wrap n).tmod 6)) ∧ w = w' := by
  have h := urem n 6 (by decide) (by decide)
  generalize hx : (IntKind.u64.wrap n).tmod 6 = x at h ⊢
  go_enter Try.func12, Try.ntmps12
  go_wp2
  go_returns
  exact ⟨rfl, rfl⟩

def Ts (S : Nat → Prop) (wS w : World) (c : Int) (X Y : Nat) (L : List Th) (Q : List Pu) : Prop :=
  ∃ H v u, Ob w X H v c L ∧ Re w Y u c Q ∧ (∀ k, Fp X H v k → ¬ Gp Y u k) ∧ (∀ k, S k → ¬ Fp X H v k) ∧ (∀ k, S k → ¬ Gp Y u k) ∧ Stay S wS w
theorem Stay.rch {S : Nat → Prop} {wS w w' : World} {Y : Nat} {u : Value} (h : Stay S wS w) (hc : Ch (some Y) u.ownBlock w w') (hS : ∀ k, S k → ¬ Gp Y u k) : Stay S wS w' :=
  ⟨hc.os.trans h.os, hc.tape.trans h.tape, hc.output.trans h.output, Nat.le_trans h.size hc.size, h.lt, fun k hk => (gp_keep hc (Nat.lt_of_lt_of_le (h.lt k hk) h.size) (hS k hk)).trans (h.block k hk)⟩
section
variable {S : Nat → Prop} {wS w w' : World} {c : Int} {X Y : Nat} {L : List Th} {Q : List Pu}
theorem Ts.stay (h : Ts S wS w c X Y L Q) : Stay S wS w := by
  obtain ⟨_, _, _, -, -, -, -, -, hs⟩ := h; exact hs
theorem Ts.grow (h : Ts S wS w c X Y L Q) (hb : Below w.heap.size w w') : Ts S wS w' c X Y L Q := by
  obtain ⟨H, v, u, hO, hR, hd, s1, s2, hs⟩ := h
  exact ⟨H, v, u, hO.below hb, hR.below hb, hd, s1, s2, hs.grow hb⟩
theorem Ts.doI (h : Ts S wS w c X Y L Q) (h1 : 1 ≤ c) (h2 : c ≤ 6) (o k x : Int) (ho : (Lit.int .i64 o).wf = true) (hn : L.length ≤ 1000) (hs : isMap c = true → Srt L) :
    Calls Try.prog 16 #[P X, i64 o, u64 k, u64 x] w fun e w' => e = .returned (ansV (Ytphfcfnbefikiaa.doI c o k x L).1) ∧ Ts S wS w' c X Y (Ytphfcfnbefikiaa.doI c o k x L).2 Q := by
  obtain ⟨H, v, u, hO, hR, hd, s1, s2, hst⟩ := h
  refine (do_any h1 h2 o k x ho w hO hn hs).mono ?_
  rintro e w' ⟨he, v', g1, g2, g3⟩
  refine ⟨he, H, v', u, g1, ?_, fun k hk hg => ?_, fun k hk hg => ?_, s2, hst.ch g2 s1⟩
  · exact re_kept hR (fp_keep g2 hR.ltY (fun e => hd _ e (.inl rfl))) fun b hb => fp_keep g2 (hR.sl.lt hb) (fun e => hd _ e (.inr hb))
  · rcases fp_mv g3 hk with e | e
    · exact hd k e hg
    · have := gp_lt hR hg; omega
  · rcases fp_mv g3 hg with e | e
    · exact s1 k hk e
    · have := hst.lt k hk; have := hst.size; omega
theorem Ts.doR (h : Ts S wS w c X Y L Q) (o k x : Int) (hn : Q.length ≤ 1000) :
    Calls Try.prog 26 #[P Y, i64 o, u64 k, u64 x] w fun e w' => e = .returned (ansV (Ytphfcfnbefikiaa.doR c o k x Q).1) ∧ Ts S wS w' c X Y L (Ytphfcfnbefikiaa.doR c o k x Q).2 := by
  obtain ⟨H, v, u, hO, hR, hd, s1, s2, hst⟩ := h
  refine (rdo_any o k x w hR hn).mono ?_
  rintro e w' ⟨he, u', g1, g2, g3⟩
  refine ⟨he, H, v, u', ?_, g1, fun k hk hg => ?_, s1, fun k hk hg => ?_, hst.rch g2 s2⟩
  · exact hO.kept (gp_keep g2 hO.ltX (fun e => hd _ (.inl rfl) e)) (gp_keep g2 hO.ltH (fun e => hd _ (.inr (.inl rfl)) e)) fun b hb => gp_keep g2 (hO.sl.lt hb) (fun e => hd _ (.inr (.inr hb)) e)
  · rcases gp_mv g3 hg with e | e
    · exact hd k hk e
    · have := fp_lt hO hk; omega
  · rcases gp_mv g3 hg with e | e
    · exact s2 k hk e
    · have := hst.lt k hk; have := hst.size; omega

/-- The two, and their copies. -/
theorem quad {wb w2 w3 w4 : World} {X2 Y2 : Nat} (h : Two wb w2 c X Y L Q) (h1 : Made w2 c L w3 X2) (h2 : RMade w3 c Q w4 Y2) :
    ∃ (S : Nat → Prop) (H v H2 v2 u u2 : _), Ob w4 X H v c L ∧ Re w4 Y u c Q ∧ Ob w4 X2 H2 v2 c L ∧ Re w4 Y2 u2 c Q ∧
      (∀ W, Below w4.heap.size w4 W → Ts S W W c X Y L Q) ∧ (∀ W1 W, Below w4.heap.size w4 W1 → Stay S W1 W → Ob W X2 H2 v2 c L ∧ Re W Y2 u2 c Q) ∧ (∀ k, k < wb.heap.size → S k) ∧ Below wb.heap.size wb w4 := by
  obtain ⟨H, v, u, hO, hR, hd, l1, l2, hb0⟩ := h
  obtain ⟨H2, v2, o2, b2, x1, y1, z1⟩ := h1
  obtain ⟨u2, r2, b3, x2, z2⟩ := h2
  have s0 := hb0.size
  have s1 := b2.size
  have s2 := b3.size
  have b24 : Below w2.heap.size w2 w4 := b2.trans (b3.mono s1)
  have g1 : ∀ k, Fp X2 H2 v2 k → w2.heap.size ≤ k ∧ k < w4.heap.size := fun k hk => by
    have := fp_lt o2 hk
    refine ⟨?_, by omega⟩
    rcases hk with rfl | rfl | hk
    · exact x1
    · exact y1
    · exact z1 k hk
  have g2 : ∀ k, Gp Y2 u2 k → w2.heap.size ≤ k ∧ k < w4.heap.size := fun k hk => by
    have := gp_lt r2 hk
    refine ⟨?_, this⟩
    rcases hk with rfl | hk
    · exact Nat.le_trans s1 x2
    · exact Nat.le_trans s1 (z2 k hk)
  have hS : ∀ k, w2.heap.size ≤ k → k < w4.heap.size → (k < w4.heap.size ∧ ¬ Fp X H v k ∧ ¬ Gp Y u k) := fun k hk hk4 =>
    ⟨hk4, fun e => by have := fp_lt hO e; omega, fun e => by have := gp_lt hR e; omega⟩
  refine ⟨fun k => k < w4.heap.size ∧ ¬ Fp X H v k ∧ ¬ Gp Y u k, H, v, H2, v2, u, u2, hO.below b24, hR.below b24, o2.below b3, r2, fun W hW => ?_, fun W1 W hW1 hst => ?_, fun k hk => ?_, hb0.trans (b24.mono s0)⟩
  · exact ⟨H, v, u, (hO.below b24).below hW, (hR.below b24).below hW, hd, fun k hk => hk.2.1, fun k hk => hk.2.2, Stay.refl fun k hk => Nat.lt_of_lt_of_le hk.1 hW.size⟩
  · have bl : ∀ k, w2.heap.size ≤ k → k < w4.heap.size → W.heap[k]? = w4.heap[k]? := fun k h1 h2 => (hst.block k (hS k h1 h2)).trans (hW1.block k h2)
    have ob := o2.below b3
    refine ⟨ob.kept (bl _ (g1 _ (.inl rfl)).1 (g1 _ (.inl rfl)).2) (bl _ (g1 _ (.inr (.inl rfl))).1 (g1 _ (.inr (.inl rfl))).2) fun b hb => bl _ (g1 _ (.inr (.inr hb))).1 (g1 _ (.inr (.inr hb))).2,
      re_kept r2 (bl _ (g2 _ (.inl rfl)).1 (g2 _ (.inl rfl)).2) fun b hb => bl _ (g2 _ (.inr hb)).1 (g2 _ (.inr hb)).2⟩
  · refine ⟨by omega, fun e => ?_, fun e => ?_⟩
    · have := l1 k e; omega
    · have := l2 k e; omega
end
end Go.Proofs.Ytphfcfnbefikiaa
