/- Two objects that change, while a set of blocks stays. -/
import Derived.Test.YtphfcfnbefikiaaF3
import Derived.Test.YtphfcfnbefikiaaF5
import Derived.Test.YtphfcfnbefikiaaP3
namespace Go.Proofs.Ytphfcfnbefikiaa
open Go.RowKit
set_option linter.unusedVariables false
set_option linter.unusedSimpArgs false

/-- The blocks of S are as they were in wS. -/
structure Stay (S : Nat → Prop) (wS w : World) : Prop where
  os : w.os = wS.os
  tape : w.tape = wS.tape
  output : w.output = wS.output
  size : wS.heap.size ≤ w.heap.size
  lt : ∀ k, S k → k < wS.heap.size
  block : ∀ k, S k → w.heap[k]? = wS.heap[k]?
theorem Stay.refl {S : Nat → Prop} {w : World} (h : ∀ k, S k → k < w.heap.size) : Stay S w w := ⟨rfl, rfl, rfl, Nat.le_refl _, h, fun _ _ => rfl⟩
theorem Stay.below {S : Nat → Prop} {w0 wS w : World} (h : Stay S wS w) (hb : Below w0.heap.size w0 wS) (hS : ∀ k, k < w0.heap.size → S k) : Below w0.heap.size w0 w :=
  ⟨h.os.trans hb.os, h.tape.trans hb.tape, h.output.trans hb.output, Nat.le_trans hb.size h.size, fun k hk => (h.block k (hS k hk)).trans (hb.block k hk)⟩
theorem Stay.ch {S : Nat → Prop} {wS w w' : World} {X H : Nat} {v : Value} (h : Stay S wS w) (hc : Ch (some H) v.ownBlock w w') (hS : ∀ k, S k → ¬ Fp X H v k) : Stay S wS w' :=
  ⟨hc.os.trans h.os, hc.tape.trans h.tape, hc.output.trans h.output, Nat.le_trans h.size hc.size, h.lt, fun k hk => (fp_keep hc (Nat.lt_of_lt_of_le (h.lt k hk) h.size) (hS k hk)).trans (h.block k hk)⟩
theorem Stay.grow {S : Nat → Prop} {wS w w' : World} (h : Stay S wS w) (hb : Below w.heap.size w w') : Stay S wS w' :=
  ⟨hb.os.trans h.os, hb.tape.trans h.tape, hb.output.trans h.output, Nat.le_trans h.size hb.size, h.lt, fun k hk => (hb.block k (Nat.lt_of_lt_of_le (h.lt k hk) h.size)).trans (h.block k hk)⟩
theorem Stay.cell {S : Nat → Prop} {wS w : World} (h : Stay S wS w) {b o : Nat} {v : Value} (hS : S b) (hc : wS.cell? ⟨b, o, none⟩ = some v) : w.cell? ⟨b, o, none⟩ = some v :=
  (World.cell?_of_block (a := ⟨b, o, none⟩) (h.block b hS)).trans hc

def Pr (S : Nat → Prop) (wS w : World) (c : Int) (X1 X2 : Nat) (L1 L2 : List Th) : Prop :=
  ∃ H1 v1 H2 v2, Ob w X1 H1 v1 c L1 ∧ Ob w X2 H2 v2 c L2 ∧ (∀ k, Fp X1 H1 v1 k → ¬ Fp X2 H2 v2 k) ∧ (∀ k, S k → ¬ Fp X1 H1 v1 k) ∧ (∀ k, S k → ¬ Fp X2 H2 v2 k) ∧ Stay S wS w
section
variable {S : Nat → Prop} {wS w w' : World} {c : Int} {X1 X2 : Nat} {L1 L2 : List Th}
theorem Pr.stay (h : Pr S wS w c X1 X2 L1 L2) : Stay S wS w := by
  obtain ⟨_, _, _, _, -, -, -, -, -, hs⟩ := h; exact hs
theorem Pr.symm (h : Pr S wS w c X1 X2 L1 L2) : Pr S wS w c X2 X1 L2 L1 := by
  obtain ⟨H1, v1, H2, v2, o1, o2, hd, s1, s2, hs⟩ := h
  exact ⟨H2, v2, H1, v1, o2, o1, fun k a b => hd k b a, s2, s1, hs⟩
theorem Pr.grow (h : Pr S wS w c X1 X2 L1 L2) (hb : Below w.heap.size w w') : Pr S wS w' c X1 X2 L1 L2 := by
  obtain ⟨H1, v1, H2, v2, o1, o2, hd, s1, s2, hs⟩ := h
  exact ⟨H1, v1, H2, v2, o1.below hb, o2.below hb, hd, s1, s2, hs.grow hb⟩
theorem Pr.one (h : Pr S wS w c X1 X2 L1 L2) (h1 : 1 ≤ c) (h2 : c ≤ 6) (o k x : Int) (ho : (Lit.int .i64 o).wf = true) (hn : L1.length ≤ 1000) (hs : isMap c = true → Srt L1) :
    Calls Try.prog 16 #[P X1, i64 o, u64 k, u64 x] w fun e w' => e = .returned (ansV (doI c o k x L1).1) ∧ Pr S wS w' c X1 X2 (doI c o k x L1).2 L2 := by
  obtain ⟨H, v, H2, v2, hO, o2, hd, s1, s2, hst⟩ := h
  refine (do_any h1 h2 o k x ho w hO hn hs).mono ?_
  rintro e w' ⟨he, v', g1, g2, g3⟩
  refine ⟨he, H, v', H2, v2, g1, ob_keep g2 o2 hd, fun k hk hg => ?_, fun k hk hg => ?_, s2, hst.ch g2 s1⟩
  · rcases fp_mv g3 hk with e | e
    · exact hd k e hg
    · have := fp_lt o2 hg; omega
  · rcases fp_mv g3 hg with e | e
    · exact s1 k hk e
    · have := hst.lt k hk; have := hst.size; omega
theorem Pr.two (h : Pr S wS w c X1 X2 L1 L2) (h1 : 1 ≤ c) (h2 : c ≤ 6) (o k x : Int) (ho : (Lit.int .i64 o).wf = true) (hn : L2.length ≤ 1000) (hs : isMap c = true → Srt L2) :
    Calls Try.prog 16 #[P X2, i64 o, u64 k, u64 x] w fun e w' => e = .returned (ansV (doI c o k x L2).1) ∧ Pr S wS w' c X1 X2 L1 (doI c o k x L2).2 :=
  (h.symm.one h1 h2 o k x ho hn hs).mono fun e w' ⟨he, h'⟩ => ⟨he, h'.symm⟩
/-- an object that was there, and a new one: what lay before the first, and what came between, stays -/
theorem Pr.made {w0 wa : World} {Y : Nat} {Q : List Pu} (h : Two w0 wa c X2 Y L2 Q) (hw : Below wa.heap.size wa w) (hm : Made w c L1 w' X1) :
    ∃ S, Pr S w' w' c X1 X2 L1 L2 ∧ (∀ k, k < w0.heap.size → S k) ∧ (∀ k, wa.heap.size ≤ k → k < w.heap.size → S k) ∧ Below w0.heap.size w0 w' := by
  obtain ⟨H2, v2, u, o2, -, -, l2, -, hb⟩ := h
  obtain ⟨H1, v1, o1, b1, x1, y1, z1⟩ := hm
  have g1 : ∀ k, Fp X1 H1 v1 k → w.heap.size ≤ k := fun k hk => by
    rcases hk with rfl | rfl | hk
    · exact x1
    · exact y1
    · exact z1 k hk
  have s1 := hb.size
  have s2 := hw.size
  have s3 := b1.size
  refine ⟨fun k => k < w'.heap.size ∧ ¬ Fp X1 H1 v1 k ∧ ¬ Fp X2 H2 v2 k, ⟨H1, v1, H2, v2, o1, (o2.below hw).below b1, fun k a b => ?_, fun k hk => hk.2.1, fun k hk => hk.2.2, Stay.refl fun k hk => hk.1⟩, fun k hk => ⟨?_, fun e => ?_, fun e => ?_⟩, fun k hk hk2 => ⟨?_, fun e => ?_, fun e => ?_⟩, hb.trans ((hw.trans (b1.mono s2)).mono s1)⟩
  · have := fp_lt o2 b; have := g1 k a; omega
  · omega
  · have := g1 k e; omega
  · have := l2 k e; omega
  · omega
  · have := g1 k e; omega
  · have := fp_lt o2 e; omega
end
end Go.Proofs.Ytphfcfnbefikiaa
