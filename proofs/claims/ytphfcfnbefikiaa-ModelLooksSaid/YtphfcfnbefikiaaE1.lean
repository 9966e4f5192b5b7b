/- Three objects and the answers that were kept: what a run of calls leaves of them. -/
import Derived.Test.YtphfcfnbefikiaaC1
import Derived.Test.YtphfcfnbefikiaaS1
namespace Go.Proofs.Ytphfcfnbefikiaa
open Go.RowKit
set_option linter.unusedVariables false
set_option linter.unusedSimpArgs false

def Fp (X H : Nat) (v : Value) (k : Nat) : Prop := k = X ∨ k = H ∨ v.ownBlock = some k
theorem fp_lt {w : World} {X H : Nat} {v : Value} {c : Int} {L : List Th} (h : Ob w X H v c L) {k : Nat} (hk : Fp X H v k) : k < w.heap.size := by
  rcases hk with rfl | rfl | hk
  · exact h.ltX
  · exact h.ltH
  · exact h.sl.lt hk
theorem fp_mv {w : World} {X H : Nat} {v v' : Value} (hm : Mv w v v') {k : Nat} (hk : Fp X H v' k) : Fp X H v k ∨ w.heap.size ≤ k := by
  rcases hk with rfl | rfl | hk
  · exact .inl (.inl rfl)
  · exact .inl (.inr (.inl rfl))
  · rcases hm k hk with e | e
    · exact .inl (.inr (.inr e))
    · exact .inr e
/-- a block that is none of an object's stays, whatever is done to the object -/
theorem fp_keep {w w' : World} {X H : Nat} {v : Value} {k : Nat} (hc : Ch (some H) v.ownBlock w w') (hl : k < w.heap.size) (hk : ¬ Fp X H v k) : w'.heap[k]? = w.heap[k]? :=
  hc.block k hl (fun e => hk (.inr (.inl (by simpa using e)))) (fun e => hk (.inr (.inr e.symm)))
theorem ob_keep {w w' : World} {X H X2 H2 : Nat} {v v2 : Value} {c : Int} {L : List Th} (hc : Ch (some H) v.ownBlock w w') (h2 : Ob w X2 H2 v2 c L) (hd : ∀ k, Fp X H v k → ¬ Fp X2 H2 v2 k) : Ob w' X2 H2 v2 c L :=
  h2.kept (fp_keep hc h2.ltX (fun e => hd _ e (.inl rfl))) (fp_keep hc h2.ltH (fun e => hd _ e (.inr (.inl rfl)))) fun b hb => fp_keep hc (h2.sl.lt hb) (fun e => hd _ e (.inr (.inr hb)))

def ansBox (a : An) : Go.Obj := .cells #[.int .i64 a.1, .bool a.2.1, .int .u64 a.2.2] 40

/-- Three objects, apart from one another, from what lay in w0, and from the answers in bs. -/
structure K3 (w0 w : World) (c1 c2 c3 : Int) (X1 H1 : Nat) (v1 : Value) (L1 : List Th) (X2 H2 : Nat) (v2 : Value) (L2 : List Th) (X3 H3 : Nat) (v3 : Value) (L3 : List Th) (bs : List (Nat × An)) : Prop where
  o1 : Ob w X1 H1 v1 c1 L1
  o2 : Ob w X2 H2 v2 c2 L2
  o3 : Ob w X3 H3 v3 c3 L3
  d12 : ∀ k, Fp X1 H1 v1 k → ¬ Fp X2 H2 v2 k
  d13 : ∀ k, Fp X1 H1 v1 k → ¬ Fp X3 H3 v3 k
  d23 : ∀ k, Fp X2 H2 v2 k → ¬ Fp X3 H3 v3 k
  bx : ∀ p ∈ bs, w.heap[p.1]? = some (ansBox p.2)
  e1 : ∀ p ∈ bs, ¬ Fp X1 H1 v1 p.1
  e2 : ∀ p ∈ bs, ¬ Fp X2 H2 v2 p.1
  e3 : ∀ p ∈ bs, ¬ Fp X3 H3 v3 p.1
  lo1 : ∀ k, Fp X1 H1 v1 k → w0.heap.size ≤ k
  lo2 : ∀ k, Fp X2 H2 v2 k → w0.heap.size ≤ k
  lo3 : ∀ k, Fp X3 H3 v3 k → w0.heap.size ≤ k
  below : Below w0.heap.size w0 w

section
variable {w0 w w' : World} {c1 c2 c3 : Int} {X1 H1 X2 H2 X3 H3 : Nat} {v1 v2 v3 : Value} {L1 L2 L3 L' : List Th} {bs : List (Nat × An)}
theorem K3.blt (h : K3 w0 w c1 c2 c3 X1 H1 v1 L1 X2 H2 v2 L2 X3 H3 v3 L3 bs) {p : Nat × An} (hp : p ∈ bs) : p.1 < w.heap.size := (Array.getElem?_eq_some_iff.1 (h.bx p hp)).1
theorem ch_below {w0 w w' : World} {X H : Nat} {v : Value} (hb : Below w0.heap.size w0 w) (hc : Ch (some H) v.ownBlock w w') (hlo : ∀ k, Fp X H v k → w0.heap.size ≤ k) : Below w0.heap.size w0 w' :=
  hb.trans (hc.below hb.size (fun k e => by cases e; exact hlo _ (.inr (.inl rfl))) (fun k e => hlo k (.inr (.inr e))))
theorem K3.do1 (h : K3 w0 w c1 c2 c3 X1 H1 v1 L1 X2 H2 v2 L2 X3 H3 v3 L3 bs) (hd : Did w X1 H1 v1 c1 L' w') : ∃ v1', K3 w0 w' c1 c2 c3 X1 H1 v1' L' X2 H2 v2 L2 X3 H3 v3 L3 bs := by
  obtain ⟨v', g1, g2, g3⟩ := hd
  have hmv : ∀ k, Fp X1 H1 v' k → Fp X1 H1 v1 k ∨ w.heap.size ≤ k := fun k hk => fp_mv g3 hk
  exact ⟨v', g1, ob_keep g2 h.o2 h.d12, ob_keep g2 h.o3 h.d13,
    fun k hk h2 => (hmv k hk).elim (fun e => h.d12 k e h2) (fun e => by have := fp_lt h.o2 h2; omega),
    fun k hk h2 => (hmv k hk).elim (fun e => h.d13 k e h2) (fun e => by have := fp_lt h.o3 h2; omega), h.d23,
    fun p hp => (fp_keep g2 (h.blt hp) (h.e1 p hp)).trans (h.bx p hp),
    fun p hp hk => (hmv _ hk).elim (fun e => h.e1 p hp e) (fun e => by have := h.blt hp; omega), h.e2, h.e3,
    fun k hk => (hmv k hk).elim (fun e => h.lo1 k e) (fun e => Nat.le_trans h.below.size e), h.lo2, h.lo3, ch_below h.below g2 h.lo1⟩
theorem K3.do2 (h : K3 w0 w c1 c2 c3 X1 H1 v1 L1 X2 H2 v2 L2 X3 H3 v3 L3 bs) (hd : Did w X2 H2 v2 c2 L' w') : ∃ v2', K3 w0 w' c1 c2 c3 X1 H1 v1 L1 X2 H2 v2' L' X3 H3 v3 L3 bs := by
  obtain ⟨v', g1, g2, g3⟩ := hd
  have hmv : ∀ k, Fp X2 H2 v' k → Fp X2 H2 v2 k ∨ w.heap.size ≤ k := fun k hk => fp_mv g3 hk
  exact ⟨v', ob_keep g2 h.o1 (fun k a b => h.d12 k b a), g1, ob_keep g2 h.o3 h.d23,
    fun k h2 hk => (hmv k hk).elim (fun e => h.d12 k h2 e) (fun e => by have := fp_lt h.o1 h2; omega), h.d13,
    fun k hk h2 => (hmv k hk).elim (fun e => h.d23 k e h2) (fun e => by have := fp_lt h.o3 h2; omega),
    fun p hp => (fp_keep g2 (h.blt hp) (h.e2 p hp)).trans (h.bx p hp), h.e1,
    fun p hp hk => (hmv _ hk).elim (fun e => h.e2 p hp e) (fun e => by have := h.blt hp; omega), h.e3,
    h.lo1, fun k hk => (hmv k hk).elim (fun e => h.lo2 k e) (fun e => Nat.le_trans h.below.size e), h.lo3, ch_below h.below g2 h.lo2⟩
theorem K3.do3 (h : K3 w0 w c1 c2 c3 X1 H1 v1 L1 X2 H2 v2 L2 X3 H3 v3 L3 bs) (hd : Did w X3 H3 v3 c3 L' w') : ∃ v3', K3 w0 w' c1 c2 c3 X1 H1 v1 L1 X2 H2 v2 L2 X3 H3 v3' L' bs := by
  obtain ⟨v', g1, g2, g3⟩ := hd
  have hmv : ∀ k, Fp X3 H3 v' k → Fp X3 H3 v3 k ∨ w.heap.size ≤ k := fun k hk => fp_mv g3 hk
  exact ⟨v', ob_keep g2 h.o1 (fun k a b => h.d13 k b a), ob_keep g2 h.o2 (fun k a b => h.d23 k b a), g1, h.d12,
    fun k h2 hk => (hmv k hk).elim (fun e => h.d13 k h2 e) (fun e => by have := fp_lt h.o1 h2; omega),
    fun k h2 hk => (hmv k hk).elim (fun e => h.d23 k h2 e) (fun e => by have := fp_lt h.o2 h2; omega),
    fun p hp => (fp_keep g2 (h.blt hp) (h.e3 p hp)).trans (h.bx p hp), h.e1, h.e2,
    fun p hp hk => (hmv _ hk).elim (fun e => h.e3 p hp e) (fun e => by have := h.blt hp; omega),
    h.lo1, h.lo2, fun k hk => (hmv k hk).elim (fun e => h.lo3 k e) (fun e => Nat.le_trans h.below.size e), ch_below h.below g2 h.lo3⟩
theorem K3.grow (h : K3 w0 w c1 c2 c3 X1 H1 v1 L1 X2 H2 v2 L2 X3 H3 v3 L3 bs) (hb : Below w.heap.size w w') : K3 w0 w' c1 c2 c3 X1 H1 v1 L1 X2 H2 v2 L2 X3 H3 v3 L3 bs :=
  ⟨h.o1.below hb, h.o2.below hb, h.o3.below hb, h.d12, h.d13, h.d23, fun p hp => (hb.block _ (h.blt hp)).trans (h.bx p hp), h.e1, h.e2, h.e3, h.lo1, h.lo2, h.lo3, h.below.trans (hb.mono h.below.size)⟩
theorem K3.box (h : K3 w0 w c1 c2 c3 X1 H1 v1 L1 X2 H2 v2 L2 X3 H3 v3 L3 bs) (a : An) : K3 w0 (w.alloc (ansBox a)) c1 c2 c3 X1 H1 v1 L1 X2 H2 v2 L2 X3 H3 v3 L3 (bs ++ [(w.heap.size, a)]) := by
  have hg := h.grow (w' := w.alloc (ansBox a)) (by go_grown)
  have n1 : ∀ {X H : Nat} {v : Value} {c : Int} {L : List Th}, Ob w X H v c L → ¬ Fp X H v w.heap.size := fun ho hk => by have := fp_lt ho hk; omega
  refine ⟨hg.o1, hg.o2, hg.o3, h.d12, h.d13, h.d23, fun p hp => ?_, fun p hp => ?_, fun p hp => ?_, fun p hp => ?_, h.lo1, h.lo2, h.lo3, hg.below⟩
  all_goals rcases List.mem_append.1 hp with hp' | hp'
  · exact hg.bx p hp'
  · simp only [List.mem_singleton] at hp'; subst hp'; exact heap_alloc_new w _
  · exact h.e1 p hp'
  · simp only [List.mem_singleton] at hp'; subst hp'; exact n1 h.o1
  · exact h.e2 p hp'
  · simp only [List.mem_singleton] at hp'; subst hp'; exact n1 h.o2
  · exact h.e3 p hp'
  · simp only [List.mem_singleton] at hp'; subst hp'; exact n1 h.o3
/-- what is in a box -/
theorem K3.cells (h : K3 w0 w c1 c2 c3 X1 H1 v1 L1 X2 H2 v2 L2 X3 H3 v3 L3 bs) {B : Nat} {a : An} (hp : (B, a) ∈ bs) (hb : Below w.heap.size w w') :
    w'.cell? ⟨B, 0, none⟩ = some (.int .i64 a.1) ∧ w'.cell? ⟨B, 1, none⟩ = some (.bool a.2.1) ∧ w'.cell? ⟨B, 2, none⟩ = some (.int .u64 a.2.2) := by
  have hh := (hb.block _ (h.blt hp)).trans (h.bx _ hp)
  simp only [ansBox] at hh
  exact ⟨by simp [World.cell?, hh], by simp [World.cell?, hh], by simp [World.cell?, hh]⟩
end

/-- Three new objects. -/
theorem k3_made {w0 wa wb wc : World} {c1 c2 c3 : Int} {X1 X2 X3 : Nat} {L1 L2 L3 : List Th} (h1 : Made w0 c1 L1 wa X1) (h2 : Made wa c2 L2 wb X2) (h3 : Made wb c3 L3 wc X3) :
    ∃ H1 v1 H2 v2 H3 v3, K3 w0 wc c1 c2 c3 X1 H1 v1 L1 X2 H2 v2 L2 X3 H3 v3 L3 [] := by
  obtain ⟨H1, v1, o1, b1, x1, y1, z1⟩ := h1
  obtain ⟨H2, v2, o2, b2, x2, y2, z2⟩ := h2
  obtain ⟨H3, v3, o3, b3, x3, y3, z3⟩ := h3
  have s1 := b1.size
  have s2 := b2.size
  have g1 : ∀ k, Fp X1 H1 v1 k → w0.heap.size ≤ k := fun k hk => by
    rcases hk with rfl | rfl | hk
    · exact x1
    · exact y1
    · exact z1 k hk
  have g2 : ∀ k, Fp X2 H2 v2 k → wa.heap.size ≤ k := fun k hk => by
    rcases hk with rfl | rfl | hk
    · exact x2
    · exact y2
    · exact z2 k hk
  have g3 : ∀ k, Fp X3 H3 v3 k → wb.heap.size ≤ k := fun k hk => by
    rcases hk with rfl | rfl | hk
    · exact x3
    · exact y3
    · exact z3 k hk
  refine ⟨H1, v1, H2, v2, H3, v3, (o1.below b2).below b3, o2.below b3, o3, fun k a b => ?_, fun k a b => ?_, fun k a b => ?_, (fun p hp => by cases hp), (fun p hp => by cases hp), (fun p hp => by cases hp), (fun p hp => by cases hp), g1, fun k hk => Nat.le_trans s1 (g2 k hk), fun k hk => Nat.le_trans s1 (Nat.le_trans s2 (g3 k hk)), b1.trans ((b2.mono s1).trans (b3.mono (Nat.le_trans s1 s2)))⟩
  · have := fp_lt o1 a; have := g2 k b; omega
  · have := fp_lt o1 a; have := g3 k b; omega
  · have := fp_lt o2 a; have := g3 k b; omega
end Go.Proofs.Ytphfcfnbefikiaa
