/- A stack and a queue, apart; a slice of values. -/
import Derived.Test.YtphfcfnbefikiaaF2
namespace Go.Proofs.Ytphfcfnbefikiaa
open Go.RowKit
set_option linter.unusedVariables false
set_option linter.unusedSimpArgs false

/-- Two objects of the program's, of clients c1 and c2, apart, and all that was there as it was. -/
def Duo (w0 w : World) (c1 c2 : Int) (X1 X2 : Nat) (L1 L2 : List Th) : Prop :=
  ∃ H1 v1 H2 v2, Ob w X1 H1 v1 c1 L1 ∧ Ob w X2 H2 v2 c2 L2 ∧ (∀ k, Fp X1 H1 v1 k → ¬ Fp X2 H2 v2 k) ∧ (∀ k, Fp X1 H1 v1 k → w0.heap.size ≤ k) ∧ (∀ k, Fp X2 H2 v2 k → w0.heap.size ≤ k) ∧ Below w0.heap.size w0 w
section
variable {w0 w w' wa : World} {c1 c2 : Int} {X1 X2 : Nat} {L1 L2 L' : List Th}
theorem Duo.below (h : Duo w0 w c1 c2 X1 X2 L1 L2) : Below w0.heap.size w0 w := by
  obtain ⟨_, _, _, _, -, -, -, -, -, hb⟩ := h; exact hb
theorem Duo.grow (h : Duo w0 w c1 c2 X1 X2 L1 L2) (hb : Below w.heap.size w w') : Duo w0 w' c1 c2 X1 X2 L1 L2 := by
  obtain ⟨H1, v1, H2, v2, o1, o2, hd, l1, l2, hb0⟩ := h
  exact ⟨H1, v1, H2, v2, o1.below hb, o2.below hb, hd, l1, l2, hb0.trans (hb.mono hb0.size)⟩
theorem Duo.symm (h : Duo w0 w c1 c2 X1 X2 L1 L2) : Duo w0 w c2 c1 X2 X1 L2 L1 := by
  obtain ⟨H1, v1, H2, v2, o1, o2, hd, l1, l2, hb0⟩ := h
  exact ⟨H2, v2, H1, v1, o2, o1, fun k a b => hd k b a, l2, l1, hb0⟩
theorem Duo.one (h : Duo w0 w c1 c2 X1 X2 L1 L2) (h1 : 1 ≤ c1) (h2 : c1 ≤ 6) (o k x : Int) (ho : (Lit.int .i64 o).wf = true) (hn : L1.length ≤ 1000) (hs : isMap c1 = true → Srt L1) :
    Calls Try.prog 16 #[P X1, i64 o, u64 k, u64 x] w fun e w' => e = .returned (ansV (doI c1 o k x L1).1) ∧ Duo w0 w' c1 c2 X1 X2 (doI c1 o k x L1).2 L2 := by
  obtain ⟨H, v, H2, v2, hO, o2, hd, l1, l2, hb0⟩ := h
  refine (do_any h1 h2 o k x ho w hO hn hs).mono ?_
  rintro e w' ⟨he, v', g1, g2, g3⟩
  refine ⟨he, H, v', H2, v2, g1, ob_keep g2 o2 hd, fun k hk hg => ?_, fun k hk => ?_, l2, ?_⟩
  · rcases fp_mv g3 hk with e | e
    · exact hd k e hg
    · have := fp_lt o2 hg; omega
  · rcases fp_mv g3 hk with e | e
    · exact l1 k e
    · exact Nat.le_trans hb0.size e
  · exact ch_below hb0 g2 l1
theorem Duo.two (h : Duo w0 w c1 c2 X1 X2 L1 L2) (h1 : 1 ≤ c2) (h2 : c2 ≤ 6) (o k x : Int) (ho : (Lit.int .i64 o).wf = true) (hn : L2.length ≤ 1000) (hs : isMap c2 = true → Srt L2) :
    Calls Try.prog 16 #[P X2, i64 o, u64 k, u64 x] w fun e w' => e = .returned (ansV (doI c2 o k x L2).1) ∧ Duo w0 w' c1 c2 X1 X2 L1 (doI c2 o k x L2).2 :=
  (h.symm.one h1 h2 o k x ho hn hs).mono fun e w' ⟨he, h'⟩ => ⟨he, h'.symm⟩
theorem Duo.len1 (h : Duo w0 w c1 c2 X1 X2 L1 L2) : Calls Try.prog 18 #[P X1] w fun e w' => e = .returned (i64 L1.length) ∧ w = w' := by
  obtain ⟨_, _, _, _, hO, -⟩ := h; exact len_at hO
theorem Duo.len2 (h : Duo w0 w c1 c2 X1 X2 L1 L2) : Calls Try.prog 18 #[P X2] w fun e w' => e = .returned (i64 L2.length) ∧ w = w' := h.symm.len1
theorem Duo.made (h1 : Made w0 c1 L1 w X1) (h2 : Made w c2 L2 wa X2) : Duo w0 wa c1 c2 X1 X2 L1 L2 := by
  obtain ⟨H, v, o1, b1, x1, y1, z1⟩ := h1
  obtain ⟨H2, v2, o2, b2, x2, y2, z2⟩ := h2
  have g1 : ∀ k, Fp X1 H v k → w0.heap.size ≤ k := fun k hk => by
    rcases hk with rfl | rfl | hk
    · exact x1
    · exact y1
    · exact z1 k hk
  have g2 : ∀ k, Fp X2 H2 v2 k → w.heap.size ≤ k := fun k hk => by
    rcases hk with rfl | rfl | hk
    · exact x2
    · exact y2
    · exact z2 k hk
  refine ⟨H, v, H2, v2, o1.below b2, o2, fun k a b => ?_, g1, fun k hk => Nat.le_trans b1.size (g2 k hk), b1.trans (b2.mono b1.size)⟩
  have := fp_lt o1 a; have := g2 k b; omega
end

/-- A slice of values. -/
def UsIn (ad : Option Addr) (n : Nat) (l : List Int) (w : World) : Prop := l.length = n ∧ ∀ i t, l[i]? = some t → ∃ b off, ad = some ⟨b, off, none⟩ ∧ w.cell? ⟨b, off + i, none⟩ = some (.int .u64 t)
theorem UsIn.at {ad : Option Addr} {n : Nat} {l : List Int} {w w' : World} (h : UsIn ad n l w) (hb : Below w.heap.size w w') {i : Nat} (hi : i < n) :
    ∃ b off t, ad = some ⟨b, off, none⟩ ∧ l[i]? = some t ∧ w'.cell? ⟨b, off + i, none⟩ = some (.int .u64 t) := by
  have hl : i < l.length := by rw [h.1]; exact hi
  obtain ⟨b, off, e, hc⟩ := h.2 i _ (List.getElem?_eq_getElem hl)
  exact ⟨b, off, _, e, List.getElem?_eq_getElem hl, keep hb hc⟩
def asTh (l : List Int) : List Th := l.map fun u => (0, u)

theorem pop_at {l : List Int} {j : Nat} {t : Int} (h : l[j]? = some t) : doI 1 2 0 0 ((asTh l).take (j + 1)) = (yesA t, (asTh l).take j) := by
  have hlt := (List.getElem?_eq_some_iff.1 h).1
  have h' : (asTh l)[j]? = some (0, t) := by simp [asTh, h]
  have e : (asTh l).take (j + 1) = (asTh l).take j ++ [(0, t)] := by rw [List.take_add_one, h']; rfl
  show popI _ = _
  rw [e]
  simp [popI]
theorem deq_at {l : List Int} {j : Nat} {t : Int} (h : l[j]? = some t) : doI 2 4 0 0 ((asTh l).drop j) = (yesA t, (asTh l).drop (j + 1)) := by
  have hlt := (List.getElem?_eq_some_iff.1 h).1
  have h' : (asTh l)[j]? = some (0, t) := by simp [asTh, h]
  have hl' := (List.getElem?_eq_some_iff.1 h').1
  show deqI _ = _
  rw [List.drop_eq_getElem_cons hl']
  have : (asTh l)[j] = (0, t) := by rw [List.getElem?_eq_getElem hl'] at h'; simpa using h'
  rw [this]
  rfl
theorem add_at {l : List Int} {j : Nat} {t : Int} (h : l[j]? = some t) : (asTh l).take (j + 1) = (asTh l).take j ++ [(0, t)] := by
  have h' : (asTh l)[j]? = some (0, t) := by simp [asTh, h]
  rw [List.take_add_one, h']; rfl
end Go.Proofs.Ytphfcfnbefikiaa
