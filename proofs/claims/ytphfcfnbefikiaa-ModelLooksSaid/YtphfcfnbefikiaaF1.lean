/- Two objects of one client, the program's and the document's, and a run of calls on both. -/
import Derived.Test.YtphfcfnbefikiaaE4
import Derived.Test.YtphfcfnbefikiaaD4
import Derived.Test.YtphfcfnbefikiaaS4
namespace Go.Proofs.Ytphfcfnbefikiaa
open Go.RowKit
set_option linter.unusedVariables false
set_option linter.unusedSimpArgs false

theorem src_ths {ad : Option Addr} {n cap : Nat} {l : List Th} {w : World} (h : ThsIn ad n l w) : Src Try.prog 2 22 (.slice ad n cap) n (cells2 l) w := by
  cases ad with
  | none =>
    have : l = [] := by
      cases l with
      | nil => rfl
      | cons t l => obtain ⟨b, off, e, -⟩ := h.2 0 t rfl; cases e
    subst this
    obtain rfl : 0 = n := h.1
    exact Src.ofNil w Try.underlying22 cap
  | some a =>
    refine Src.ofSlice w Try.underlying22 a n cap (cells2 l) (by rw [cells2_len, h.1]) (fun j u hj => ?_) (cells2_one l)
    have hlt := (List.getElem?_eq_some_iff.1 hj).1
    rw [cells2_len] at hlt
    obtain ⟨t, ht⟩ : ∃ t, l[j / 2]? = some t := ⟨_, List.getElem?_eq_getElem (by omega)⟩
    obtain ⟨b, off, e, x1, x2⟩ := h.2 _ t ht
    cases e
    rw [Addr.add_lit]
    have g1 := cells2_0 ht; have g2 := cells2_1 ht
    rcases Nat.mod_two_eq_zero_or_one j with h2 | h2
    · have ej : j = j / 2 * 2 := by omega
      rw [show off + j = off + j / 2 * 2 by omega, x1]
      rw [ej, g1] at hj
      exact hj
    · have ej : j = j / 2 * 2 + 1 := by omega
      rw [show off + j = off + j / 2 * 2 + 1 by omega, x2]
      rw [ej, g2] at hj
      exact hj

theorem app_nil {ad : Option Addr} {n cap : Nat} {l : List Th} {W : World} (h : ThsIn ad n l W) (hn : n ≤ 1000) (ty : TypeId) :
    ∃ ad4 cap4 w4, (Builtin.append_ #[22, 22] ty #[.slice none 0 0, .slice ad n cap]).run Try.prog W = .ok (.slice ad4 n cap4) w4 ∧ (ThsIn ad4 n l w4 ∧ Below W.heap.size W w4) := by
  obtain ⟨i, z, hi, hz, hzc, hs, h8⟩ := info51p
  obtain ⟨v', w', h1, h2, h3, h4⟩ := (Sl.nil W 51 2).append (P := Try.prog) 22 22 ty i z 16 Try.underlying22 hi hz hs h8 hzc (.slice ad n cap) n (cells2 l) (src_ths h) (by unfold maxLen; omega) (by omega)
  obtain ⟨ad4, cap4, rfl, _⟩ := h2.form
  rw [Nat.zero_add] at h1 h2 h4
  rw [List.nil_append] at h2
  exact ⟨ad4, cap4, w', h1, thsIn_of_sl h2 h.1, ⟨h3.os, h3.tape, h3.output, h3.size, fun k hk => h3.block k hk (by simp [Value.ownBlock])⟩⟩

/-- Calls: an op, a key, a value each. -/
abbrev Cl := Int × Int × Int
def CallsIn (ad : Option Addr) (n : Nat) (q : List Cl) (w : World) : Prop :=
  q.length = n ∧ ∀ i t, q[i]? = some t → (Lit.int .i64 t.1).wf = true ∧ ∃ b off, ad = some ⟨b, off, none⟩ ∧ w.cell? ⟨b, off + i * 3, none⟩ = some (.int .i64 t.1) ∧ w.cell? ⟨b, off + i * 3 + 1, none⟩ = some (.int .u64 t.2.1) ∧ w.cell? ⟨b, off + i * 3 + 2, none⟩ = some (.int .u64 t.2.2)
theorem CallsIn.below {ad : Option Addr} {n : Nat} {q : List Cl} {w w' : World} (h : CallsIn ad n q w) (hb : Below w.heap.size w w') : CallsIn ad n q w' :=
  ⟨h.1, fun i t ht => by
    obtain ⟨w0, b, off, e, x1, x2, x3⟩ := h.2 i t ht
    exact ⟨w0, b, off, e, keep hb x1, keep hb x2, keep hb x3⟩⟩

def runI (c : Int) (q : List Cl) (L : List Th) : List Th := q.foldl (fun L t => (doI c t.1 t.2.1 t.2.2 L).2) L
def runR (c : Int) (q : List Cl) (Q : List Pu) : List Pu := q.foldl (fun Q t => (doR c t.1 t.2.1 t.2.2 Q).2) Q
theorem runI_snoc (c : Int) (q : List Cl) (t : Cl) (L : List Th) : runI c (q ++ [t]) L = (doI c t.1 t.2.1 t.2.2 (runI c q L)).2 := by unfold runI; rw [List.foldl_append]; rfl
theorem runR_snoc (c : Int) (q : List Cl) (t : Cl) (Q : List Pu) : runR c (q ++ [t]) Q = (doR c t.1 t.2.1 t.2.2 (runR c q Q)).2 := by unfold runR; rw [List.foldl_append]; rfl
theorem run_sim (c : Int) (q : List Cl) : ∀ L Q, Sim c L Q → Sim c (runI c q L) (runR c q Q) := by
  induction q with
  | nil => intro L Q h; exact h
  | cons t q ih => intro L Q h; exact ih _ _ (sim_do t.1 t.2.1 t.2.2 h).2
theorem runI_len (c : Int) (q : List Cl) : ∀ L, (runI c q L).length ≤ L.length + q.length := by
  induction q with
  | nil => intro L; simp [runI]
  | cons t q ih =>
    intro L
    have := ih (doI c t.1 t.2.1 t.2.2 L).2
    have h2 := doI_len c t.1 t.2.1 t.2.2 L
    show (runI c q (doI c t.1 t.2.1 t.2.2 L).2).length ≤ _
    simp only [List.length_cons]; omega
theorem runR_len (c : Int) (q : List Cl) : ∀ L, (runR c q L).length ≤ L.length + q.length := by
  induction q with
  | nil => intro L; simp [runR]
  | cons t q ih =>
    intro L
    have := ih (doR c t.1 t.2.1 t.2.2 L).2
    have h2 := doR_len c t.1 t.2.1 t.2.2 L
    show (runR c q (doR c t.1 t.2.1 t.2.2 L).2).length ≤ _
    simp only [List.length_cons]; omega
theorem sim_srt {c : Int} {L : List Th} {Q : List Pu} (h : Sim c L Q) : isMap c = true → Srt L := fun hm => by
  unfold Sim at h
  rw [if_pos hm] at h
  exact h.1

def Gp (Y : Nat) (u : Value) (k : Nat) : Prop := k = Y ∨ u.ownBlock = some k
theorem gp_lt {w : World} {Y : Nat} {u : Value} {c : Int} {Q : List Pu} (h : Re w Y u c Q) {k : Nat} (hk : Gp Y u k) : k < w.heap.size := by
  rcases hk with rfl | hk
  · exact h.ltY
  · exact h.sl.lt hk
theorem gp_mv {w : World} {Y : Nat} {u u' : Value} (hm : Mv w u u') {k : Nat} (hk : Gp Y u' k) : Gp Y u k ∨ w.heap.size ≤ k := by
  rcases hk with rfl | hk
  · exact .inl (.inl rfl)
  · rcases hm k hk with e | e
    · exact .inl (.inr e)
    · exact .inr e
theorem gp_keep {w w' : World} {Y : Nat} {u : Value} {k : Nat} (hc : Ch (some Y) u.ownBlock w w') (hl : k < w.heap.size) (hk : ¬ Gp Y u k) : w'.heap[k]? = w.heap[k]? :=
  hc.block k hl (fun e => hk (.inl (by simpa using e))) (fun e => hk (.inr e.symm))

theorem re_kept {w w' : World} {Y : Nat} {u : Value} {c : Int} {Q : List Pu} (h : Re w Y u c Q) (hY : w'.heap[Y]? = w.heap[Y]?) (hu : ∀ b, u.ownBlock = some b → w'.heap[b]? = w.heap[b]?) : Re w' Y u c Q :=
  ⟨(World.cell?_of_block (a := ⟨Y, 0, none⟩) hY).trans h.c0, (World.cell?_of_block (a := ⟨Y, 1, none⟩) hY).trans h.hv, (World.frozen?_of_block (a := ⟨Y, 1, none⟩) hY).trans h.fz, h.sl.kept hu, h.ny⟩

/-- The program's object and the document's, apart, and all that was there as it was. -/
def Two (w0 w : World) (c : Int) (X Y : Nat) (L : List Th) (Q : List Pu) : Prop :=
  ∃ H v u, Ob w X H v c L ∧ Re w Y u c Q ∧ (∀ k, Fp X H v k → ¬ Gp Y u k) ∧ (∀ k, Fp X H v k → w0.heap.size ≤ k) ∧ (∀ k, Gp Y u k → w0.heap.size ≤ k) ∧ Below w0.heap.size w0 w

section
variable {w0 w w' wa : World} {c : Int} {X Y : Nat} {L L' : List Th} {Q Q' : List Pu}
theorem Two.below (h : Two w0 w c X Y L Q) : Below w0.heap.size w0 w := by
  obtain ⟨H, v, u, -, -, -, -, -, hb⟩ := h; exact hb
theorem Two.grow (h : Two w0 w c X Y L Q) (hb : Below w.heap.size w w') : Two w0 w' c X Y L Q := by
  obtain ⟨H, v, u, hO, hR, hd, h1, h2, hb0⟩ := h
  exact ⟨H, v, u, hO.below hb, hR.below hb, hd, h1, h2, hb0.trans (hb.mono hb0.size)⟩
theorem Two.doI (h : Two w0 w c X Y L Q) (h1 : 1 ≤ c) (h2 : c ≤ 6) (o k x : Int) (ho : (Lit.int .i64 o).wf = true) (hn : L.length ≤ 1000) (hs : isMap c = true → Srt L) :
    Calls Try.prog 16 #[P X, i64 o, u64 k, u64 x] w fun e w' => e = .returned (ansV (Ytphfcfnbefikiaa.doI c o k x L).1) ∧ Two w0 w' c X Y (Ytphfcfnbefikiaa.doI c o k x L).2 Q := by
  obtain ⟨H, v, u, hO, hR, hd, l1, l2, hb0⟩ := h
  refine (do_any h1 h2 o k x ho w hO hn hs).mono ?_
  rintro e w' ⟨he, v', g1, g2, g3⟩
  refine ⟨he, H, v', u, g1, ?_, fun k hk hg => ?_, fun k hk => ?_, l2, ?_⟩
  · exact re_kept hR (fp_keep g2 hR.ltY (fun e => hd _ e (.inl rfl))) fun b hb => fp_keep g2 (hR.sl.lt hb) (fun e => hd _ e (.inr hb))
  · rcases fp_mv g3 hk with e | e
    · exact hd k e hg
    · have := gp_lt hR hg; omega
  · rcases fp_mv g3 hk with e | e
    · exact l1 k e
    · exact Nat.le_trans hb0.size e
  · exact ch_below hb0 g2 l1
theorem Two.doR (h : Two w0 w c X Y L Q) (o k x : Int) (hn : Q.length ≤ 1000) :
    Calls Try.prog 26 #[P Y, i64 o, u64 k, u64 x] w fun e w' => e = .returned (ansV (Ytphfcfnbefikiaa.doR c o k x Q).1) ∧ Two w0 w' c X Y L (Ytphfcfnbefikiaa.doR c o k x Q).2 := by
  obtain ⟨H, v, u, hO, hR, hd, l1, l2, hb0⟩ := h
  refine (rdo_any o k x w hR hn).mono ?_
  rintro e w' ⟨he, u', g1, g2, g3⟩
  refine ⟨he, H, v, u', ?_, g1, fun k hk hg => ?_, l1, fun k hk => ?_, ?_⟩
  · exact hO.kept (gp_keep g2 hO.ltX (fun e => hd _ (.inl rfl) e)) (gp_keep g2 hO.ltH (fun e => hd _ (.inr (.inl rfl)) e)) fun b hb => gp_keep g2 (hO.sl.lt hb) (fun e => hd _ (.inr (.inr hb)) e)
  · rcases gp_mv g3 hg with e | e
    · exact hd k hk e
    · have := fp_lt hO hk; omega
  · rcases gp_mv g3 hk with e | e
    · exact l2 k e
    · exact Nat.le_trans hb0.size e
  · exact hb0.trans (g2.below hb0.size (fun k e => by cases e; exact l2 _ (.inl rfl)) (fun k e => l2 k (.inr e)))
theorem Two.len (h : Two w0 w c X Y L Q) : Calls Try.prog 18 #[P X] w fun e w' => e = .returned (i64 L.length) ∧ w = w' := by
  obtain ⟨H, v, u, hO, -⟩ := h; exact len_at hO
theorem Two.client (h : Two w0 w c X Y L Q) : Calls Try.prog 27 #[P X] w fun e w' => e = .returned (i64 c) ∧ w = w' := by
  obtain ⟨H, v, u, hO, -⟩ := h; exact client_at hO
theorem Two.things (h : Two w0 w c X Y L Q) (hn : L.length ≤ 1000) : Calls Try.prog 25 #[P X] w fun e w' => ∃ ad cap m, e = .returned (.slice ad m cap) ∧ OwnSl w.heap.size w' (.slice ad m cap) m (tell c L) ∧ Below w.heap.size w w' := by
  obtain ⟨H, v, u, hO, -⟩ := h; exact things_any w hO hn
theorem Two.rthings (h : Two w0 w c X Y L Q) (h1 : 1 ≤ c) (h2 : c ≤ 6) (hn : Q.length ≤ 1000) : Calls Try.prog 19 #[P Y] w fun e w' => ∃ ad cap m, e = .returned (.slice ad m cap) ∧ OwnSl w.heap.size w' (.slice ad m cap) m (Ytphfcfnbefikiaa.things c Q) ∧ Below w.heap.size w w' := by
  obtain ⟨H, v, u, -, hR, -⟩ := h; exact rthings_any h1 h2 w hR hn
theorem Two.made (h1 : Made w0 c L w X) (h2 : RMade w c Q wa Y) : Two w0 wa c X Y L Q := by
  obtain ⟨H, v, o1, b1, x1, y1, z1⟩ := h1
  obtain ⟨u, r2, b2, x2, z2⟩ := h2
  have g1 : ∀ k, Fp X H v k → w0.heap.size ≤ k := fun k hk => by
    rcases hk with rfl | rfl | hk
    · exact x1
    · exact y1
    · exact z1 k hk
  have g2 : ∀ k, Gp Y u k → w.heap.size ≤ k := fun k hk => by
    rcases hk with rfl | hk
    · exact x2
    · exact z2 k hk
  refine ⟨H, v, u, o1.below b2, r2, fun k a b => ?_, g1, fun k hk => Nat.le_trans b1.size (g2 k hk), b1.trans (b2.mono b1.size)⟩
  have := fp_lt o1 a; have := g2 k b; omega
theorem tell_len (c : Int) (L : List Th) : (tell c L).length = L.length := by unfold tell; split <;> simp
end
end Go.Proofs.Ytphfcfnbefikiaa
