/- New, with no things. -/
import Derived.Test.YtphfcfnbefikiaaB4
namespace Go.Proofs.Ytphfcfnbefikiaa
open Go.RowKit
set_option linter.unusedVariables false
set_option linter.unusedSimpArgs false

/-- a new object, and all that was there as it was -/
def Made (w : World) (c : Int) (L : List Th) (w' : World) (X : Nat) : Prop :=
  ∃ H v, Ob w' X H v c L ∧ Below w.heap.size w w' ∧ w.heap.size ≤ X ∧ w.heap.size ≤ H ∧ ∀ b, v.ownBlock = some b → w.heap.size ≤ b

def putOf (c : Int) : Int := if c = 1 then 1 else if c = 2 then 3 else 5
theorem put_may (c : Int) (h1 : 1 ≤ c) (h2 : c ≤ 6) : mayB c (putOf c) = true := by
  have : c = 1 ∨ c = 2 ∨ c = 3 ∨ c = 4 ∨ c = 5 ∨ c = 6 := by omega
  rcases this with rfl | rfl | rfl | rfl | rfl | rfl <;> rfl
theorem put_wf (c : Int) : (Lit.int .i64 (putOf c)).wf = true := by
  unfold putOf
  split
  · decide
  · split <;> decide

/-- no client -/
theorem new_bad (c : Int) (h : c < 1 ∨ 6 < c) (v : Value) (w : World) : Calls Try.prog 13 #[i64 c, v] w fun e w' => e = .returned (.tuple #[nilP, i64 2]) ∧ Below w.heap.size w w' := by
  have PUT := Lib.hid (putting_any c w)
  have MAY := Lib.hid (may_out c (putOf c) (put_wf c) h w)
  change Hid (Calls Try.prog 29 #[i64 c] w fun e w' => e = .returned (i64 (putOf c)) ∧ w = w') at PUT
  go_enter Try.func13, Try.ntmps13
  go_wp2_with fail
  refine PUT.out.mono ?_
  rintro e w1 ⟨rfl, rfl⟩
  go_wp2_with fail
  refine MAY.out.mono ?_
  rintro e w1 ⟨rfl, hb⟩
  have HB := Lib.hid hb
  clear hb
  go_wp2
  go_returns
  exact ⟨rfl, HB.out⟩

theorem put_do (c : Int) (h1 : 1 ≤ c) (h2 : c ≤ 6) (t : Th) (L : List Th) : doI c (putOf c) t.1 t.2 L = if c = 1 then addI t.2 L else if c = 2 then addI t.2 L else insI t.1 t.2 L := by
  have : c = 1 ∨ c = 2 ∨ c = 3 ∨ c = 4 ∨ c = 5 ∨ c = 6 := by omega
  rcases this with rfl | rfl | rfl | rfl | rfl | rfl <;> rfl

/-- the things of an object that things were put into, one after the other -/
def newI (c : Int) (l : List Th) (L : List Th) : List Th := l.foldl (fun L t => (doI c (putOf c) t.1 t.2 L).2) L

/-- what comes in as a slice of things -/
def ThsIn (ad : Option Addr) (n : Nat) (l : List Th) (w : World) : Prop := l.length = n ∧ ∀ i t, l[i]? = some t → ∃ b off, ad = some ⟨b, off, none⟩ ∧ w.cell? ⟨b, off + i * 2, none⟩ = some (.int .u64 t.1) ∧ w.cell? ⟨b, off + i * 2 + 1, none⟩ = some (.int .u64 t.2)
theorem ThsIn.below {ad : Option Addr} {n : Nat} {l : List Th} {w w' : World} (h : ThsIn ad n l w) (hb : Below w.heap.size w w') : ThsIn ad n l w' :=
  ⟨h.1, fun i t ht => by obtain ⟨b, off, h1, h2, h3⟩ := h.2 i t ht; exact ⟨b, off, h1, keep hb h2, keep hb h3⟩⟩
/-- .. that lay in w, and w' is as w was below w's end -/
theorem thsIn_of_sl {w : World} {ad : Option Addr} {n cap : Nat} {l : List Th} (h : Sl w 51 2 (.slice ad n cap) n (cells2 l)) (hl : l.length = n) : ThsIn ad n l w := by
  refine ⟨hl, fun i t ht => ?_⟩
  have hi := (List.getElem?_eq_some_iff.1 ht).1
  obtain ⟨b, off, cap', hv, _, _, _, _, hc, _⟩ := h.at (by omega)
  simp only [Value.slice.injEq, true_and] at hv
  obtain ⟨rfl, rfl⟩ := hv
  exact ⟨b, off, rfl, (hc _ (by omega)).trans (cells2_0 ht), (hc (i * 2 + 1) (by omega)).trans (cells2_1 ht)⟩

theorem doI_len (c o k x : Int) (L : List Th) : (doI c o k x L).2.length ≤ L.length + 1 := by
  unfold doI
  repeat' split
  all_goals (first | (unfold addI; simp) | (unfold popI; split <;> simp <;> omega) | (unfold deqI; split <;> simp <;> omega) | (unfold insI; split <;> simp <;> omega) | (unfold remI; split <;> simp <;> omega) | (unfold getI; split <;> simp) | (simp))

theorem doI_srt (c o k x : Int) (L : List Th) (h : isMap c = true) (hs : Srt L) : Srt (doI c o k x L).2 := by
  have hsim : ∃ Q : List Pu, Sim c L Q := by
    refine ⟨L.map fun t => (t, false), ?_⟩
    have hl : live (L.map fun t => (t, false)) = L := by
      induction L with
      | nil => rfl
      | cons a L ih => simp only [List.map_cons, live_cons]; rw [ih (List.pairwise_cons.1 hs).2]; rfl
    unfold Sim
    rw [if_pos h, hl]
    exact ⟨hs, fun t => Iff.rfl, srt_ne hs⟩
  obtain ⟨Q, hQ⟩ := hsim
  have := (sim_do o k x hQ).2
  unfold Sim at this
  rw [if_pos h] at this
  exact this.1

theorem newI_snoc (c : Int) (l : List Th) (t : Th) (L : List Th) : newI c (l ++ [t]) L = (doI c (putOf c) t.1 t.2 (newI c l L)).2 := by unfold newI; rw [List.foldl_append]; rfl
theorem newI_len (c : Int) (l : List Th) : ∀ L, (newI c l L).length ≤ L.length + l.length := by
  induction l with
  | nil => intro L; simp [newI]
  | cons t l ih =>
    intro L
    have := ih (doI c (putOf c) t.1 t.2 L).2
    have h2 := doI_len c (putOf c) t.1 t.2 L
    show (newI c l (doI c (putOf c) t.1 t.2 L).2).length ≤ _
    simp only [List.length_cons]; omega
theorem newI_srt (c : Int) (h : isMap c = true) (l : List Th) : ∀ L, Srt L → Srt (newI c l L) := by
  induction l with
  | nil => intro L hs; exact hs
  | cons t l ih => intro L hs; exact ih _ (doI_srt c (putOf c) t.1 t.2 L h hs)
theorem take_snoc {l : List Th} {i : Nat} {t : Th} (h : l[i]? = some t) : l.take (i + 1) = l.take i ++ [t] := by rw [List.take_add_one, h]; rfl

set_option maxHeartbeats 4000000 in
theorem new_any {n cap : Nat} {ad : Option Addr} {l : List Th} (c : Int) (h1 : 1 ≤ c) (h2 : c ≤ 6) (hn : n ≤ 200) (w : World) (hl : ThsIn ad n l w) :
    Calls Try.prog 13 #[i64 c, .slice ad n cap] w fun e w' => ∃ X, e = .returned (.tuple #[P X, i64 0]) ∧ Made w c (newI c l []) w' X := by
  have PUT := Lib.hid (putting_any c w)
  have MAY := Lib.hid (may_in c (putOf c) h1 h2 (put_wf c) w)
  rw [put_may c h1 h2] at MAY
  have DO := Lib.hid (fun (L : List Th) (t : Th) (X H : Nat) (v : Value) (W : World) (hO : Ob W X H v c L) (hln : L.length ≤ 1000) (hs : isMap c = true → Srt L) => do_any h1 h2 (putOf c) t.1 t.2 (put_wf c) W hO hln hs)
  change Hid (Calls Try.prog 29 #[i64 c] w fun e w' => e = .returned (i64 (putOf c)) ∧ w = w') at PUT
  have HL := Lib.hid hl
  obtain ⟨po, hpo⟩ : ∃ po, putOf c = po := ⟨_, rfl⟩
  have NEW : ∀ L : List Th, ∀ t, (doI c (putOf c) t.1 t.2 L).2 = newI c [t] L := fun L t => rfl
  have HNEW := Lib.hid NEW
  rw [hpo] at PUT MAY DO
  have HPO := Lib.hid hpo
  clear hl NEW hpo
  go_enter Try.func13, Try.ntmps13
  go_wp2_with fail
  refine PUT.out.mono ?_
  rintro e w1 ⟨rfl, rfl⟩
  go_wp2_with fail
  refine MAY.out.mono ?_
  rintro e w1 ⟨rfl, hb⟩
  have HB := Lib.hid hb
  clear hb
  have hsz1 := HB.out.size
  have HO0 := Lib.hid (show Ob ((w1.alloc (.cells #[.slice none 0 0] 22)).alloc (.cells #[i64 c, P w1.heap.size] 63)) (w1.heap.size + 1) w1.heap.size (.slice none 0 0) c (newI c (l.take 0) []) from
    ⟨by simp [go_sem], by simp [go_sem], by simp [go_sem], by simp [go_sem], Sl.nil _ _ _, by omega, by simp [Value.ownBlock], by simp [Value.ownBlock]⟩)
  have HB0 := Lib.hid (show Below w.heap.size w ((w1.alloc (.cells #[.slice none 0 0] 22)).alloc (.cells #[i64 c, P w1.heap.size] 63)) from HB.out.trans (Below.mono (by go_grown) hsz1))
  go_wp2_with fail
  go_loopw [22] (fun a wr => ∃ (i : Nat) (v : Value), a = i64 i ∧ i ≤ n ∧ Ob wr (w1.heap.size + 1) w1.heap.size v c (newI c (l.take i) []) ∧ Below w.heap.size w wr ∧ ∀ b, v.ownBlock = some b → w.heap.size ≤ b) (fun a _ => n - (intOf a).toNat)
  case atStart => exact ⟨0, _, rfl, by omega, HO0.out, HB0.out, fun b hb => by cases hb⟩
  case round =>
    obtain ⟨i, v, rfl, hi, hO, hbr, hv⟩ := hrel
    have HO := Lib.hid hO
    have HBR := Lib.hid hbr
    have HV := Lib.hid hv
    clear hO hbr hv
    by_cases hlt : i < n
    · have hlt' : (i : Int) < (n : Int) := by omega
      obtain ⟨t, ht⟩ : ∃ t, l[i]? = some t := ⟨_, List.getElem?_eq_getElem (by rw [HL.out.1]; exact hlt)⟩
      obtain ⟨b, off, rfl, x1, x2⟩ := HL.out.2 i t ht
      have hbl := World.block_lt_of_cell? _ _ x1
      have y1 : wr.cell? ⟨b, off + i * 2, none⟩ = some (.int .u64 t.1) := keep HBR.out x1
      have y2 : wr.cell? ⟨b, off + i * 2 + 1, none⟩ = some (.int .u64 t.2) := keep HBR.out x2
      have hbr : b < wr.heap.size := World.block_lt_of_cell? _ _ y1
      have HT := Lib.hid ht
      have hbA : Below wr.heap.size wr (wr.alloc (.cells #[.int .u64 t.1, .int .u64 t.2] 51)) := by go_grown
      have hlen := newI_len c (l.take i) []
      simp only [List.length_nil, List.length_take, Nat.zero_add] at hlen
      have CALL := Lib.hid (DO.out _ t _ _ _ _ (HO.out.below hbA) (by omega) (fun hm => newI_srt c hm _ [] List.Pairwise.nil))
      have HBA := Lib.hid hbA
      clear ht x1 x2 hbA hlen
      go_wp2_with fail
      refine CALL.out.mono ?_
      rintro e w4 ⟨rfl, v', k1, k2, k3⟩
      have K1 := Lib.hid k1
      have K2 := Lib.hid k2
      have K3 := Lib.hid k3
      clear k1 k2 k3
      go_wp2
      go_roundw
      case rel =>
        have hge : ∀ k, v'.ownBlock = some k → w.heap.size ≤ k := fun k hk => by
          rcases K3.out k hk with e | e
          · exact HV.out k e
          · have := HBR.out.size; simp only [World.size_alloc] at e; omega
        refine ⟨i + 1, v', by first | rfl | simp, by omega, ?_, ?_, hge⟩
        · rw [take_snoc HT.out, newI_snoc, HPO.out]; exact K1.out
        · refine (HBR.out.trans (HBA.out.mono HBR.out.size)).trans (K2.out.below ?_ ?_ HV.out)
          · have := HBR.out.size; simp only [World.size_alloc]; omega
          · intro k hk; simp only [Option.some.injEq] at hk; omega
      case measure => simp [intOf]; omega
    · have hge : (n : Int) ≤ (i : Int) := by omega
      obtain rfl : i = n := by omega
      go_wp2
      go_returns
      refine ⟨w1.heap.size + 1, rfl, w1.heap.size, v, ?_, HBR.out, by omega, by omega, HV.out⟩
      have := HO.out
      rwa [List.take_of_length_le (by rw [HL.out.1]; omega)] at this
end Go.Proofs.Ytphfcfnbefikiaa
