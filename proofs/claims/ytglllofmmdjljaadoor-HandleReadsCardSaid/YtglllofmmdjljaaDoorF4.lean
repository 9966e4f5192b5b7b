/- Plain facts: handle.Read's answer at any string: a word whose text it is, if there is one; no condition. -/
import Derived.Test.YtglllofmmdjljaaDoorF3
namespace Go.Proofs.YtglllofmmdjljaaDoor
open Go.RowKit Go.Sort Go.Lib

def numB (b : Bool) (v : Nat) : List UInt8 := if b = true then decDigits v else []
def pre (r : Rd) : List UInt8 := numB r.ib r.iv ++ sg r.ms ++ (if r.tg = true then [64] ++ numB r.tb r.tv else [])
structure Rd.Inv (r : Rd) : Prop where
  ok : r.Ok
  i0 : r.ib = false → r.iv = 0 ∧ r.ms = 0 ∧ r.tg = false
  t0 : r.tg = false → r.tb = false
  v0 : r.tb = false → r.tv = 0

theorem enc_digit {c : Int} (h1 : 48 ≤ c) (h2 : c ≤ 57) : enc c = [dch (c - 48).toNat] := by
  unfold enc dch
  rw [if_neg (by omega), if_neg (by omega), show 48 + (c - 48).toNat = c.toNat by omega]

theorem num_pre {v : Nat} {b : Bool} {c : Int} {m v' : Nat} (h : numTake v b c m = some v') (hb : b = false → v = 0) : numB true v' = numB b v ++ enc c := by
  obtain ⟨a1, a2, a3, a4, a5⟩ := num_some h
  rw [enc_digit a1 a2]
  cases b
  · have := hb rfl
    subst this
    show decDigits v' = [] ++ [dch (c - 48).toNat]
    rw [show v' = (c - 48).toNat by omega, dec_small (by omega)]; rfl
  · have h0 := a3 rfl
    show decDigits v' = decDigits v ++ [dch (c - 48).toNat]
    rw [dec_big (show ¬ v' < 10 by omega), show v' / 10 = v by omega, show v' % 10 = (c - 48).toNat by omega]

theorem sg_two (a : Nat) (h : a < 2) : sg (a + 2) = sg a ++ [226, 128, 179] := by
  have : a = 0 ∨ a = 1 := by omega
  rcases this with rfl | rfl <;> rfl

theorem step_pre (r : Rd) (c : Int) (hi : r.Inv) (h : (step r c).2 = true) : (step r c).1.Inv ∧ pre (step r c).1 = pre r ++ enc c := by
  have hok := step_ok r c hi.ok
  obtain ⟨iv, ib, ms, tg, tv, tb⟩ := r
  obtain ⟨ho, i0, t0, v0⟩ := hi
  simp only at i0 t0 v0
  unfold step at h hok ⊢
  cases tg with
  | true =>
    simp only [if_true] at h hok ⊢
    cases hn : numTake tv tb c 1099511627775 with
    | none => rw [hn] at h; cases h
    | some v =>
      rw [hn] at hok
      simp only at hok ⊢
      refine ⟨⟨hok, i0, (fun e => nomatch e), (fun e => nomatch e)⟩, ?_⟩
      simp only [pre, if_true]
      rw [num_pre hn v0]
      simp
  | false =>
    simp only [Bool.false_eq_true, if_false] at h hok ⊢
    by_cases h64 : c = 64
    · subst h64
      simp only [if_true] at h hok ⊢
      subst h
      refine ⟨⟨hok, (fun e => nomatch e), (fun e => nomatch e), v0⟩, ?_⟩
      have := t0 rfl
      subst this
      simp [pre, numB, enc]
    · rw [if_neg h64] at h hok ⊢
      by_cases h1 : c = 8242
      · subst h1
        simp only [if_true] at h hok ⊢
        unfold markStep at h hok ⊢
        split at h
        · cases h
        · rename_i hc
          rw [if_neg hc] at hok ⊢
          simp only at hc
          have hib : ib = true := by cases ib <;> simp_all
          have hms : ms = 0 := by omega
          subst hib hms
          refine ⟨⟨hok, (fun e => nomatch e), t0, v0⟩, ?_⟩
          simp [pre, enc, sg]
      · rw [if_neg h1] at h hok ⊢
        by_cases h2 : c = 8243
        · subst h2
          simp only [if_true] at h hok ⊢
          unfold markStep at h hok ⊢
          split at h
          · cases h
          · rename_i hc
            rw [if_neg hc] at hok ⊢
            simp only at hc
            have hib : ib = true := by cases ib <;> simp_all
            subst hib
            refine ⟨⟨hok, (fun e => nomatch e), t0, v0⟩, ?_⟩
            simp only [pre]
            rw [sg_two ms (by omega)]
            simp [enc]
        · rw [if_neg h2] at h hok ⊢
          by_cases hms : ms = 0
          · subst hms
            simp only [if_true] at h hok ⊢
            cases hn : numTake iv ib c 4194303 with
            | none => rw [hn] at h; cases h
            | some v =>
              rw [hn] at hok
              simp only at hok ⊢
              refine ⟨⟨hok, (fun e => nomatch e), t0, v0⟩, ?_⟩
              simp only [pre]
              rw [num_pre hn (fun e => (i0 e).1)]
              simp [sg]
          · rw [if_neg hms] at h; cases h

theorem run_pre (rs : List Int) : ∀ (r r' : Rd), r.Inv → run rs r = some r' → r'.Inv ∧ pre r' = pre r ++ rs.flatMap enc := by
  induction rs with
  | nil =>
    intro r r' hi h
    cases h
    exact ⟨hi, by simp⟩
  | cons c rs ih =>
    intro r r' hi h
    have h' : (if (step r c).2 = true then run rs (step r c).1 else none) = some r' := h
    split at h'
    · rename_i hs
      obtain ⟨h1, h2⟩ := step_pre r c hi hs
      obtain ⟨h3, h4⟩ := ih _ _ h1 h'
      exact ⟨h3, by rw [h4, h2, List.flatMap_cons, List.append_assoc]⟩
    · cases h'

theorem zero_inv : Rd.zero.Inv := ⟨⟨by simp [Rd.zero], by simp [Rd.zero], by simp [Rd.zero]⟩, fun _ => ⟨rfl, rfl, rfl⟩, fun _ => rfl, fun _ => rfl⟩

theorem pre_whole (r : Rd) (hi : r.Inv) (hw : wholeB r = true) : textOf r.packed = pre r ∧ r.packed < 18446744073709551616 := by
  obtain ⟨iv, ib, ms, tg, tv, tb⟩ := r
  obtain ⟨⟨o1, o2, o3⟩, i0, t0, v0⟩ := hi
  simp only at o1 o2 o3 i0 t0 v0
  unfold wholeB at hw
  simp only at hw
  refine ⟨?_, packN_lt (n := iv) (m := ms) (t := tv) (by omega) o2 (by omega)⟩
  show textOf (packN iv ms tv) = _
  rw [textOf_pack iv ms tv (by omega) (by omega)]
  cases ib with
  | false => cases hw
  | true =>
    simp only [Bool.true_and] at hw
    simp only [pre, numB, if_true]
    by_cases h0 : tv = 0
    · subst h0
      have : tg = false := by simpa using hw
      subst this
      simp [tgt]
    · have htg : tg = true := by simpa [h0] using hw
      have htb : tb = true := by
        cases tb with
        | true => rfl
        | false => exact absurd (v0 rfl) h0
      subst htg htb
      simp [tgt, h0]

theorem readH_is {s : ByteArray} {h : Nat} (hh : readH s = some h) : h < 18446744073709551616 ∧ textOf h = s.data.toList := by
  unfold readH at hh
  cases hr : rdFrom s s.size 0 Rd.zero with
  | none => rw [hr] at hh; cases hh
  | some r =>
    rw [hr] at hh
    simp only at hh
    split at hh
    · rename_i hw
      cases hh
      obtain ⟨rs, _, h2, h3⟩ := rdFrom_is _ _ _ _ (by omega) hr
      obtain ⟨h4, h5⟩ := run_pre rs _ _ zero_inv h3
      obtain ⟨h6, h7⟩ := pre_whole r h4 hw
      refine ⟨h7, ?_⟩
      rw [h6, h5, ← h2]
      simp [pre, Rd.zero, numB, sg]
    · cases hh

/-! The other way round: a text is accepted. -/
def digs (l : List UInt8) : List Int := l.map fun c => (c.toNat : Int)
theorem enc_digs (l : List UInt8) (h : ∀ c ∈ l, isDig c = true) : (digs l).flatMap enc = l := by
  induction l with
  | nil => rfl
  | cons c l ih =>
    have hc := h c (by simp)
    unfold isDig at hc
    have hc' := of_decide_eq_true hc
    show enc (c.toNat : Int) ++ (digs l).flatMap enc = c :: l
    rw [ih (fun x hx => h x (List.mem_cons_of_mem _ hx))]
    have : enc (c.toNat : Int) = [c] := by
      unfold enc
      rw [if_neg (by omega), if_neg (by omega)]
      simp
    rw [this]; rfl
theorem ok_digs (l : List UInt8) (h : ∀ c ∈ l, isDig c = true) : ∀ c ∈ digs l, okRune c := by
  intro c hc
  obtain ⟨x, hx, rfl⟩ := List.mem_map.1 hc
  have := h x hx
  unfold isDig at this
  have := of_decide_eq_true this
  exact .inl ⟨by omega, by omega⟩

theorem digs_append (a b : List UInt8) : digs (a ++ b) = digs a ++ digs b := by simp [digs]

theorem numTake_ok {v : Nat} {b : Bool} {d m : Nat} (hd : d < 10) (hb : b = true → v ≠ 0) (hm : v * 10 + d ≤ m) : numTake v b ((48 + d : Nat) : Int) m = some (v * 10 + d) := by
  unfold numTake
  rw [if_neg (by rintro (h | h | ⟨h1, h2⟩); · omega
                 · omega
                 · exact hb h1 h2), if_neg (by omega)]
  congr 1
  omega

theorem run_dec_i (n : Nat) (hn : n ≤ 4194303) : run (digs (decDigits n)) Rd.zero = some ⟨n, true, 0, false, 0, false⟩ := by
  refine dec_ind (P := fun n => n ≤ 4194303 → run (digs (decDigits n)) Rd.zero = some ⟨n, true, 0, false, 0, false⟩) ?_ ?_ n hn
  · intro n h hn
    rw [dec_small h]
    show (if (step Rd.zero ((dch n).toNat : Int)).2 = true then run [] (step Rd.zero ((dch n).toNat : Int)).1 else none) = _
    rw [dch_toNat h]
    have : step Rd.zero ((48 + n : Nat) : Int) = (⟨n, true, 0, false, 0, false⟩, true) := by
      unfold step Rd.zero
      have := numTake_ok (v := 0) (b := false) (d := n) (m := 4194303) h (fun e => by cases e) (by omega)
      simp only [Bool.false_eq_true, if_false, if_true, this]
      rw [if_neg (by omega), if_neg (by omega), if_neg (by omega)]
      simp
    rw [this]; rfl
  · intro n h ih hn
    rw [dec_big h, digs_append, run_append, ih (by omega)]
    show (if (step _ ((dch (n % 10)).toNat : Int)).2 = true then run [] (step _ ((dch (n % 10)).toNat : Int)).1 else none) = _
    rw [dch_toNat (by omega)]
    have : step ⟨n / 10, true, 0, false, 0, false⟩ ((48 + n % 10 : Nat) : Int) = (⟨n, true, 0, false, 0, false⟩, true) := by
      unfold step
      have := numTake_ok (v := n / 10) (b := true) (d := n % 10) (m := 4194303) (by omega) (fun _ => by omega) (by omega)
      simp only [Bool.false_eq_true, if_false, if_true, this]
      rw [if_neg (by omega), if_neg (by omega), if_neg (by omega), show n / 10 * 10 + n % 10 = n by omega]
    rw [this]; rfl

theorem run_dec_t (i m n : Nat) (hn : n ≤ 1099511627775) : run (digs (decDigits n)) ⟨i, true, m, true, 0, false⟩ = some ⟨i, true, m, true, n, true⟩ := by
  refine dec_ind (P := fun n => n ≤ 1099511627775 → run (digs (decDigits n)) ⟨i, true, m, true, 0, false⟩ = some ⟨i, true, m, true, n, true⟩) ?_ ?_ n hn
  · intro n h hn
    rw [dec_small h]
    show (if (step _ ((dch n).toNat : Int)).2 = true then run [] (step _ ((dch n).toNat : Int)).1 else none) = _
    rw [dch_toNat h]
    have : step ⟨i, true, m, true, 0, false⟩ ((48 + n : Nat) : Int) = (⟨i, true, m, true, n, true⟩, true) := by
      unfold step
      have := numTake_ok (v := 0) (b := false) (d := n) (m := 1099511627775) h (fun e => by cases e) (by omega)
      simp only [if_true, this]
      simp
    rw [this]; rfl
  · intro n h ih hn
    rw [dec_big h, digs_append, run_append, ih (by omega)]
    show (if (step _ ((dch (n % 10)).toNat : Int)).2 = true then run [] (step _ ((dch (n % 10)).toNat : Int)).1 else none) = _
    rw [dch_toNat (by omega)]
    have : step ⟨i, true, m, true, n / 10, true⟩ ((48 + n % 10 : Nat) : Int) = (⟨i, true, m, true, n, true⟩, true) := by
      unfold step
      have := numTake_ok (v := n / 10) (b := true) (d := n % 10) (m := 1099511627775) (by omega) (fun _ => by omega) (by omega)
      simp only [if_true, this]
      rw [show n / 10 * 10 + n % 10 = n by omega]
    rw [this]; rfl

def sgR (m : Nat) : List Int := (if m = 1 ∨ m = 3 then [8242] else []) ++ (if m = 2 ∨ m = 3 then [8243] else [])
def tgR (t : Nat) : List Int := if t = 0 then [] else [64] ++ digs (decDigits t)

theorem run_sg (n m : Nat) (hm : m ≤ 3) : run (sgR m) ⟨n, true, 0, false, 0, false⟩ = some ⟨n, true, m, false, 0, false⟩ := by
  have : m = 0 ∨ m = 1 ∨ m = 2 ∨ m = 3 := by omega
  rcases this with rfl | rfl | rfl | rfl <;> rfl

theorem run_tg (n m t : Nat) (ht : t ≤ 1099511627775) : run (tgR t) ⟨n, true, m, false, 0, false⟩ = some ⟨n, true, m, decide (t ≠ 0), t, decide (t ≠ 0)⟩ := by
  unfold tgR
  by_cases h : t = 0
  · subst h; rfl
  · rw [if_neg h, run_append]
    show (run (digs (decDigits t)) ⟨n, true, m, true, 0, false⟩) = _
    rw [run_dec_t n m t ht]
    simp [h]

theorem readH_text (h : Nat) (hh : h < 18446744073709551616) (s : ByteArray) (hs : s.data.toList = textOf h) : readH s = some h := by
  have ht : h / 16777216 ≤ 1099511627775 := by omega
  have hn : h % 4194304 ≤ 4194303 := by omega
  have hm : h / 4194304 % 4 ≤ 3 := by omega
  have hp := pack_parts h
  rw [textOf_eq] at hs
  generalize h % 4194304 = n at *
  generalize h / 4194304 % 4 = m at *
  generalize h / 16777216 = t at *
  have hsg : (sgR m).flatMap enc = sg m := by
    have : m = 0 ∨ m = 1 ∨ m = 2 ∨ m = 3 := by omega
    rcases this with rfl | rfl | rfl | rfl <;> rfl
  have htg : (tgR t).flatMap enc = tgt t := by
    unfold tgR tgt
    by_cases h : t = 0
    · rw [if_pos h, if_pos h]; rfl
    · rw [if_neg h, if_neg h, List.flatMap_append, enc_digs _ (dec_all t)]; rfl
  have hsgk : ∀ c ∈ sgR m, okRune c := by
    intro c hc
    unfold sgR at hc
    rcases List.mem_append.1 hc with hc | hc
    · split at hc
      · simp at hc; exact .inr (.inr (.inl hc))
      · cases hc
    · split at hc
      · simp at hc; exact .inr (.inr (.inr hc))
      · cases hc
  have htgk : ∀ c ∈ tgR t, okRune c := by
    intro c hc
    unfold tgR at hc
    split at hc
    · cases hc
    · rcases List.mem_append.1 hc with hc | hc
      · simp at hc; exact .inr (.inl hc)
      · exact ok_digs _ (dec_all t) c hc
  have hrun := rdFrom_run (s := s) (digs (decDigits n) ++ (sgR m ++ tgR t)) s.size 0 Rd.zero (by
    intro c hc
    rcases List.mem_append.1 hc with hc | hc
    · exact ok_digs _ (dec_all n) c hc
    · rcases List.mem_append.1 hc with hc | hc
      · exact hsgk c hc
      · exact htgk c hc) (by rw [List.drop_zero, hs, List.flatMap_append, List.flatMap_append, enc_digs _ (dec_all n), hsg, htg]) (by omega)
  have hr : run (digs (decDigits n) ++ (sgR m ++ tgR t)) Rd.zero = some ⟨n, true, m, decide (t ≠ 0), t, decide (t ≠ 0)⟩ := by
    rw [run_append, run_dec_i n hn]
    show run (sgR m ++ tgR t) _ = _
    rw [run_append, run_sg n m hm]
    exact run_tg n m t ht
  unfold readH
  rw [hrun, hr]
  simp only
  rw [if_pos (by simp [wholeB])]
  rw [← hp]; rfl

/-- The two readers answer alike. -/
theorem readers_agree (s : ByteArray) : readH s = refRead s.data.toList := by
  cases h : readH s with
  | some x =>
    obtain ⟨h1, h2⟩ := readH_is h
    rw [← h2, refRead_text x h1]
  | none =>
    cases g : refRead s.data.toList with
    | none => rfl
    | some y =>
      obtain ⟨g1, g2⟩ := refRead_is g
      rw [readH_text y g1 s g2.symm] at h
      cases h
end Go.Proofs.YtglllofmmdjljaaDoor
