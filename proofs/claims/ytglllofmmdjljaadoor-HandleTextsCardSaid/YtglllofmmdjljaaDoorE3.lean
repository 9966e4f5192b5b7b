/- What the reference's digits and tick answer for any string of at most 100 bytes. -/
import Derived.Test.YtglllofmmdjljaaDoorE2
namespace Go.Proofs.YtglllofmmdjljaaDoor
open Go.RowKit Go.Sort Go.Lib

def isDig (c : UInt8) : Bool := decide (48 ≤ c.toNat ∧ c.toNat ≤ 57)
def val (l : List UInt8) : Nat := l.foldl (fun n c => 10 * n + (c.toNat - 48)) 0
theorem val_snoc (l : List UInt8) (c : UInt8) : val (l ++ [c]) = 10 * val l + (c.toNat - 48) := by simp [val, List.foldl_append]
theorem val_mono (l : List UInt8) (i : Nat) : val (l.take i) ≤ val l := by
  have h : ∀ (k : List UInt8) (n : Nat), n ≤ k.foldl (fun n c => 10 * n + (c.toNat - 48)) n := by
    intro k
    induction k with
    | nil => intro n; exact Nat.le_refl _
    | cons c k ih => intro n; exact Nat.le_trans (show n ≤ 10 * n + (c.toNat - 48) by omega) (ih _)
  have e : val l = (l.drop i).foldl (fun n c => 10 * n + (c.toNat - 48)) (val (l.take i)) := by
    unfold val; rw [← List.foldl_append, List.take_append_drop]
  rw [e]; exact h _ _

def digR (l : List UInt8) : Option (Nat × Nat) :=
  if 1099511627776 < val (l.takeWhile isDig) ∨ (l.takeWhile isDig).length = 0 ∨ (1 < (l.takeWhile isDig).length ∧ l.head? = some 48) then none
  else some (val (l.takeWhile isDig), (l.takeWhile isDig).length)

def digEnd (a : Nat) (o : Option (Nat × Nat)) : Ending := match o with
  | some (v, n) => .returned (.tuple #[.int .u64 v, .int .i64 (a + n)])
  | none => .returned (.tuple #[.int .u64 0, .int .i64 (-1)])

theorem tw_len (l : List UInt8) : (l.takeWhile isDig).length ≤ l.length := (List.takeWhile_prefix isDig).length_le
theorem tw_get (l : List UInt8) (i : Nat) (h : i < (l.takeWhile isDig).length) : (l.takeWhile isDig)[i] = l[i]'(Nat.lt_of_lt_of_le h (tw_len l)) := by
  have hp := List.takeWhile_prefix isDig (l := l)
  exact hp.getElem h
theorem tw_dig (l : List UInt8) (i : Nat) (h : i < (l.takeWhile isDig).length) : isDig ((l.takeWhile isDig)[i]) = true :=
  List.all_eq_true.1 (List.all_takeWhile (p := isDig) (l := l)) _ (List.getElem_mem h)
theorem tw_stop (l : List UInt8) (h : (l.takeWhile isDig).length < l.length) : isDig (l[(l.takeWhile isDig).length]) = false := by
  induction l with
  | nil => simp at h
  | cons c l ih =>
    by_cases hc : isDig c = true
    · simp only [List.takeWhile_cons, hc, if_true, List.length_cons, List.getElem_cons_succ] at h ⊢
      exact ih (by omega)
    · simp [hc]

set_option maxHeartbeats 1000000 in
set_option maxRecDepth 100000 in
theorem digits_any (s : ByteArray) (a : Nat) (ha : a ≤ s.size) (hs : s.size ≤ 100) (w : World) :
    Calls Tryd.prog 33 #[.string s, .int .i64 a] w fun e w' => e = digEnd a (digR (s.data.toList.drop a)) ∧ w = w' := by
  generalize hD : (s.data.toList.drop a).takeWhile isDig = D
  have hDl : a + D.length ≤ s.size := by
    have := tw_len (s.data.toList.drop a); rw [hD] at this; simp at this; have : s.data.size = s.size := rfl; omega
  have hin : ∀ i (h : i < D.length), ∃ h' : a + i < s.size, s[a + i] = D[i] ∧ 48 ≤ D[i].toNat ∧ D[i].toNat ≤ 57 := by
    intro i h
    have hi : i < ((s.data.toList.drop a).takeWhile isDig).length := by rw [hD]; exact h
    have g1 := tw_get _ i hi
    have g2 := tw_dig _ i hi
    refine ⟨by omega, ?_, ?_⟩
    · have : D[i] = ((s.data.toList.drop a).takeWhile isDig)[i] := by simp [hD]
      rw [this, g1]; simp; rfl
    · have : D[i] = ((s.data.toList.drop a).takeWhile isDig)[i] := by simp [hD]
      rw [this]; simpa [isDig] using g2
  have hout : ∀ h : a + D.length < s.size, s[a + D.length].toNat < 48 ∨ 57 < s[a + D.length].toNat := by
    intro h
    have hz : s.data.size = s.size := rfl
    have g := tw_stop (s.data.toList.drop a) (by rw [hD]; simp; omega)
    have e : (s.data.toList.drop a)[((s.data.toList.drop a).takeWhile isDig).length]'(by rw [hD]; simp; omega) = s[a + D.length] := by
      simp [hD]; rfl
    rw [e] at g
    simp [isDig] at g
    omega
  have HD := Lib.hid hD
  have HI := Lib.hid hin
  have HO := Lib.hid hout
  clear hD hin hout
  go_enter Tryd.func33, Tryd.ntmps33
  go_wp2
  go_loop [6, 7] (fun t6 t7 => ∃ i : Nat, i ≤ D.length ∧ t7 = .int .i64 ((a + i : Nat) : Int) ∧ t6 = .int .u64 (val (D.take i)) ∧ val (D.take i) ≤ 1099511627776) (fun _ t7 => s.size - (RowKit.intOf t7).toNat)
  case atStart => exact ⟨0, Nat.zero_le _, rfl, rfl, by simp [val]⟩
  case round =>
    obtain ⟨i, hi, rfl, rfl, hv⟩ := hrel
    by_cases hlt : i < D.length
    · obtain ⟨h', e1, e2, e3⟩ := HI.out i hlt
      have hsn : val (D.take (i + 1)) = 10 * val (D.take i) + (D[i].toNat - 48) := by
        rw [List.take_succ_eq_append_getElem hlt, val_snoc]
      have HSN := Lib.hid hsn
      have es : s[a + i].toNat = D[i].toNat := by rw [e1]
      clear hsn e1
      generalize D[i].toNat = d at *
      generalize hvv : val (D.take i) = v at *
      have HVV := Lib.hid hvv
      clear hvv
      by_cases hov : 1099511627776 < val (D.take (i + 1))
      · have hov' : (1099511627776 : Int) < 10 * (v : Int) + ((d : Int) - 48) := by have := HSN.out; omega
        have hno : Hid (digR (s.data.toList.drop a) = none) := by
          show _ = _
          unfold digR
          rw [HD.out, if_pos (.inl (Nat.lt_of_lt_of_le hov (val_mono D (i + 1))))]
        clear hov
        go_wp2
        go_ret2
        exact ⟨by rw [hno.out]; rfl, rfl⟩
      · have hov' : 10 * (v : Int) + ((d : Int) - 48) ≤ 1099511627776 := by have := HSN.out; omega
        have hov2 := Lib.hid hov
        clear hov
        go_wp2
        go_round
        case rel => exact ⟨i + 1, by omega, by go_num, by rw [HSN.out]; go_num, by have := hov2.out; omega⟩
        case measure => simp [RowKit.intOf]; omega
    · obtain rfl : i = D.length := by omega
      clear hlt hi
      rw [List.take_length] at *
      have hstop : s.size ≤ a + D.length ∨ (∃ h : a + D.length < s.size, s[a + D.length].toNat < 48) ∨ (∃ h : a + D.length < s.size, 57 < s[a + D.length].toNat) := by
        by_cases h : a + D.length < s.size
        · rcases HO.out h with h2 | h2
          · exact .inr (.inl ⟨h, h2⟩)
          · exact .inr (.inr ⟨h, h2⟩)
        · exact .inl (by omega)
      have hres : (D.length = 0 ∧ Hid (digR (s.data.toList.drop a) = none)) ∨ (D.length = 1 ∧ Hid (digR (s.data.toList.drop a) = some (val D, D.length))) ∨
          (1 < D.length ∧ (∃ h : a < s.size, s[a].toNat = 48) ∧ Hid (digR (s.data.toList.drop a) = none)) ∨ (1 < D.length ∧ (∃ h : a < s.size, s[a].toNat ≠ 48) ∧ Hid (digR (s.data.toList.drop a) = some (val D, D.length))) := by
        have hdr : digR (s.data.toList.drop a) = if 1099511627776 < val D ∨ D.length = 0 ∨ (1 < D.length ∧ (s.data.toList.drop a).head? = some 48) then none else some (val D, D.length) := by
          unfold digR; rw [HD.out]
        by_cases h0 : D.length = 0
        · exact .inl ⟨h0, by show _ = _; rw [hdr, if_pos (.inr (.inl h0))]⟩
        · by_cases h1 : D.length = 1
          · exact .inr (.inl ⟨h1, by show _ = _; rw [hdr, if_neg (by omega)]⟩)
          · have hsz : a < s.size := by omega
            have hhd : (s.data.toList.drop a).head? = some s[a] := by
              rw [List.head?_drop]; simp [hsz]; rfl
            by_cases h48 : s[a].toNat = 48
            · have e48 : s[a] = 48 := UInt8.toNat_inj.1 h48
              exact .inr (.inr (.inl ⟨by omega, ⟨hsz, h48⟩, by show _ = _; rw [hdr, hhd, e48, if_pos (.inr (.inr ⟨by omega, rfl⟩))]⟩))
            · exact .inr (.inr (.inr ⟨by omega, ⟨hsz, h48⟩, by
                show _ = _
                rw [hdr, hhd, if_neg]
                rintro (h | h | ⟨_, h⟩)
                · omega
                · omega
                · exact h48 (by rw [Option.some.inj h]; rfl)⟩))
      clear HI HO HD
      generalize val D = v at *
      generalize D.length = L at *
      have hk : a + L < 1000 := by omega
      rcases hres with ⟨h0, hr⟩ | ⟨h0, hr⟩ | ⟨hL, ⟨hsz, h48⟩, hr⟩ | ⟨hL, ⟨hsz, h48⟩, hr⟩
      · have hstop' : s.size ≤ a ∨ (∃ h : a < s.size, s[a].toNat < 48) ∨ (∃ h : a < s.size, 57 < s[a].toNat) := by
          subst h0; exact hstop
        clear hstop
        rcases hstop' with hst | ⟨hlt, hst⟩ | ⟨hlt, hst⟩
        all_goals
          go_wp2
          go_ret2
          exact ⟨by rw [hr.out]; rfl, rfl⟩
      · have hstop' : s.size ≤ a + 1 ∨ (∃ h : a + 1 < s.size, s[a + 1].toNat < 48) ∨ (∃ h : a + 1 < s.size, 57 < s[a + 1].toNat) := by
          subst h0; exact hstop
        clear hstop
        rcases hstop' with hst | ⟨hlt, hst⟩ | ⟨hlt, hst⟩
        all_goals
          go_wp2
          go_ret2
          exact ⟨by rw [hr.out, h0]; rfl, rfl⟩
      · have b1 : ((a : Int) + (L : Int) == (a : Int)) = false := by rw [beq_eq_false_iff_ne]; omega
        rcases hstop with hst | ⟨hlt, hst⟩ | ⟨hlt, hst⟩
        all_goals
          go_wp2
          go_ret2
          exact ⟨by rw [hr.out]; rfl, rfl⟩
      · have b1 : ((a : Int) + (L : Int) == (a : Int)) = false := by rw [beq_eq_false_iff_ne]; omega
        have b2 : ((s[a].toNat : Int) == 48) = false := by rw [beq_eq_false_iff_ne]; omega
        rcases hstop with hst | ⟨hlt, hst⟩ | ⟨hlt, hst⟩
        all_goals
          go_wp2
          go_ret2
          exact ⟨by rw [hr.out]; rfl, rfl⟩

def tk (l : List UInt8) (a : Nat) (t : List UInt8) : Bool := decide ((l.drop a).take 3 = t)

set_option maxHeartbeats 400000 in
set_option maxRecDepth 100000 in
theorem tick_any (s : ByteArray) (a : Nat) (x y z : UInt8) (hs : s.size ≤ 100) (ha : a ≤ s.size) (w : World) :
    Calls Tryd.prog 34 #[.string s, .int .i64 a, .string ⟨#[x, y, z]⟩] w fun e w' => e = .returned (.bool (tk s.data.toList a [x, y, z])) ∧ w = w' := by
  by_cases h : a + 3 ≤ s.size
  · go_enter Tryd.func34, Tryd.ntmps34
    go_wp2
    go_ret
    refine ⟨ret_bool ?_, rfl⟩
    rw [Lib.toList_data, Lib.extract_data, show a + 3 - a = 3 by omega]
    unfold tk
    rw [Bool.eq_iff_iff]
    simp
  · have hf : tk s.data.toList a [x, y, z] = false := by
      unfold tk
      simp only [decide_eq_false_iff_not]
      intro e
      have := congrArg List.length e
      have hz : s.data.size = s.size := rfl
      simp at this
      omega
    rw [hf]
    clear hf
    go_enter Tryd.func34, Tryd.ntmps34
    go_wp2
    go_ret
    exact ⟨rfl, rfl⟩

theorem tk_le {l : List UInt8} {a : Nat} {x y z : UInt8} (h : tk l a [x, y, z] = true) : a + 3 ≤ l.length := by
  unfold tk at h
  have := congrArg List.length (of_decide_eq_true h)
  simp at this
  omega

theorem digR_some {l : List UInt8} {v n : Nat} (h : digR l = some (v, n)) : v ≤ 1099511627776 ∧ 1 ≤ n ∧ n ≤ l.length := by
  unfold digR at h
  split at h
  · cases h
  · rename_i hc
    cases h
    have := tw_len l
    omega
end Go.Proofs.YtglllofmmdjljaaDoor
