/- The contracts of few, of handle's Index, of Leads, and of what a nil and a zero arena answer. -/
import Derived.Test.YtmolccpihmbniaaDoorK1
namespace Go.Proofs.YtmolccpihmbniaaDoor
open Go.RowKit
set_option linter.unusedVariables false

def fewB (a b : Int) : Bool := decide (0 ≤ a) && decide (a ≤ 40) && decide (0 ≤ b) && decide (b ≤ 40)
theorem few_yes {a b : Int} (h : fewB a b = true) : (0 ≤ a ∧ a ≤ 40) ∧ (0 ≤ b ∧ b ≤ 40) := by simp [fewB] at h; omega

set_option maxHeartbeats 400000 in
theorem few_any (a b : Int) (w : World) :
    Calls Tryd.prog 9 #[.int .i64 a, .int .i64 b] w fun e w' => e = .returned (.bool (fewB a b)) ∧ w = w' := by
  go_enter Tryd.func9, Tryd.ntmps9
  go_wp2
  all_goals go_ret
  all_goals refine ⟨ret_bool ?_, rfl⟩
  all_goals (unfold fewB; simp [*])
  all_goals first | omega | (rw [Bool.eq_iff_iff]; simp; omega)

theorem and22 (h : Int) (h0 : 0 ≤ h) (h1 : h < 18446744073709551616) : bits .and .u64 h 4194303 = h % 4194304 := by
  obtain ⟨n, rfl⟩ := Int.eq_ofNat_of_zero_le h0
  have := u64_and_nat n 4194303 (by omega) (by omega)
  rw [show ((4194303 : Int)) = ((4194303 : Nat) : Int) from rfl, this, show n &&& 4194303 = n % 4194304 from Nat.and_two_pow_sub_one_eq_mod n 22]
  omega

set_option maxHeartbeats 400000 in
theorem index_any (h : Int) (h0 : 0 ≤ h) (h1 : h < 18446744073709551616) (w : World) :
    Calls Tryd.prog 36 #[.int .u64 h] w fun e w' => e = .returned (.int .i64 (h % 4194304)) ∧ Below w.heap.size w w' := by
  go_enter Tryd.func36, Tryd.ntmps36
  go_wp2
  go_ret
  exact ⟨ret_int (by rw [and22 h h0 h1, wrap_small _ (by omega) (by omega)]), by go_grown⟩

set_option maxHeartbeats 400000 in
theorem leads_any (B : Nat) (r : Ar) (s : Sm r) (h : Int) (h0 : 0 ≤ h) (h1 : h < 18446744073709551616) (w : World) (ha : At B r w) {c d : Int} {t : Bool} (hf : fnd (h % 4194304) r.i0 r.i1 r.i2 = (c, d, t)) :
    Calls Tryd.prog 22 #[ptr B, .int .u64 h] w fun e w' => e = .returned (.tuple #[.int .i64 (if t then h % 4194304 else 0), .bool t]) ∧ Below w.heap.size w w' := by
  have HA := Lib.hid ha
  have HF := Lib.hid hf
  clear ha hf
  cases t
  all_goals
    go_enter Tryd.func22, Tryd.ntmps22
    go_wp2_with fail
    refine (index_any h h0 h1 _).mono ?_
    rintro e w1 ⟨rfl, hb1⟩
    have HB1 := Lib.hid hb1
    clear hb1
    go_wp2_with fail
    refine (has_any B r s _ _ (HA.out.below HB1.out) HF.out).mono ?_
    rintro e w2 ⟨rfl, hb2⟩
    have HB2 := Lib.hid (HB1.out.trans (hb2.mono HB1.out.size))
    clear hb2
    go_wp2
    go_returns
    exact ⟨rfl, HB2.out⟩

set_option maxHeartbeats 400000 in
theorem leads_nil (h : Int) (h0 : 0 ≤ h) (h1 : h < 18446744073709551616) (w : World) :
    Calls Tryd.prog 22 #[.pointer none, .int .u64 h] w fun e w' => e = .returned (.tuple #[.int .i64 0, .bool false]) ∧ Below w.heap.size w w' := by
  go_enter Tryd.func22, Tryd.ntmps22
  go_wp2_with fail
  refine (index_any h h0 h1 _).mono ?_
  rintro e w1 ⟨rfl, hb1⟩
  have HB1 := Lib.hid hb1
  clear hb1
  go_wp2_with fail
  refine (has_nil _ _).mono ?_
  rintro e w2 ⟨rfl, hb2⟩
  have HB2 := Lib.hid (HB1.out.trans (hb2.mono HB1.out.size))
  clear hb2
  go_wp2
  go_returns
  exact ⟨rfl, HB2.out⟩

set_option maxHeartbeats 4000000 in
theorem law_leads (a b h : Int) (h0 : 0 ≤ h) (h1 : h < 18446744073709551616) (w : World) (hs : Sz w) :
    Calls Tryd.prog 6 #[.int .i64 a, .int .i64 b, .int .u64 h] w fun e w' => e = .returned (.bool true) ∧ Below w.heap.size w w' := by
  cases hf : fewB a b
  · have HF := Lib.hid hf
    clear hf
    go_enter Tryd.func6, Tryd.ntmps6
    go_wp2_with fail
    refine (few_any a b _).mono ?_
    rintro e w1 ⟨rfl, rfl⟩
    rw [HF.out]
    go_wp2_with fail
    refine (known_any _ hs).mono ?_
    rintro e w1 ⟨rfl, hb⟩
    go_wp2
    go_returns
    exact ⟨rfl, hb⟩
  · obtain ⟨ha, hb⟩ := few_yes hf
    have HF := Lib.hid hf
    clear hf
    have hc := fnd_cases (h % 4194304) 1 (1 + a) (1 + a + b)
    have hx : ∃ c d t, fnd (h % 4194304) 1 (1 + a) (1 + a + b) = (c, d, t) ∧ (t = true ↔ 1 ≤ h % 4194304 ∧ h % 4194304 ≤ a + b) := by
      rcases hc with ⟨x1, x2, x3⟩ | ⟨x1, x2, x3, x4⟩ | ⟨x1, x2, x3⟩
      · exact ⟨_, _, _, x3, by simp; omega⟩
      · exact ⟨_, _, _, x4, by simp; omega⟩
      · exact ⟨_, _, _, x3, by simp; omega⟩
    obtain ⟨c, d, t, hx, ht⟩ := hx
    have HX := Lib.hid hx
    clear hx hc
    cases t
    · have hno : h % 4194304 < 1 ∨ a + b < h % 4194304 := by
        have : ¬ (1 ≤ h % 4194304 ∧ h % 4194304 ≤ a + b) := fun hh => by simpa using ht.2 hh
        omega
      clear ht
      rcases hno with hno | hno
      all_goals
        go_enter Tryd.func6, Tryd.ntmps6
        go_wp2_with fail
        refine (few_any a b _).mono ?_
        rintro e w1 ⟨rfl, rfl⟩
        rw [HF.out]
        go_wp2_with fail
        refine (begin_any 1000 0 a b (by omega) (by omega) (by omega) (by omega) (by omega) _ hs).mono ?_
        rintro e w1 ⟨A, L, rfl, hN, hb1⟩
        have HO := Lib.hid (On.mk (hs.below hb1) hN.at_ hb1)
        clear hN hb1
        go_wp2_with fail
        refine (leads_any A _ (by constructor <;> simp only <;> omega) h h0 h1 _ HO.out.a HX.out).mono ?_
        rintro e w2 ⟨rfl, hb2⟩
        have HO2 := Lib.hid (HO.out.next hb2)
        clear hb2
        go_wp2_with fail
        refine (known_any _ HO2.out.z).mono ?_
        rintro e w3 ⟨rfl, hb3⟩
        have HB3 := Lib.hid (HO2.out.next hb3).b
        clear hb3
        go_wp2
        go_returns
        exact ⟨rfl, HB3.out⟩
    · have hyes : 1 ≤ h % 4194304 ∧ h % 4194304 ≤ a + b := ht.1 rfl
      clear ht
      go_enter Tryd.func6, Tryd.ntmps6
      go_wp2_with fail
      refine (few_any a b _).mono ?_
      rintro e w1 ⟨rfl, rfl⟩
      rw [HF.out]
      go_wp2_with fail
      refine (begin_any 1000 0 a b (by omega) (by omega) (by omega) (by omega) (by omega) _ hs).mono ?_
      rintro e w1 ⟨A, L, rfl, hN, hb1⟩
      have HO := Lib.hid (On.mk (hs.below hb1) hN.at_ hb1)
      clear hN hb1
      go_wp2_with fail
      refine (leads_any A _ (by constructor <;> simp only <;> omega) h h0 h1 _ HO.out.a HX.out).mono ?_
      rintro e w2 ⟨rfl, hb2⟩
      have HO2 := Lib.hid (HO.out.next hb2)
      clear hb2
      go_wp2_with fail
      refine (known_any _ HO2.out.z).mono ?_
      rintro e w3 ⟨rfl, hb3⟩
      have HB3 := Lib.hid (HO2.out.next hb3).b
      clear hb3
      go_wp2
      go_returns
      exact ⟨rfl, HB3.out⟩


theorem len_nil (w : World) : Calls Tryd.prog 26 #[.pointer none] w fun e w' => e = .returned (.int .i64 0) ∧ Below w.heap.size w w' := by
  go_enter Tryd.func26, Tryd.ntmps26
  go_wp2
  go_returns
  exact ⟨rfl, Below.refl _ _⟩

def zr : Ar := ⟨0, 0, 0, 0, 0, 0, .pointer none⟩
theorem zr_sm : Sm zr := by constructor <;> simp [zr]

theorem end_ex (a b c : Int) (w : World) :
    Calls Tryd.prog 43 #[.agg #[.int .i64 a, .int .i64 b, .int .i64 c]] w fun e w' => e = .returned (.int .i64 c) ∧ ∃ o, w' = w.alloc o := by
  go_enter Tryd.func43, Tryd.ntmps43
  go_wp2
  go_ret
  exact ⟨rfl, _, rfl⟩

set_option maxHeartbeats 400000 in
theorem len_zero (B : Nat) (w : World) (h : At B zr w) : Calls Tryd.prog 26 #[.pointer (some ⟨B, 0, none⟩)] w fun e w' => e = .returned (.int .i64 0) ∧ Below w.heap.size w w' := by
  obtain ⟨c0, c1, c2, c3, c4, c5, c6⟩ := h
  simp only [zr] at c0 c1 c2 c3 c4 c5 c6
  have hB := World.block_lt_of_cell? _ _ c0
  simp only at hB
  have HK : ∀ {w' : World}, Below w.heap.size w w' → w'.cell? ⟨B, 0, none⟩ = some (.int .i64 0) ∧ w'.cell? ⟨B, 1, none⟩ = some (.int .i64 0) ∧ w'.cell? ⟨B, 2, none⟩ = some (.int .i64 0) := fun hb => ⟨keep hb c0, keep hb c1, keep hb c2⟩
  go_enter Tryd.func26, Tryd.ntmps26
  go_wp2_with fail
  go_region_held3 (fun w' => w'.cell? ⟨B, 0, none⟩ = some (.int .i64 0) ∧ w'.cell? ⟨B, 1, none⟩ = some (.int .i64 0) ∧ w'.cell? ⟨B, 2, none⟩ = some (.int .i64 0)) (exact HK (by go_grown))
    (first | (go_at_call 43; refine (end_ex _ _ _ _).mono ?_; rintro e w4 ⟨rfl, o1, rfl⟩))
  all_goals
    go_wp2
    go_returns
    exact ⟨rfl, by go_grown⟩

theorem cap_nil (n : Int) (w : World) : Calls Tryd.prog 20 #[.pointer none, .int .i64 n] w fun e w' => e = .returned (.int .i64 0) ∧ Below w.heap.size w w' := by
  go_enter Tryd.func20, Tryd.ntmps20
  go_wp2
  go_returns
  exact ⟨rfl, Below.refl _ _⟩

set_option maxHeartbeats 400000 in
theorem cap_zero1 (B : Nat) (w : World) (h : At B zr w) : Calls Tryd.prog 20 #[.pointer (some ⟨B, 0, none⟩), .int .i64 1] w fun e w' => e = .returned (.int .i64 0) ∧ Below w.heap.size w w' := by
  obtain ⟨c0, c1, c2, c3, c4, c5, c6⟩ := h
  simp only [zr] at c0 c1 c2 c3 c4 c5 c6
  go_enter Tryd.func20, Tryd.ntmps20
  go_wp2_with fail
  refine (within_any _ _ _ _).mono ?_
  rintro e w1 ⟨rfl, rfl⟩
  rw [show inB 1 0 1 = true from rfl]
  go_wp2_with fail
  go_quiet (fail)
  go_wp2
  go_returns
  exact ⟨rfl, below_drewN (Below.refl _ _) _⟩

set_option maxHeartbeats 400000 in
theorem cap_out (B : Nat) (r : Ar) (n : Int) (hn : inB n 0 1 = false) (w : World) : Calls Tryd.prog 20 #[.pointer (some ⟨B, 0, none⟩), .int .i64 n] w fun e w' => e = .returned (.int .i64 0) ∧ Below w.heap.size w w' := by
  have HN := Lib.hid hn
  clear hn
  go_enter Tryd.func20, Tryd.ntmps20
  go_wp2_with fail
  refine (within_any _ _ _ _).mono ?_
  rintro e w1 ⟨rfl, rfl⟩
  rw [HN.out]
  go_wp2
  go_returns
  exact ⟨rfl, Below.refl _ _⟩

theorem born_nil (n : Int) (w : World) : Calls Tryd.prog 23 #[.pointer none, .int .i64 n] w fun e w' => e = .returned (.int .i64 0) ∧ Below w.heap.size w w' := by
  go_enter Tryd.func23, Tryd.ntmps23
  go_wp2_with fail
  refine (has_nil _ _).mono ?_
  rintro e w1 ⟨rfl, hb⟩
  go_wp2
  go_returns
  exact ⟨rfl, hb⟩
theorem life_nil (n : Int) (w : World) : Calls Tryd.prog 24 #[.pointer none, .int .i64 n] w fun e w' => e = .returned (.int .i64 0) ∧ Below w.heap.size w w' := by
  go_enter Tryd.func24, Tryd.ntmps24
  go_wp2_with fail
  refine (has_nil _ _).mono ?_
  rintro e w1 ⟨rfl, hb⟩
  go_wp2
  go_returns
  exact ⟨rfl, hb⟩
theorem born_no (B : Nat) (r : Ar) (s : Sm r) (n : Int) (w : World) (h : At B r w) {c d : Int} (hf : fnd n r.i0 r.i1 r.i2 = (c, d, false)) :
    Calls Tryd.prog 23 #[.pointer (some ⟨B, 0, none⟩), .int .i64 n] w fun e w' => e = .returned (.int .i64 0) ∧ Below w.heap.size w w' := by
  go_enter Tryd.func23, Tryd.ntmps23
  go_wp2_with fail
  refine (has_any B r s n _ h hf).mono ?_
  rintro e w1 ⟨rfl, hb⟩
  go_wp2
  go_returns
  exact ⟨rfl, hb⟩
theorem life_no (B : Nat) (r : Ar) (s : Sm r) (n : Int) (w : World) (h : At B r w) {c d : Int} (hf : fnd n r.i0 r.i1 r.i2 = (c, d, false)) :
    Calls Tryd.prog 24 #[.pointer (some ⟨B, 0, none⟩), .int .i64 n] w fun e w' => e = .returned (.int .i64 0) ∧ Below w.heap.size w w' := by
  go_enter Tryd.func24, Tryd.ntmps24
  go_wp2_with fail
  refine (has_any B r s n _ h hf).mono ?_
  rintro e w1 ⟨rfl, hb⟩
  go_wp2
  go_returns
  exact ⟨rfl, hb⟩

theorem aNew_nil (n a b : Int) (w : World) : Calls Tryd.prog 25 #[.pointer none, .int .i64 n, .agg #[.int .i64 a, .int .i64 b]] w fun e w' => e = .returned (.tuple #[.pointer none, .int .i64 1]) ∧ Below w.heap.size w w' := by
  go_enter Tryd.func25, Tryd.ntmps25
  go_wp2_with fail
  refine (threads_nil _).mono ?_
  rintro e w1 ⟨rfl, rfl⟩
  go_wp2
  go_returns
  exact ⟨rfl, by go_grown⟩

end Go.Proofs.YtmolccpihmbniaaDoor
