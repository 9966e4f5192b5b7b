/- The contracts of an arena's methods that only look: Class, At, Link, Birth, Of, Len, Cap, Leads. -/
import Derived.Test.YtmolccpihmbniaaDoorA2
namespace Go.Proofs.YtmolccpihmbniaaDoor
open Go.RowKit
set_option linter.unusedVariables false

set_option maxHeartbeats 1000000 in
theorem has_any (B : Nat) (r : Ar) (s : Sm r) (n : Int) (w : World) (h : At B r w) {c d : Int} {t : Bool} (hf : fnd n r.i0 r.i1 r.i2 = (c, d, t)) :
    Calls Tryd.prog 37 #[ptr B, .int .i64 n] w fun e w' => e = .returned (.bool t) ∧ Below w.heap.size w w' := by
  go_enter Tryd.func37, Tryd.ntmps37
  go_wp2_with fail
  refine (find_any B r s n _ h hf).mono ?_
  rintro e w' ⟨rfl, hb⟩
  go_wp2
  go_returns
  exact ⟨rfl, hb⟩

theorem has_nil (n : Int) (w : World) :
    Calls Tryd.prog 37 #[.pointer none, .int .i64 n] w fun e w' => e = .returned (.bool false) ∧ Below w.heap.size w w' := by
  go_enter Tryd.func37, Tryd.ntmps37
  go_wp2_with fail
  refine (find_nil n _).mono ?_
  rintro e w' ⟨rfl, hb⟩
  go_wp2
  go_returns
  exact ⟨rfl, hb⟩

def clsOf (c : Int) (t : Bool) : Int := if t then c else -1

set_option maxHeartbeats 1000000 in
theorem class_any (B : Nat) (r : Ar) (s : Sm r) (n : Int) (w : World) (h : At B r w) {c d : Int} {t : Bool} (hf : fnd n r.i0 r.i1 r.i2 = (c, d, t)) :
    Calls Tryd.prog 19 #[ptr B, .int .i64 n] w fun e w' => e = .returned (.int .i64 (clsOf c t)) ∧ Below w.heap.size w w' := by
  cases t
  all_goals
    go_enter Tryd.func19, Tryd.ntmps19
    go_wp2_with fail
    refine (find_any B r s n _ h hf).mono ?_
    rintro e w' ⟨rfl, hb⟩
    go_wp2
    go_returns
    exact ⟨rfl, hb⟩

theorem class_nil (n : Int) (w : World) :
    Calls Tryd.prog 19 #[.pointer none, .int .i64 n] w fun e w' => e = .returned (.int .i64 (-1)) ∧ Below w.heap.size w w' := by
  go_enter Tryd.func19, Tryd.ntmps19
  go_wp2_with fail
  refine (find_nil n _).mono ?_
  rintro e w' ⟨rfl, hb⟩
  go_wp2
  go_returns
  exact ⟨rfl, hb⟩

theorem place_nil (n f k : Int) (w : World) :
    Calls Tryd.prog 31 #[.pointer none, .int .i64 n, .int .i64 f, .int .i64 k] w fun e w' => e = .returned (.int .i64 (-1)) ∧ Below w.heap.size w w' := by
  go_enter Tryd.func31, Tryd.ntmps31
  go_wp2_with fail
  refine (find_nil n _).mono ?_
  rintro e w' ⟨rfl, hb⟩
  go_wp2
  go_returns
  exact ⟨rfl, hb⟩

set_option maxHeartbeats 1000000 in
theorem place_no (B : Nat) (r : Ar) (s : Sm r) (n f k : Int) (w : World) (h : At B r w) {c d : Int} (hf : fnd n r.i0 r.i1 r.i2 = (c, d, false)) :
    Calls Tryd.prog 31 #[ptr B, .int .i64 n, .int .i64 f, .int .i64 k] w fun e w' => e = .returned (.int .i64 (-1)) ∧ Below w.heap.size w w' := by
  go_enter Tryd.func31, Tryd.ntmps31
  go_wp2_with fail
  refine (find_any B r s n _ h hf).mono ?_
  rintro e w' ⟨rfl, hb⟩
  go_wp2
  go_returns
  exact ⟨rfl, hb⟩

set_option maxHeartbeats 1000000 in
theorem place_0 (B : Nat) (r : Ar) (s : Sm r) (n f k : Int) (hf0 : 0 ≤ f ∧ f ≤ 2) (hk : 0 ≤ k ∧ k < 6 - f) (w : World) (hz : Sz w) (h : At B r w) {d : Int} (hd : 0 ≤ d ∧ d ≤ 10000000) (hf : fnd n r.i0 r.i1 r.i2 = (0, d, true)) :
    Calls Tryd.prog 31 #[ptr B, .int .i64 n, .int .i64 f, .int .i64 k] w fun e w' => e = .returned (.int .i64 (r.a0 + d * 6 + f + k)) ∧ Below w.heap.size w w' := by
  have hi : inB k 0 (6 - f - 1) = true := inB_true (by omega) (by omega)
  have HI := Lib.hid hi
  have HK := Lib.hid hk
  have ha := s.a0
  clear hi hk
  go_enter Tryd.func31, Tryd.ntmps31
  go_wp2_with fail
  refine (find_any B r s n _ h hf).mono ?_
  rintro e w1 ⟨rfl, hb⟩
  obtain ⟨z0, z1⟩ := hz.below hb
  obtain ⟨c0, c1, c2, c3, c4, c5, c6⟩ := h.below hb
  have HB := Lib.hid hb
  clear hb hf
  unfold ptr
  go_wp2_with fail
  refine (within_any _ _ _ _).mono ?_
  rintro e w' ⟨rfl, rfl⟩
  rw [HI.out]
  have hk := HK.out
  go_wp2
  go_quiet (fail)
  go_wp2
  go_returns
  exact ⟨rfl, below_drewN HB.out _⟩

set_option maxHeartbeats 1000000 in
theorem place_0n (B : Nat) (r : Ar) (s : Sm r) (n f k : Int) (hf0 : 0 ≤ f ∧ f ≤ 2) (hk : ¬ (0 ≤ k ∧ k < 6 - f)) (w : World) (hz : Sz w) (h : At B r w) {d : Int} (hd : 0 ≤ d ∧ d ≤ 10000000) (hf : fnd n r.i0 r.i1 r.i2 = (0, d, true)) :
    Calls Tryd.prog 31 #[ptr B, .int .i64 n, .int .i64 f, .int .i64 k] w fun e w' => e = .returned (.int .i64 (-1)) ∧ Below w.heap.size w w' := by
  have hi : inB k 0 (6 - f - 1) = false := inB_not.2 (by omega)
  have HI := Lib.hid hi
  have HK := Lib.hid hk
  have ha := s.a0
  clear hi hk
  go_enter Tryd.func31, Tryd.ntmps31
  go_wp2_with fail
  refine (find_any B r s n _ h hf).mono ?_
  rintro e w1 ⟨rfl, hb⟩
  obtain ⟨z0, z1⟩ := hz.below hb
  obtain ⟨c0, c1, c2, c3, c4, c5, c6⟩ := h.below hb
  have HB := Lib.hid hb
  clear hb hf
  unfold ptr
  go_wp2_with fail
  refine (within_any _ _ _ _).mono ?_
  rintro e w' ⟨rfl, rfl⟩
  rw [HI.out]
  go_wp2
  go_returns
  exact ⟨rfl, HB.out⟩

set_option maxHeartbeats 1000000 in
theorem place_1 (B : Nat) (r : Ar) (s : Sm r) (n f k : Int) (hf0 : 0 ≤ f ∧ f ≤ 2) (hk : 0 ≤ k ∧ k < 10 - f) (w : World) (hz : Sz w) (h : At B r w) {d : Int} (hd : 0 ≤ d ∧ d ≤ 10000000) (hf : fnd n r.i0 r.i1 r.i2 = (1, d, true)) :
    Calls Tryd.prog 31 #[ptr B, .int .i64 n, .int .i64 f, .int .i64 k] w fun e w' => e = .returned (.int .i64 (r.a1 + d * 10 + f + k)) ∧ Below w.heap.size w w' := by
  have hi : inB k 0 (10 - f - 1) = true := inB_true (by omega) (by omega)
  have HI := Lib.hid hi
  have HK := Lib.hid hk
  have ha := s.a1
  clear hi hk
  go_enter Tryd.func31, Tryd.ntmps31
  go_wp2_with fail
  refine (find_any B r s n _ h hf).mono ?_
  rintro e w1 ⟨rfl, hb⟩
  obtain ⟨z0, z1⟩ := hz.below hb
  obtain ⟨c0, c1, c2, c3, c4, c5, c6⟩ := h.below hb
  have HB := Lib.hid hb
  clear hb hf
  unfold ptr
  go_wp2_with fail
  refine (within_any _ _ _ _).mono ?_
  rintro e w' ⟨rfl, rfl⟩
  rw [HI.out]
  have hk := HK.out
  go_wp2
  go_quiet (fail)
  go_wp2
  go_returns
  exact ⟨rfl, below_drewN HB.out _⟩

set_option maxHeartbeats 1000000 in
theorem place_1n (B : Nat) (r : Ar) (s : Sm r) (n f k : Int) (hf0 : 0 ≤ f ∧ f ≤ 2) (hk : ¬ (0 ≤ k ∧ k < 10 - f)) (w : World) (hz : Sz w) (h : At B r w) {d : Int} (hd : 0 ≤ d ∧ d ≤ 10000000) (hf : fnd n r.i0 r.i1 r.i2 = (1, d, true)) :
    Calls Tryd.prog 31 #[ptr B, .int .i64 n, .int .i64 f, .int .i64 k] w fun e w' => e = .returned (.int .i64 (-1)) ∧ Below w.heap.size w w' := by
  have hi : inB k 0 (10 - f - 1) = false := inB_not.2 (by omega)
  have HI := Lib.hid hi
  have HK := Lib.hid hk
  have ha := s.a1
  clear hi hk
  go_enter Tryd.func31, Tryd.ntmps31
  go_wp2_with fail
  refine (find_any B r s n _ h hf).mono ?_
  rintro e w1 ⟨rfl, hb⟩
  obtain ⟨z0, z1⟩ := hz.below hb
  obtain ⟨c0, c1, c2, c3, c4, c5, c6⟩ := h.below hb
  have HB := Lib.hid hb
  clear hb hf
  unfold ptr
  go_wp2_with fail
  refine (within_any _ _ _ _).mono ?_
  rintro e w' ⟨rfl, rfl⟩
  rw [HI.out]
  go_wp2
  go_returns
  exact ⟨rfl, HB.out⟩

def nameI (x : Int) : Int := if x = 0 then -1 else if x = 1 then -2 else x - 2
theorem nameOf_any (x : Int) (h : 0 ≤ x ∧ x ≤ 10) (w : World) :
    Calls Tryd.prog 35 #[.int .i64 x] w fun e w' => e = .returned (.int .i64 (nameI x)) ∧ w = w' := by
  unfold nameI
  by_cases h0 : x = 0
  · subst h0
    go_enter Tryd.func35, Tryd.ntmps35
    go_wp2
    go_returns
    exact ⟨rfl, rfl⟩
  · by_cases h1 : x = 1
    · subst h1
      go_enter Tryd.func35, Tryd.ntmps35
      go_wp2
      go_returns
      exact ⟨rfl, rfl⟩
    · simp only [h0, h1, if_false]
      have e0 : (x == 0) = false := by simpa using h0
      have e1 : (x == 1) = false := by simpa using h1
      clear h0 h1
      go_enter Tryd.func35, Tryd.ntmps35
      go_wp2
      go_returns
      exact ⟨rfl, rfl⟩
theorem nameOf_q (x : Int) (h : 0 ≤ x ∧ x ≤ 10) (w : World) (k : Nat) :
    Calls Tryd.prog 35 #[.int .i64 x] (w.drewN k) fun e w' => e = .returned (.int .i64 (nameI x)) ∧ ∃ j, w' = w.drewN j :=
  (nameOf_any x h _).mono fun e w' ⟨h1, h2⟩ => ⟨h1, k, h2.symm⟩

theorem of_nil (n : Int) (w : World) :
    Calls Tryd.prog 21 #[.pointer none, .int .i64 n] w fun e w' => e = .returned (.tuple #[.int .i64 0, .int .i64 0, .bool false]) ∧ Below w.heap.size w w' := by
  go_enter Tryd.func21, Tryd.ntmps21
  go_wp2
  go_returns
  exact ⟨rfl, Below.refl _ _⟩

set_option maxHeartbeats 1000000 in
theorem of_no (B : Nat) (r : Ar) (s : Sm r) (n : Int) (w : World) (h : At B r w) {c d : Int} (hf : fnd n r.a0 r.a1 r.a2 = (c, d, false)) :
    Calls Tryd.prog 21 #[ptr B, .int .i64 n] w fun e w' => e = .returned (.tuple #[.int .i64 0, .int .i64 0, .bool false]) ∧ Below w.heap.size w w' := by
  obtain ⟨c0, c1, c2, c3, c4, c5, c6⟩ := h
  have HF := Lib.hid hf
  clear hf
  unfold ptr
  go_enter Tryd.func21, Tryd.ntmps21
  go_wp2_with fail
  refine (finder_any _ _ _ _).mono ?_
  rintro e w' ⟨rfl, rfl⟩
  unfold clo
  go_wp2_with fail
  refine (finder1_any n r.a0 r.a1 r.a2 s.a0 s.a1 s.a2 _ _ (by simp [go_sem]) (by simp [go_sem]) (by simp [go_sem])).mono ?_
  rintro e w' ⟨rfl, hb⟩
  rw [HF.out]
  unfold fndE
  go_wp2
  go_returns
  exact ⟨rfl, ((Below.refl _ _).alloc (Nat.le_refl _) _).trans (hb.mono (by simp))⟩

set_option maxHeartbeats 1000000 in
theorem of_0 (B : Nat) (r : Ar) (s : Sm r) (n : Int) (w : World) (hz : Sz w) (h : At B r w) {d : Int} (hd : 0 ≤ d ∧ d ≤ 10000000) (hf : fnd n r.a0 r.a1 r.a2 = (0, d, true)) :
    Calls Tryd.prog 21 #[ptr B, .int .i64 n] w fun e w' => e = .returned (.tuple #[.int .i64 (r.i0 + d / 6), .int .i64 (nameI (d % 6)), .bool true]) ∧ Below w.heap.size w w' := by
  have hbl : ∀ o, Below w.heap.size w (w.alloc o) := fun o => (Below.refl _ _).alloc (Nat.le_refl _) _
  have HZ := Lib.hid hz
  have HH := Lib.hid h
  obtain ⟨c0, c1, c2, c3, c4, c5, c6⟩ := h
  have HF := Lib.hid hf
  have hi := s.i0
  clear hf hz
  unfold ptr
  go_enter Tryd.func21, Tryd.ntmps21
  go_wp2_with fail
  refine (finder_any _ _ _ _).mono ?_
  rintro e w' ⟨rfl, rfl⟩
  unfold clo
  go_wp2_with fail
  refine (finder1_any n r.a0 r.a1 r.a2 s.a0 s.a1 s.a2 _ _ (by simp [go_sem]) (by simp [go_sem]) (by simp [go_sem])).mono ?_
  rintro e w1 ⟨rfl, hb⟩
  rw [HF.out]
  unfold fndE
  have hb1 := (hbl _).trans (hb.mono (by simp))
  obtain ⟨z0, z1⟩ := HZ.out.below hb1
  obtain ⟨c0, c1, c2, c3, c4, c5, c6⟩ := HH.out.below hb1
  have HB := Lib.hid hb1
  clear hb hb1
  go_wp2
  go_quiet ((go_at_call 35; exact nameOf_q _ (by omega) _ _))
  go_wp2
  go_returns
  exact ⟨rfl, below_drewN HB.out _⟩

set_option maxHeartbeats 1000000 in
theorem of_1 (B : Nat) (r : Ar) (s : Sm r) (n : Int) (w : World) (hz : Sz w) (h : At B r w) {d : Int} (hd : 0 ≤ d ∧ d ≤ 10000000) (hf : fnd n r.a0 r.a1 r.a2 = (1, d, true)) :
    Calls Tryd.prog 21 #[ptr B, .int .i64 n] w fun e w' => e = .returned (.tuple #[.int .i64 (r.i1 + d / 10), .int .i64 (nameI (d % 10)), .bool true]) ∧ Below w.heap.size w w' := by
  have hbl : ∀ o, Below w.heap.size w (w.alloc o) := fun o => (Below.refl _ _).alloc (Nat.le_refl _) _
  have HZ := Lib.hid hz
  have HH := Lib.hid h
  obtain ⟨c0, c1, c2, c3, c4, c5, c6⟩ := h
  have HF := Lib.hid hf
  have hi := s.i1
  clear hf hz
  unfold ptr
  go_enter Tryd.func21, Tryd.ntmps21
  go_wp2_with fail
  refine (finder_any _ _ _ _).mono ?_
  rintro e w' ⟨rfl, rfl⟩
  unfold clo
  go_wp2_with fail
  refine (finder1_any n r.a0 r.a1 r.a2 s.a0 s.a1 s.a2 _ _ (by simp [go_sem]) (by simp [go_sem]) (by simp [go_sem])).mono ?_
  rintro e w1 ⟨rfl, hb⟩
  rw [HF.out]
  unfold fndE
  have hb1 := (hbl _).trans (hb.mono (by simp))
  obtain ⟨z0, z1⟩ := HZ.out.below hb1
  obtain ⟨c0, c1, c2, c3, c4, c5, c6⟩ := HH.out.below hb1
  have HB := Lib.hid hb1
  clear hb hb1
  go_wp2
  go_quiet ((go_at_call 35; exact nameOf_q _ (by omega) _ _))
  go_wp2
  go_returns
  exact ⟨rfl, below_drewN HB.out _⟩

theorem fnd_cases (n a b c : Int) : (a ≤ n ∧ n < b ∧ fnd n a b c = (0, n - a, true)) ∨ (b ≤ n ∧ n < c ∧ ¬ (a ≤ n ∧ n < b) ∧ fnd n a b c = (1, n - b, true)) ∨ (¬ (a ≤ n ∧ n < b) ∧ ¬ (b ≤ n ∧ n < c) ∧ fnd n a b c = (0, 0, false)) := by
  unfold fnd
  by_cases h : a ≤ n ∧ n < b
  · exact .inl ⟨h.1, h.2, by simp [h]⟩
  · by_cases g : b ≤ n ∧ n < c
    · exact .inr (.inl ⟨g.1, g.2, h, by rw [if_neg h, if_pos g]⟩)
    · exact .inr (.inr ⟨h, g, by rw [if_neg h, if_neg g]⟩)

/-- Where a word is. -/
def plc (r : Ar) (n f k : Int) : Int :=
  if r.i0 ≤ n ∧ n < r.i1 then (if 0 ≤ k ∧ k < 6 - f then r.a0 + (n - r.i0) * 6 + f + k else -1)
  else if r.i1 ≤ n ∧ n < r.i2 then (if 0 ≤ k ∧ k < 10 - f then r.a1 + (n - r.i1) * 10 + f + k else -1)
  else -1

theorem place_any (B : Nat) (r : Ar) (s : Sm r) (n f k : Int) (hf : 0 ≤ f ∧ f ≤ 2) (w : World) (hz : Sz w) (h : At B r w) :
    Calls Tryd.prog 31 #[ptr B, .int .i64 n, .int .i64 f, .int .i64 k] w fun e w' => e = .returned (.int .i64 (plc r n f k)) ∧ Below w.heap.size w w' := by
  have hs0 := s.i0; have hs1 := s.i1; have hs2 := s.i2
  unfold plc
  rcases fnd_cases n r.i0 r.i1 r.i2 with ⟨h0, h1, hc⟩ | ⟨h0, h1, h2, hc⟩ | ⟨h1, h2, hc⟩
  · rw [if_pos ⟨h0, h1⟩]
    by_cases hk : 0 ≤ k ∧ k < 6 - f
    · rw [if_pos hk]; exact place_0 B r s n f k hf hk w hz h (by omega) hc
    · rw [if_neg hk]; exact place_0n B r s n f k hf hk w hz h (by omega) hc
  · rw [if_neg h2, if_pos ⟨h0, h1⟩]
    by_cases hk : 0 ≤ k ∧ k < 10 - f
    · rw [if_pos hk]; exact place_1 B r s n f k hf hk w hz h (by omega) hc
    · rw [if_neg hk]; exact place_1n B r s n f k hf hk w hz h (by omega) hc
  · rw [if_neg h1, if_neg h2]
    exact place_no B r s n f k w h hc

/-- Of which slot a place is. -/
def ofI (r : Ar) (n : Int) : Int := if r.a0 ≤ n ∧ n < r.a1 then r.i0 + (n - r.a0) / 6 else if r.a1 ≤ n ∧ n < r.a2 then r.i1 + (n - r.a1) / 10 else 0
def ofK (r : Ar) (n : Int) : Int := if r.a0 ≤ n ∧ n < r.a1 then nameI ((n - r.a0) % 6) else if r.a1 ≤ n ∧ n < r.a2 then nameI ((n - r.a1) % 10) else 0
def ofB (r : Ar) (n : Int) : Bool := if r.a0 ≤ n ∧ n < r.a1 then true else if r.a1 ≤ n ∧ n < r.a2 then true else false

theorem of_any (B : Nat) (r : Ar) (s : Sm r) (n : Int) (w : World) (hz : Sz w) (h : At B r w) :
    Calls Tryd.prog 21 #[ptr B, .int .i64 n] w fun e w' => e = .returned (.tuple #[.int .i64 (ofI r n), .int .i64 (ofK r n), .bool (ofB r n)]) ∧ Below w.heap.size w w' := by
  have hs0 := s.a0; have hs1 := s.a1; have hs2 := s.a2
  unfold ofI ofK ofB
  rcases fnd_cases n r.a0 r.a1 r.a2 with ⟨h0, h1, hc⟩ | ⟨h0, h1, h2, hc⟩ | ⟨h1, h2, hc⟩
  · simp only [if_pos (show r.a0 ≤ n ∧ n < r.a1 from ⟨h0, h1⟩)]
    exact of_0 B r s n w hz h (by omega) hc
  · simp only [if_neg h2, if_pos (show r.a1 ≤ n ∧ n < r.a2 from ⟨h0, h1⟩)]
    exact of_1 B r s n w hz h (by omega) hc
  · simp only [if_neg h1, if_neg h2]
    exact of_no B r s n w h hc

theorem at_any (B : Nat) (r : Ar) (s : Sm r) (n k : Int) (w : World) (hz : Sz w) (h : At B r w) :
    Calls Tryd.prog 15 #[ptr B, .int .i64 n, .int .i64 k] w fun e w' => e = .returned (.int .i64 (plc r n 2 k)) ∧ Below w.heap.size w w' := by
  go_enter Tryd.func15, Tryd.ntmps15
  go_wp2_with fail
  refine (place_any B r s n 2 k (by omega) _ hz h).mono ?_
  rintro e w' ⟨rfl, hb⟩
  go_wp2
  go_returns
  exact ⟨rfl, hb⟩
theorem link_any (B : Nat) (r : Ar) (s : Sm r) (n : Int) (w : World) (hz : Sz w) (h : At B r w) :
    Calls Tryd.prog 17 #[ptr B, .int .i64 n] w fun e w' => e = .returned (.int .i64 (plc r n 0 0)) ∧ Below w.heap.size w w' := by
  go_enter Tryd.func17, Tryd.ntmps17
  go_wp2_with fail
  refine (place_any B r s n 0 0 (by omega) _ hz h).mono ?_
  rintro e w' ⟨rfl, hb⟩
  go_wp2
  go_returns
  exact ⟨rfl, hb⟩
theorem birth_any (B : Nat) (r : Ar) (s : Sm r) (n : Int) (w : World) (hz : Sz w) (h : At B r w) :
    Calls Tryd.prog 18 #[ptr B, .int .i64 n] w fun e w' => e = .returned (.int .i64 (plc r n 1 0)) ∧ Below w.heap.size w w' := by
  go_enter Tryd.func18, Tryd.ntmps18
  go_wp2_with fail
  refine (place_any B r s n 1 0 (by omega) _ hz h).mono ?_
  rintro e w' ⟨rfl, hb⟩
  go_wp2
  go_returns
  exact ⟨rfl, hb⟩
theorem at_nil (n k : Int) (w : World) :
    Calls Tryd.prog 15 #[.pointer none, .int .i64 n, .int .i64 k] w fun e w' => e = .returned (.int .i64 (-1)) ∧ Below w.heap.size w w' := by
  go_enter Tryd.func15, Tryd.ntmps15
  go_wp2_with fail
  refine (place_nil n 2 k _).mono ?_
  rintro e w' ⟨rfl, hb⟩
  go_wp2
  go_returns
  exact ⟨rfl, hb⟩
theorem link_nil (n : Int) (w : World) :
    Calls Tryd.prog 17 #[.pointer none, .int .i64 n] w fun e w' => e = .returned (.int .i64 (-1)) ∧ Below w.heap.size w w' := by
  go_enter Tryd.func17, Tryd.ntmps17
  go_wp2_with fail
  refine (place_nil n 0 0 _).mono ?_
  rintro e w' ⟨rfl, hb⟩
  go_wp2
  go_returns
  exact ⟨rfl, hb⟩

end Go.Proofs.YtmolccpihmbniaaDoor
