/- Taking the last and the first of a slice's things; putting one behind them. -/
import Derived.Test.YtphfcfnbefikiaaA4
import Derived.Deep.RegionLaw
import Derived.Deep.AppendLies
import Derived.Deep.Cut
import Derived.Deep.CutRange
namespace Go.Proofs.Ytphfcfnbefikiaa
open Go.RowKit
set_option linter.unusedVariables false
set_option linter.unusedSimpArgs false

theorem Ch.set1 {h r : Option Nat} {a w : World} (hc : Ch h r a w) {p : Addr} (hp : some p.block = h) (u : Value) : Ch h r a (w.setCell p u) :=
  ⟨hc.os, hc.tape, hc.output, by simpa using hc.size, fun k hk h1 h2 => by rw [Below.heap_setCell _ _ _ _ (fun e => h1 (by rw [e, hp]))]; exact hc.block k hk h1 h2⟩
theorem Ch.drew {h r : Option Nat} {a w : World} (hc : Ch h r a w) : Ch h r a w.drew := ⟨hc.os, hc.tape, hc.output, hc.size, hc.block⟩
theorem Ch.drewN {h r : Option Nat} {a w : World} (hc : Ch h r a w) (n : Nat) : Ch h r a (w.drewN n) := ⟨hc.os, hc.tape, hc.output, hc.size, hc.block⟩
theorem Ch.grown {h r : Option Nat} {a w w' : World} (hc : Ch h r a w) (hb : Below w.heap.size w w') : Ch h r a w' :=
  ⟨hb.os.trans hc.os, hb.tape.trans hc.tape, hb.output.trans hc.output, Nat.le_trans hc.size hb.size, fun k hk h1 h2 => by rw [hb.block k (Nat.lt_of_lt_of_le hk hc.size)]; exact hc.block k hk h1 h2⟩

section
variable {w : World} {e : TypeId} {k n : Nat} {v : Value} {xs : List Value}
theorem Sl.take {ad : Option Addr} {cap : Nat} (h : Sl w e k (.slice ad n cap) n xs) (m : Nat) (hm : m ≤ n) (h0 : ad ≠ none) : Sl w e k (.slice ad m cap) m (xs.take (m * k)) := by
  have hmul : m * k ≤ n * k := Nat.mul_le_mul_right _ hm
  refine ⟨by rw [List.length_take, h.1]; omega, fun u hu => h.2.1 u (List.mem_of_mem_take hu), ?_⟩
  rcases h.2.2 with ⟨hv, rfl⟩ | ⟨b, off, cap', cur, hv, hh, h1, h2, h3, h4⟩
  · simp only [Value.slice.injEq] at hv; exact absurd hv.1 h0
  · simp only [Value.slice.injEq] at hv
    obtain ⟨rfl, -, rfl⟩ := hv
    exact .inr ⟨b, off, cap, cur, rfl, hh, by omega, h2, h3, fun j hj => by rw [h4 j (by omega), List.getElem?_take, if_pos hj]⟩
theorem Sl.tail {b off cap : Nat} (h : Sl w e k (.slice (some ⟨b, off, none⟩) n cap) n xs) (hn : 1 ≤ n) (hc : cap ≠ 1) : Sl w e k (.slice (some ⟨b, off + k, none⟩) (n - 1) (cap - 1)) (n - 1) (xs.drop k) := by
  obtain ⟨m, rfl⟩ : ∃ m, n = m + 1 := ⟨n - 1, by omega⟩
  have hmul : (m + 1) * k = m * k + k := by rw [Nat.add_mul, Nat.one_mul]
  refine ⟨by rw [List.length_drop, h.1, hmul]; simp, fun u hu => h.2.1 u (List.mem_of_mem_drop hu), ?_⟩
  rcases h.2.2 with ⟨hv, _⟩ | ⟨b', off', cap', cur, hv, hh, h1, h2, h3, h4⟩
  · cases hv
  · simp only [Value.slice.injEq, Option.some.injEq, Addr.mk.injEq, and_true] at hv
    obtain ⟨⟨rfl, rfl⟩, -, rfl⟩ := hv
    obtain ⟨c, rfl⟩ : ∃ c, cap = c + 1 := ⟨cap - 1, by omega⟩
    have hmc : (c + 1) * k = c * k + k := by rw [Nat.add_mul, Nat.one_mul]
    refine .inr ⟨b, off + k, c, cur, rfl, hh, by omega, by omega, by omega, fun j hj => ?_⟩
    simp only [Nat.add_sub_cancel] at hj
    rw [show off + k + j = off + (k + j) by omega, h4 (k + j) (by omega), List.getElem?_drop]
theorem Sl.tail1 {b off : Nat} (h : Sl w e k (.slice (some ⟨b, off, none⟩) n 1) n xs) (hn : 1 ≤ n) : Sl w e k (.slice (some ⟨b, off, none⟩) (n - 1) 0) (n - 1) (xs.drop k) := by
  obtain rfl : n = 1 := by
    obtain ⟨ad, cap, hv, hc⟩ := h.form
    simp only [Value.slice.injEq] at hv
    omega
  refine ⟨by rw [List.length_drop, h.1]; simp, fun u hu => h.2.1 u (List.mem_of_mem_drop hu), ?_⟩
  rcases h.2.2 with ⟨hv, _⟩ | ⟨b', off', cap', cur, hv, hh, h1, h2, h3, h4⟩
  · cases hv
  · simp only [Value.slice.injEq, Option.some.injEq, Addr.mk.injEq, and_true] at hv
    obtain ⟨⟨rfl, rfl⟩, -, rfl⟩ := hv
    exact .inr ⟨b, off, 0, cur, rfl, hh, by omega, by unfold maxLen; omega, by omega, fun j hj => by omega⟩
end

/-- What an operation on an object comes to. -/
def Did (w : World) (X H : Nat) (v : Value) (c : Int) (L : List Th) (w' : World) : Prop :=
  ∃ v', Ob w' X H v' c L ∧ Ch (some H) v.ownBlock w w' ∧ Mv w v v'

section
variable {w w1 w3 : World} {X H B : Nat} {v v' : Value} {c : Int} {L L' : List Th}
theorem did_set (h : Ob w X H v c L) (hb : Ch none v.ownBlock w w1) (hs : Sl w1 51 2 v' L'.length (cells2 L')) (hm : Mv w v v') (hB : w.heap.size ≤ B) (hvB : v'.ownBlock ≠ some B)
    (h3 : Ch (some B) none (w1.setCell ⟨H, 0, none⟩ v') w3) : Did w X H v c L' w3 := by
  have hX := h.ltX
  have hH := h.ltH
  have hne := h.ne
  have x1 : (w1.setCell ⟨H, 0, none⟩ v').heap[X]? = w1.heap[X]? := Below.heap_setCell _ _ _ _ hne
  have hX1 : w1.heap[X]? = w.heap[X]? := hb.block X hX (by simp) (Ne.symm h.nx)
  have hH1 : w1.heap[H]? = w.heap[H]? := hb.block H hH (by simp) (Ne.symm h.nh)
  have e0 : w1.cell? ⟨H, 0, none⟩ = some v := (World.cell?_of_block (w := w) (a := ⟨H, 0, none⟩) hH1).trans h.hv
  have f0 : w1.frozen? ⟨H, 0, none⟩ = false := (World.frozen?_of_block (w := w) (a := ⟨H, 0, none⟩) hH1).trans h.fz
  have hsz := hb.size
  have nx : v'.ownBlock ≠ some X := fun e => by
    rcases hm X e with e' | e'
    · exact h.nx e'
    · omega
  have nh : v'.ownBlock ≠ some H := fun e => by
    rcases hm H e with e' | e'
    · exact h.nh e'
    · omega
  have ho : Ob (w1.setCell ⟨H, 0, none⟩ v') X H v' c L' := by
    refine ⟨(World.cell?_of_block (w := w) (a := ⟨X, 0, none⟩) (x1.trans hX1)).trans h.c0, (World.cell?_of_block (w := w) (a := ⟨X, 1, none⟩) (x1.trans hX1)).trans h.c1, ?_, by rw [World.frozen?_setCell]; exact f0, hs.kept fun b hb' => Below.heap_setCell _ _ _ _ (fun e => nh (by rw [hb', e])), hne, nx, nh⟩
    apply World.cell?_setCell_same; exact e0
  refine ⟨v', ho.ch h3 (by simp only [ne_eq, Option.some.injEq]; omega) (by simp) (by simp only [ne_eq, Option.some.injEq]; omega) (by simp) (fun b hb' e => hvB (by rw [hb', ← e])) (fun b _ => by simp), ?_, hm⟩
  refine ⟨h3.os.trans hb.os, h3.tape.trans hb.tape, h3.output.trans hb.output, Nat.le_trans (by simpa using hb.size) h3.size, fun k hk h1 h2 => ?_⟩
  rw [h3.block k (by simp only [World.size_setCell]; omega) (by simp only [ne_eq, Option.some.injEq]; omega) (by simp), Below.heap_setCell _ _ _ _ (fun e => h1 (by rw [e]))]
  exact hb.block k hk (by simp) h2
/-- .. and of one that leaves it as it is -/
theorem did_not (h : Ob w X H v c L) (hb : Below w.heap.size w w3) : Did w X H v c L w3 := ⟨v, h.below hb, Ch.of_below hb, fun k hk => .inl hk⟩
end

set_option maxHeartbeats 4000000 in
theorem pop_any {X H : Nat} {v : Value} {c : Int} {L : List Th} (k x : Int) (w : World) (h : Ob w X H v c L) (hn : L.length ≤ 1000) :
    Calls Try.prog 42 #[P X, u64 k, u64 x] w fun e w' => e = .returned (ansV (popI L).1) ∧ Did w X H v c (popI L).2 w' := by
  have HO := Lib.hid h
  have hX := h.ltX
  have hH := h.ltH
  cases hlast : L.getLast? with
  | none =>
    have h0 : L = [] := by simpa using hlast
    subst h0
    go_enter Try.func42, Try.ntmps42
    go_wp2_with fail
    have hb : Below w.heap.size w (w.alloc (.cells #[.int .i64 0, .bool false, .int .u64 0] 40)) := by go_grown
    refine (len_at (HO.out.below hb)).mono ?_
    rintro e w1 ⟨rfl, rfl⟩
    go_wp2
    go_returns
    exact ⟨rfl, did_not HO.out (by go_grown)⟩
  | some t =>
    obtain ⟨m, hm⟩ : ∃ m, L.length = m + 1 := ⟨L.length - 1, by
      cases L with
      | nil => cases hlast
      | cons a L => simp⟩
    have htm : L[m]? = some t := by rw [← hlast, List.getLast?_eq_getElem?, hm]; rfl
    obtain ⟨b, off, cap, rfl, hbl, hle, hmx, hfz, hc, hsp, _⟩ := h.sl.at (by omega)
    have hpop : popI L = (yesA t.2, L.dropLast) := by unfold popI; rw [hlast]
    rw [hpop]
    have c1 := h.c1
    have hv := h.hv
    have hz := h.fz
    have hc1 : w.cell? ⟨b, off + m * 2 + 1, none⟩ = some (u64 t.2) := (hc (m * 2 + 1) (by omega)).trans (cells2_1 htm)
    have hbX : b ≠ X := fun e => h.nx (by simp [Value.ownBlock, e])
    have hbH : b ≠ H := fun e => h.nh (by simp [Value.ownBlock, e])
    have hXH := h.ne
    rw [hm] at hv hn hle
    have hle' : m ≤ cap := by omega
    have HM := Lib.hid hm
    clear hc hsp h hm htm hlast hpop
    go_enter Try.func42, Try.ntmps42
    go_wp2_with fail
    have hb : Below w.heap.size w (w.alloc (.cells #[.int .i64 0, .bool false, .int .u64 0] 40)) := by go_grown
    have HB := Lib.hid hb
    refine (len_at (HO.out.below hb)).mono ?_
    rintro e w1 ⟨rfl, rfl⟩
    clear hb
    simp only [HM.out]
    go_wp2_with fail
    go_region_law (fail)
    all_goals
      go_wp2
      go_returns
      refine ⟨rfl, did_set (B := w.heap.size) HO.out (Ch.refl _ _ _) (v' := .slice (some ⟨b, off, none⟩) m cap) ?_ (fun k hk => .inl hk) (Nat.le_refl _) (by simp only [Value.ownBlock, ne_eq, Option.some.injEq]; omega) (Ch.of_below (by go_grown))⟩
      have := HO.out.sl.take m (by rw [HM.out]; omega) (by simp)
      rw [List.length_dropLast, HM.out, List.dropLast_eq_take, HM.out, cells2_take]
      exact this

set_option maxHeartbeats 4000000 in
theorem deq_any {X H : Nat} {v : Value} {c : Int} {L : List Th} (k x : Int) (w : World) (h : Ob w X H v c L) (hn : L.length ≤ 1000) :
    Calls Try.prog 43 #[P X, u64 k, u64 x] w fun e w' => e = .returned (ansV (deqI L).1) ∧ Did w X H v c (deqI L).2 w' := by
  have HO := Lib.hid h
  have hX := h.ltX
  have hH := h.ltH
  cases L with
  | nil =>
    go_enter Try.func43, Try.ntmps43
    go_wp2_with fail
    have hb : Below w.heap.size w (w.alloc (.cells #[.int .i64 0, .bool false, .int .u64 0] 40)) := by go_grown
    refine (len_at (HO.out.below hb)).mono ?_
    rintro e w1 ⟨rfl, rfl⟩
    go_wp2
    go_returns
    exact ⟨rfl, did_not HO.out (by go_grown)⟩
  | cons t L =>
    obtain ⟨b, off, cap, rfl, hbl, hle, hmx, hfz, hc, hsp, _⟩ := h.sl.at (by simp)
    have c1 := h.c1
    have hv := h.hv
    have hz := h.fz
    have hc1 : w.cell? ⟨b, off + 1, none⟩ = some (u64 t.2) := (hc 1 (by simp; omega)).trans (cells2_1 (i := 0) rfl)
    have hbX : b ≠ X := fun e => h.nx (by simp [Value.ownBlock, e])
    have hbH : b ≠ H := fun e => h.nh (by simp [Value.ownBlock, e])
    have hXH := h.ne
    obtain ⟨m, hm⟩ : ∃ m, L.length = m := ⟨_, rfl⟩
    simp only [List.length_cons] at hv hle hn
    rw [hm] at hv hle hn
    have hpos : ((m : Int) + 1 == 0) = false := by simp; omega
    have HM := Lib.hid hm
    clear hc hsp h hm
    by_cases h1 : cap = 1
    · subst h1
      obtain rfl : m = 0 := by omega
      clear hpos hn hle
      go_enter Try.func43, Try.ntmps43
      go_wp2_with fail
      have hb : Below w.heap.size w (w.alloc (.cells #[.int .i64 0, .bool false, .int .u64 0] 40)) := by go_grown
      refine (len_at (HO.out.below hb)).mono ?_
      rintro e w1 ⟨rfl, rfl⟩
      clear hb
      simp only [List.length_cons, HM.out]
      go_wp2_with fail
      go_region_law (fail)
      all_goals
        go_wp2
        go_returns
        refine ⟨rfl, did_set (B := w.heap.size) HO.out (Ch.refl _ _ _) (v' := .slice (some ⟨b, off, none⟩) 0 0) ?_ (fun k hk => .inl hk) (Nat.le_refl _) (by simp only [Value.ownBlock, ne_eq, Option.some.injEq]; omega) (Ch.of_below (by go_grown))⟩
        have := HO.out.sl.tail1 (by simp)
        simp only [List.length_cons, HM.out, Nat.add_sub_cancel] at this
        simpa [deqI, HM.out, cells2] using this
    · have hc2 : ¬ ((cap : Int) = 1) := by omega
      have hA : (1 : Int) ≤ (m : Int) + 1 := by omega
      go_enter Try.func43, Try.ntmps43
      go_wp2_with fail
      have hb : Below w.heap.size w (w.alloc (.cells #[.int .i64 0, .bool false, .int .u64 0] 40)) := by go_grown
      refine (len_at (HO.out.below hb)).mono ?_
      rintro e w1 ⟨rfl, rfl⟩
      clear hb
      simp only [List.length_cons, HM.out]
      go_wp2_with fail
      go_region_law (fail)
      all_goals
        go_wp2
        go_returns
        refine ⟨rfl, did_set (B := w.heap.size) HO.out (Ch.refl _ _ _) (v' := .slice (some ⟨b, off + 2, none⟩) m (cap - 1)) ?_ (fun k hk => .inl hk) (Nat.le_refl _) (by simp only [Value.ownBlock, ne_eq, Option.some.injEq]; omega) (Ch.of_below (by go_grown))⟩
        have := HO.out.sl.tail (by simp) h1
        simp only [List.length_cons, HM.out, Nat.add_sub_cancel] at this
        simpa [deqI, HM.out, cells2] using this
end Go.Proofs.Ytphfcfnbefikiaa
