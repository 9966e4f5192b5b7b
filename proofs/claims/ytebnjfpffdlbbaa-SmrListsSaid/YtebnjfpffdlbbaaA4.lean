/- The contracts of Named, the program's and the document's: whether an index, not 0, is among the guards. -/
import Derived.Test.YtebnjfpffdlbbaaB1
namespace Go.Proofs.Ytebnjfpffdlbbaa
open Go.RowKit
set_option linter.unusedVariables false
set_option linter.unusedSimpArgs false

/-- The guards lie in memory. -/
def GsIn (ad : Option Addr) (gs : List Int) (w : World) : Prop := ∀ i (h : i < gs.length), ∃ b off, ad = some ⟨b, off, none⟩ ∧ w.cell? ⟨b, off + i, none⟩ = some (.int .u64 gs[i])

theorem GsIn.below {ad : Option Addr} {gs : List Int} {w w' : World} (h : GsIn ad gs w) (hb : Below w.heap.size w w') : GsIn ad gs w' := fun i hi => by
  obtain ⟨b, off, e, hc⟩ := h i hi
  exact ⟨b, off, e, keep hb hc⟩

def among (v : Int) (gs : List Int) : Bool := decide (v ∈ gs)

theorem drop_step {gs : List Int} {j : Nat} {v : Int} (hj : j < gs.length) (hne : v ≠ gs[j]) : among v (gs.drop j) = among v (gs.drop (j + 1)) := by
  unfold among
  simp only [List.drop_eq_getElem_cons hj, List.mem_cons, hne, false_or]
theorem drop_here {gs : List Int} {j : Nat} {v : Int} (hj : j < gs.length) (he : v = gs[j]) : among v (gs.drop j) = true := by
  unfold among
  simp only [List.drop_eq_getElem_cons hj, List.mem_cons, he, true_or, decide_true]
theorem drop_end {gs : List Int} {j : Nat} {v : Int} (hj : gs.length ≤ j) : among v (gs.drop j) = false := by
  rw [List.drop_eq_nil_of_le hj]; rfl

set_option maxRecDepth 100000 in
set_option maxHeartbeats 1000000 in
theorem find_any (ad : Option Addr) (n cap : Nat) (gs : List Int) (hn : gs.length = n) (hl : n ≤ 300) (v : Int) (w : World) (hin : GsIn ad gs w) :
    Calls Try.prog 47 #[.slice ad n cap, .int .u64 v] w fun e w' => (∃ z : Int, e = .returned (.int .i64 z) ∧ (decide (0 ≤ z) = among v gs)) ∧ w = w' := by
  have hl3 : (n : Int) ≤ 300 := by omega
  have HIN := Lib.hid hin
  have HN := Lib.hid hn
  clear hin hn
  go_enter Try.func47, Try.ntmps47
  go_wp2_with fail
  go_loopw [8] (fun iv wr => ∃ j : Nat, j ≤ n ∧ iv = .int .i64 (j : Int) ∧ Hid (among v gs = among v (gs.drop j)) ∧ w = wr) (fun iv _ => n - (intOf iv).toNat)
  case atStart => exact ⟨0, Nat.zero_le _, rfl, Lib.hid rfl, rfl⟩
  case round =>
    obtain ⟨j, hj, rfl, HM, rfl⟩ := hrel
    by_cases hjl : j < n
    · have hjg : j < gs.length := by rw [HN.out]; exact hjl
      obtain ⟨b, off, rfl, hc⟩ := HIN.out j hjg
      by_cases hx : v = gs[j]
      · have HX := Lib.hid (drop_here hjg hx)
        rw [← hx] at hc
        clear hx
        go_wp2
        go_ret
        exact ⟨⟨_, rfl, by rw [HM.out, HX.out]; simp⟩, rfl⟩
      · have HX := Lib.hid (drop_step hjg hx)
        generalize gs[j] = x at hc hx
        go_wp2_with fail
        refine ⟨⟨j + 1, by omega, by simp, Lib.hid (HM.out.trans HX.out), trivial⟩, ?_⟩
        simp [intOf]; omega
    · have hje : (j : Int) = (n : Int) := by omega
      have hjd : decide ((j : Int) < (n : Int)) = false := by simp; omega
      go_wp2
      go_ret
      refine ⟨⟨_, rfl, ?_⟩, rfl⟩
      rw [HM.out, drop_end (by rw [HN.out]; omega)]
      rfl

set_option maxHeartbeats 1000000 in
theorem contains_any (ad : Option Addr) (n cap : Nat) (gs : List Int) (hn : gs.length = n) (hl : n ≤ 300) (v : Int) (w : World) (hin : GsIn ad gs w) :
    Calls Try.prog 36 #[.slice ad n cap, .int .u64 v] w fun e w' => e = .returned (.bool (among v gs)) ∧ w = w' := by
  go_enter Try.func36, Try.ntmps36
  go_wp2_with fail
  refine (find_any ad n cap gs hn hl v _ hin).mono ?_
  rintro e w1 ⟨⟨z, rfl, hz⟩, rfl⟩
  go_wp2
  go_ret
  exact ⟨rfl, rfl⟩

/-- Whether guards name a slot. -/
def namedB (h : Int) (gs : List Int) : Bool := !(h % 4194304 == 0) && among (h % 4194304) gs

set_option maxHeartbeats 1000000 in
theorem named_any (h b s : Int) (h0 : 0 ≤ h) (h1 : h < 18446744073709551616) (ad : Option Addr) (n cap : Nat) (gs : List Int) (hn : gs.length = n) (hl : n ≤ 300) (w : World) (hin : GsIn ad gs w) :
    Calls Try.prog 16 #[.agg #[.int .u64 h, .int .u64 b, .int .u64 s], .slice ad n cap] w fun e w' => e = .returned (.bool (namedB h gs)) ∧ Below w.heap.size w w' := by
  have hb : 0 ≤ h % 4194304 ∧ h % 4194304 < 4194304 := by omega
  have HN := Lib.hid hn
  clear hn
  unfold namedB
  generalize hx : h % 4194304 = x at hb ⊢
  have HX := Lib.hid hx
  clear hx
  have HIN := Lib.hid hin
  clear hin
  go_enter Try.func16, Try.ntmps16
  go_wp2_with fail
  refine (index_any _ h0 h1 _).mono ?_
  rintro e w1 ⟨rfl, hb1⟩
  rw [HX.out]
  have HB := Lib.hid (below_then (show Below w.heap.size w _ by go_grown) hb1)
  clear hb1
  by_cases hz : x = 0
  · subst hz
    go_wp2
    go_ret
    exact ⟨rfl, HB.out⟩
  · have hz' : (x == 0) = false := by simp [hz]
    have hz2 : (x != 0) = true := by simp [hz]
    go_wp2_with fail
    refine (contains_any ad n cap gs HN.out hl x _ (HIN.out.below HB.out)).mono ?_
    rintro e w2 ⟨rfl, rfl⟩
    go_wp2
    go_ret
    exact ⟨by simp [hz'], HB.out⟩

set_option maxRecDepth 100000 in
set_option maxHeartbeats 1000000 in
theorem namedr_any (h b s : Int) (h0 : 0 ≤ h) (h1 : h < 18446744073709551616) (ad : Option Addr) (n cap : Nat) (gs : List Int) (hn : gs.length = n) (hl : n ≤ 300) (w : World) (hin : GsIn ad gs w) :
    Calls Try.prog 17 #[.agg #[.int .u64 h, .int .u64 b, .int .u64 s], .slice ad n cap] w fun e w' => e = .returned (.bool (namedB h gs)) ∧ Below w.heap.size w w' := by
  have hb : 0 ≤ h % 4194304 ∧ h % 4194304 < 4194304 := by omega
  have hl3 : (n : Int) ≤ 300 := by omega
  have HIN := Lib.hid hin
  have HN := Lib.hid hn
  clear hin hn
  unfold namedB
  generalize hx : h % 4194304 = x at hb ⊢
  have HX := Lib.hid hx
  clear hx
  go_enter Try.func17, Try.ntmps17
  go_wp2_with fail
  rw [HX.out]
  by_cases hz : x = 0
  · subst hz
    go_loopw [6] (fun iv wr => ∃ j : Nat, j ≤ n ∧ iv = .int .i64 (j : Int) ∧ Hid (Below w.heap.size w wr)) (fun iv _ => n - (intOf iv).toNat)
    case atStart => exact ⟨0, Nat.zero_le _, rfl, Lib.hid (by go_grown)⟩
    case round =>
      obtain ⟨j, hj, rfl, HB⟩ := hrel
      by_cases hjl : j < n
      · have hjd : decide ((j : Int) < (n : Int)) = true := by simp; omega
        go_wp2_with fail
        refine ⟨⟨j + 1, by omega, by simp, HB⟩, ?_⟩
        simp [intOf]; omega
      · have hje : (j : Int) = (n : Int) := by omega
        have hjd : decide ((j : Int) < (n : Int)) = false := by simp; omega
        go_wp2
        go_ret
        exact ⟨rfl, HB.out⟩
  · have hz2 : (x != 0) = true := by simp [hz]
    have HZ := Lib.hid (show (x == 0) = false by simp [hz])
    clear hz
    go_loopw [6] (fun iv wr => ∃ j : Nat, j ≤ n ∧ iv = .int .i64 (j : Int) ∧ Hid (among x gs = among x (gs.drop j)) ∧ Hid (Below w.heap.size w wr)) (fun iv _ => n - (intOf iv).toNat)
    case atStart => exact ⟨0, Nat.zero_le _, rfl, Lib.hid rfl, Lib.hid (by go_grown)⟩
    case round =>
      obtain ⟨j, hj, rfl, HM, HB⟩ := hrel
      by_cases hjl : j < n
      · have hjd : decide ((j : Int) < (n : Int)) = true := by simp; omega
        have hjg : j < gs.length := by rw [HN.out]; exact hjl
        obtain ⟨b', off, rfl, hc0⟩ := HIN.out j hjg
        have hc := keep HB.out hc0
        clear hc0
        by_cases hx : x = gs[j]
        · have HX := Lib.hid (drop_here hjg hx)
          rw [← hx] at hc
          clear hx
          go_wp2
          go_ret
          exact ⟨by rw [HM.out, HX.out, HZ.out]; rfl, HB.out⟩
        · have HX := Lib.hid (drop_step hjg hx)
          generalize gs[j] = y at hc hx
          have hx2 : (y == x) = false := by simp; exact fun h => hx h.symm
          clear hx
          go_wp2_with fail
          refine ⟨⟨j + 1, by omega, by simp, Lib.hid (HM.out.trans HX.out), HB⟩, ?_⟩
          simp [intOf]; omega
      · have hje : (j : Int) = (n : Int) := by omega
        have hjd : decide ((j : Int) < (n : Int)) = false := by simp; omega
        go_wp2
        go_ret
        refine ⟨?_, HB.out⟩
        rw [HM.out, drop_end (by rw [HN.out]; omega), HZ.out]
        rfl
end Go.Proofs.Ytebnjfpffdlbbaa
