/- The law SmrWider: wider reservations, later epochs. -/
import Derived.Test.YtebnjfpffdlbbaaA4
namespace Go.Proofs.Ytebnjfpffdlbbaa
open Go.RowKit
set_option linter.unusedVariables false
set_option linter.unusedSimpArgs false

/-- A slot's cells. -/
def OldAt (B : Nat) (h b s : Int) (w : World) : Prop :=
  w.cell? ⟨B, 0, none⟩ = some (.int .u64 h) ∧ w.cell? ⟨B, 1, none⟩ = some (.int .u64 b) ∧ w.cell? ⟨B, 2, none⟩ = some (.int .u64 s)

theorem OldAt.below {B : Nat} {h b s : Int} {w w' : World} (o : OldAt B h b s w) (hb : Below w.heap.size w w') : OldAt B h b s w' :=
  ⟨keep hb o.1, keep hb o.2.1, keep hb o.2.2⟩

theorem named_nil (h b s : Int) (h0 : 0 ≤ h) (h1 : h < 18446744073709551616) (w : World) :
    Calls Try.prog 16 #[.agg #[.int .u64 h, .int .u64 b, .int .u64 s], .slice none 0 0] w fun e w' => e = .returned (.bool false) ∧ Below w.heap.size w w' := by
  have := named_any h b s h0 h1 none 0 0 [] rfl (by omega) w (fun i hi => by cases hi)
  have e : namedB h [] = false := by simp [namedB, among]
  rw [e] at this
  exact this

set_option maxRecDepth 100000 in
set_option maxHeartbeats 4000000 in
theorem wider_tt (h b s lo hi less more : Int) (hh : 0 ≤ h ∧ h < 18446744073709551616) (hs : 0 ≤ s ∧ s < 18446744073709551616) (hlo : 0 ≤ lo ∧ lo < 18446744073709551616) (hhi : 0 ≤ hi ∧ hi < 18446744073709551616)
    (hle : 0 ≤ less ∧ less < 18446744073709551616) (hmo : 0 ≤ more ∧ more < 18446744073709551616) (hm : metB b s lo hi = true) (ha : agedB s lo = true) (w : World) :
    Calls Try.prog 7 #[.agg #[.int .u64 h, .int .u64 b, .int .u64 s], .int .u64 lo, .int .u64 hi, .int .u64 less, .int .u64 more] w fun e w' => e = .returned (.bool true) ∧ Below w.heap.size w w' := by
  obtain ⟨x, hx, hx0, hxl⟩ : ∃ x, min less lo = x ∧ 0 ≤ x ∧ x ≤ lo := ⟨_, rfl, by omega, by omega⟩
  obtain ⟨y, hy, hy0, hyl⟩ : ∃ y, min more (18446744073709551615 - hi) = y ∧ 0 ≤ y ∧ hi + y < 18446744073709551616 := ⟨_, rfl, by omega, by omega⟩
  obtain ⟨z, hz, hz0, hzl⟩ : ∃ z, min more (18446744073709551615 - lo) = z ∧ 0 ≤ z ∧ lo + z < 18446744073709551616 := ⟨_, rfl, by omega, by omega⟩
  have M3 := Lib.hid (show metB b s b s = decide (b ≤ s) by unfold metB; simp)
  have A3 := Lib.hid (show agedB s s = false by unfold agedB; simp; omega)
  have M2 := Lib.hid (show metB b s (lo - x) (hi + y) = true by unfold metB at hm ⊢; simp at hm ⊢; omega)
  have A2 := Lib.hid (show agedB s (lo + z) = true by unfold agedB at ha ⊢; simp at ha ⊢; omega)
  have HM := Lib.hid hm
  have HA := Lib.hid ha
  have HH := Lib.hid hh
  have HS := Lib.hid hs
  clear hm ha hh
  go_enter Try.func7, Try.ntmps7
  go_wp2_with fail
  refine (met_v h b s lo hi true HM.out _).mono ?_
  rintro e w1 ⟨rfl, hb1⟩
  have HB1 := Lib.hid (below_then (show Below w.heap.size w _ by go_grown) hb1)
  have HO1 := Lib.hid (show OldAt w.heap.size h b s w1 from OldAt.below ⟨by simp [go_sem], by simp [go_sem], by simp [go_sem]⟩ hb1)
  clear hb1
  obtain ⟨c0, c1, c2⟩ := HO1.out
  go_wp2_with fail
  refine (met_v h b s (lo - x) (hi + y) true M2.out _).mono ?_
  rintro e w2 ⟨rfl, hb2⟩
  have HB2 := Lib.hid (below_then HB1.out hb2)
  have HO2 := Lib.hid (HO1.out.below hb2)
  clear hb2 c0 c1 c2
  obtain ⟨c0, c1, c2⟩ := HO2.out
  go_wp2_with fail
  refine (aged_v h b s lo true HS.out hlo HA.out _).mono ?_
  rintro e w3 ⟨rfl, hb3⟩
  have HB3 := Lib.hid (below_then HB2.out hb3)
  have HO3 := Lib.hid (HO2.out.below hb3)
  clear hb3 c0 c1 c2
  obtain ⟨c0, c1, c2⟩ := HO3.out
  go_wp2_with fail
  refine (aged_v h b s (lo + z) true HS.out ⟨by omega, by omega⟩ A2.out _).mono ?_
  rintro e w4 ⟨rfl, hb4⟩
  have HB4 := Lib.hid (below_then HB3.out hb4)
  have HO4 := Lib.hid (HO3.out.below hb4)
  clear hb4 c0 c1 c2
  go_wp2_with fail
  have HK : ∀ {w' : World}, Below w4.heap.size w4 w' → w'.cell? ⟨w.heap.size, 0, none⟩ = some (.int .u64 h) ∧ w'.cell? ⟨w.heap.size, 1, none⟩ = some (.int .u64 b) ∧ w'.cell? ⟨w.heap.size, 2, none⟩ = some (.int .u64 s) := fun hb => HO4.out.below hb
  go_region_held3 (fun w' => w'.cell? ⟨w.heap.size, 0, none⟩ = some (.int .u64 h) ∧ w'.cell? ⟨w.heap.size, 1, none⟩ = some (.int .u64 b) ∧ w'.cell? ⟨w.heap.size, 2, none⟩ = some (.int .u64 s))
    (first | (refine HK ?_; go_grown; done) | (refine HK (below_then ?_ hb4); go_grown; done) | (refine HK (below_then (below_then ?_ hb4) hb5); go_grown; done) | (refine HK (below_then (below_then (below_then ?_ hb4) hb5) hb6); go_grown; done) | (refine HK (below_then (below_then (below_then (below_then ?_ hb4) hb5) hb6) hb7); go_grown; done))
    (first
    | (go_at_call 12; refine (met_v h b s b s (decide (b ≤ s)) M3.out _).mono ?_; rintro e v4 ⟨rfl, hb4⟩)
    | (go_at_call 14; refine (aged_v h b s s false HS.out HS.out A3.out _).mono ?_; rintro e v5 ⟨rfl, hb5⟩)
    | (go_at_call 16; refine (named_nil h b s HH.out.1 HH.out.2 _).mono ?_; rintro e v6 ⟨rfl, hb6⟩)
    | (go_at_call 11; refine (known_any _).mono ?_; rintro e v7 ⟨rfl, hb7⟩))
  all_goals
    go_wp2
    go_ret
    refine ⟨rfl, below_then HB4.out (below_then (below_then (below_then (below_then ?_ hb4) hb5) hb6) hb7)⟩
    go_grown

set_option maxRecDepth 100000 in
set_option maxHeartbeats 4000000 in
theorem wider_tf (h b s lo hi less more : Int) (hh : 0 ≤ h ∧ h < 18446744073709551616) (hs : 0 ≤ s ∧ s < 18446744073709551616) (hlo : 0 ≤ lo ∧ lo < 18446744073709551616) (hhi : 0 ≤ hi ∧ hi < 18446744073709551616)
    (hle : 0 ≤ less ∧ less < 18446744073709551616) (hmo : 0 ≤ more ∧ more < 18446744073709551616) (hm : metB b s lo hi = true) (ha : agedB s lo = false) (w : World) :
    Calls Try.prog 7 #[.agg #[.int .u64 h, .int .u64 b, .int .u64 s], .int .u64 lo, .int .u64 hi, .int .u64 less, .int .u64 more] w fun e w' => e = .returned (.bool true) ∧ Below w.heap.size w w' := by
  obtain ⟨x, hx, hx0, hxl⟩ : ∃ x, min less lo = x ∧ 0 ≤ x ∧ x ≤ lo := ⟨_, rfl, by omega, by omega⟩
  obtain ⟨y, hy, hy0, hyl⟩ : ∃ y, min more (18446744073709551615 - hi) = y ∧ 0 ≤ y ∧ hi + y < 18446744073709551616 := ⟨_, rfl, by omega, by omega⟩
  obtain ⟨z, hz, hz0, hzl⟩ : ∃ z, min more (18446744073709551615 - lo) = z ∧ 0 ≤ z ∧ lo + z < 18446744073709551616 := ⟨_, rfl, by omega, by omega⟩
  have M3 := Lib.hid (show metB b s b s = decide (b ≤ s) by unfold metB; simp)
  have A3 := Lib.hid (show agedB s s = false by unfold agedB; simp; omega)
  have M2 := Lib.hid (show metB b s (lo - x) (hi + y) = true by unfold metB at hm ⊢; simp at hm ⊢; omega)
  have HM := Lib.hid hm
  have HA := Lib.hid ha
  have HH := Lib.hid hh
  have HS := Lib.hid hs
  clear hm ha hh
  go_enter Try.func7, Try.ntmps7
  go_wp2_with fail
  refine (met_v h b s lo hi true HM.out _).mono ?_
  rintro e w1 ⟨rfl, hb1⟩
  have HB1 := Lib.hid (below_then (show Below w.heap.size w _ by go_grown) hb1)
  have HO1 := Lib.hid (show OldAt w.heap.size h b s w1 from OldAt.below ⟨by simp [go_sem], by simp [go_sem], by simp [go_sem]⟩ hb1)
  clear hb1
  obtain ⟨c0, c1, c2⟩ := HO1.out
  go_wp2_with fail
  refine (met_v h b s (lo - x) (hi + y) true M2.out _).mono ?_
  rintro e w2 ⟨rfl, hb2⟩
  have HB2 := Lib.hid (below_then HB1.out hb2)
  have HO2 := Lib.hid (HO1.out.below hb2)
  clear hb2 c0 c1 c2
  obtain ⟨c0, c1, c2⟩ := HO2.out
  go_wp2_with fail
  refine (aged_v h b s lo false HS.out hlo HA.out _).mono ?_
  rintro e w3 ⟨rfl, hb3⟩
  have HB3 := Lib.hid (below_then HB2.out hb3)
  have HO3 := Lib.hid (HO2.out.below hb3)
  clear hb3 c0 c1 c2
  go_wp2_with fail
  have HK : ∀ {w' : World}, Below w3.heap.size w3 w' → w'.cell? ⟨w.heap.size, 0, none⟩ = some (.int .u64 h) ∧ w'.cell? ⟨w.heap.size, 1, none⟩ = some (.int .u64 b) ∧ w'.cell? ⟨w.heap.size, 2, none⟩ = some (.int .u64 s) := fun hb => HO3.out.below hb
  go_region_held3 (fun w' => w'.cell? ⟨w.heap.size, 0, none⟩ = some (.int .u64 h) ∧ w'.cell? ⟨w.heap.size, 1, none⟩ = some (.int .u64 b) ∧ w'.cell? ⟨w.heap.size, 2, none⟩ = some (.int .u64 s))
    (first | (refine HK ?_; go_grown; done) | (refine HK (below_then ?_ hb4); go_grown; done) | (refine HK (below_then (below_then ?_ hb4) hb5); go_grown; done) | (refine HK (below_then (below_then (below_then ?_ hb4) hb5) hb6); go_grown; done) | (refine HK (below_then (below_then (below_then (below_then ?_ hb4) hb5) hb6) hb7); go_grown; done))
    (first
    | (go_at_call 12; refine (met_v h b s b s (decide (b ≤ s)) M3.out _).mono ?_; rintro e v4 ⟨rfl, hb4⟩)
    | (go_at_call 14; refine (aged_v h b s s false HS.out HS.out A3.out _).mono ?_; rintro e v5 ⟨rfl, hb5⟩)
    | (go_at_call 16; refine (named_nil h b s HH.out.1 HH.out.2 _).mono ?_; rintro e v6 ⟨rfl, hb6⟩)
    | (go_at_call 11; refine (known_any _).mono ?_; rintro e v7 ⟨rfl, hb7⟩))
  all_goals
    go_wp2
    go_ret
    refine ⟨rfl, below_then HB3.out (below_then (below_then (below_then (below_then ?_ hb4) hb5) hb6) hb7)⟩
    go_grown

set_option maxRecDepth 100000 in
set_option maxHeartbeats 4000000 in
theorem wider_ft (h b s lo hi less more : Int) (hh : 0 ≤ h ∧ h < 18446744073709551616) (hs : 0 ≤ s ∧ s < 18446744073709551616) (hlo : 0 ≤ lo ∧ lo < 18446744073709551616) (hhi : 0 ≤ hi ∧ hi < 18446744073709551616)
    (hle : 0 ≤ less ∧ less < 18446744073709551616) (hmo : 0 ≤ more ∧ more < 18446744073709551616) (hm : metB b s lo hi = false) (ha : agedB s lo = true) (w : World) :
    Calls Try.prog 7 #[.agg #[.int .u64 h, .int .u64 b, .int .u64 s], .int .u64 lo, .int .u64 hi, .int .u64 less, .int .u64 more] w fun e w' => e = .returned (.bool true) ∧ Below w.heap.size w w' := by
  obtain ⟨x, hx, hx0, hxl⟩ : ∃ x, min less lo = x ∧ 0 ≤ x ∧ x ≤ lo := ⟨_, rfl, by omega, by omega⟩
  obtain ⟨y, hy, hy0, hyl⟩ : ∃ y, min more (18446744073709551615 - hi) = y ∧ 0 ≤ y ∧ hi + y < 18446744073709551616 := ⟨_, rfl, by omega, by omega⟩
  obtain ⟨z, hz, hz0, hzl⟩ : ∃ z, min more (18446744073709551615 - lo) = z ∧ 0 ≤ z ∧ lo + z < 18446744073709551616 := ⟨_, rfl, by omega, by omega⟩
  have M3 := Lib.hid (show metB b s b s = decide (b ≤ s) by unfold metB; simp)
  have A3 := Lib.hid (show agedB s s = false by unfold agedB; simp; omega)
  have A2 := Lib.hid (show agedB s (lo + z) = true by unfold agedB at ha ⊢; simp at ha ⊢; omega)
  have HM := Lib.hid hm
  have HA := Lib.hid ha
  have HH := Lib.hid hh
  have HS := Lib.hid hs
  clear hm ha hh
  go_enter Try.func7, Try.ntmps7
  go_wp2_with fail
  refine (met_v h b s lo hi false HM.out _).mono ?_
  rintro e w1 ⟨rfl, hb1⟩
  have HB1 := Lib.hid (below_then (show Below w.heap.size w _ by go_grown) hb1)
  have HO1 := Lib.hid (show OldAt w.heap.size h b s w1 from OldAt.below ⟨by simp [go_sem], by simp [go_sem], by simp [go_sem]⟩ hb1)
  clear hb1
  obtain ⟨c0, c1, c2⟩ := HO1.out
  go_wp2_with fail
  refine (aged_v h b s lo true HS.out hlo HA.out _).mono ?_
  rintro e w2 ⟨rfl, hb2⟩
  have HB2 := Lib.hid (below_then HB1.out hb2)
  have HO2 := Lib.hid (HO1.out.below hb2)
  clear hb2 c0 c1 c2
  obtain ⟨c0, c1, c2⟩ := HO2.out
  go_wp2_with fail
  refine (aged_v h b s (lo + z) true HS.out ⟨by omega, by omega⟩ A2.out _).mono ?_
  rintro e w3 ⟨rfl, hb3⟩
  have HB3 := Lib.hid (below_then HB2.out hb3)
  have HO3 := Lib.hid (HO2.out.below hb3)
  clear hb3 c0 c1 c2
  go_wp2_with fail
  have HK : ∀ {w' : World}, Below w3.heap.size w3 w' → w'.cell? ⟨w.heap.size, 0, none⟩ = some (.int .u64 h) ∧ w'.cell? ⟨w.heap.size, 1, none⟩ = some (.int .u64 b) ∧ w'.cell? ⟨w.heap.size, 2, none⟩ = some (.int .u64 s) := fun hb => HO3.out.below hb
  go_region_held3 (fun w' => w'.cell? ⟨w.heap.size, 0, none⟩ = some (.int .u64 h) ∧ w'.cell? ⟨w.heap.size, 1, none⟩ = some (.int .u64 b) ∧ w'.cell? ⟨w.heap.size, 2, none⟩ = some (.int .u64 s))
    (first | (refine HK ?_; go_grown; done) | (refine HK (below_then ?_ hb4); go_grown; done) | (refine HK (below_then (below_then ?_ hb4) hb5); go_grown; done) | (refine HK (below_then (below_then (below_then ?_ hb4) hb5) hb6); go_grown; done) | (refine HK (below_then (below_then (below_then (below_then ?_ hb4) hb5) hb6) hb7); go_grown; done))
    (first
    | (go_at_call 12; refine (met_v h b s b s (decide (b ≤ s)) M3.out _).mono ?_; rintro e v4 ⟨rfl, hb4⟩)
    | (go_at_call 14; refine (aged_v h b s s false HS.out HS.out A3.out _).mono ?_; rintro e v5 ⟨rfl, hb5⟩)
    | (go_at_call 16; refine (named_nil h b s HH.out.1 HH.out.2 _).mono ?_; rintro e v6 ⟨rfl, hb6⟩)
    | (go_at_call 11; refine (known_any _).mono ?_; rintro e v7 ⟨rfl, hb7⟩))
  all_goals
    go_wp2
    go_ret
    refine ⟨rfl, below_then HB3.out (below_then (below_then (below_then (below_then ?_ hb4) hb5) hb6) hb7)⟩
    go_grown

set_option maxRecDepth 100000 in
set_option maxHeartbeats 4000000 in
theorem wider_ff (h b s lo hi less more : Int) (hh : 0 ≤ h ∧ h < 18446744073709551616) (hs : 0 ≤ s ∧ s < 18446744073709551616) (hlo : 0 ≤ lo ∧ lo < 18446744073709551616) (hhi : 0 ≤ hi ∧ hi < 18446744073709551616)
    (hle : 0 ≤ less ∧ less < 18446744073709551616) (hmo : 0 ≤ more ∧ more < 18446744073709551616) (hm : metB b s lo hi = false) (ha : agedB s lo = false) (w : World) :
    Calls Try.prog 7 #[.agg #[.int .u64 h, .int .u64 b, .int .u64 s], .int .u64 lo, .int .u64 hi, .int .u64 less, .int .u64 more] w fun e w' => e = .returned (.bool true) ∧ Below w.heap.size w w' := by
  obtain ⟨x, hx, hx0, hxl⟩ : ∃ x, min less lo = x ∧ 0 ≤ x ∧ x ≤ lo := ⟨_, rfl, by omega, by omega⟩
  obtain ⟨y, hy, hy0, hyl⟩ : ∃ y, min more (18446744073709551615 - hi) = y ∧ 0 ≤ y ∧ hi + y < 18446744073709551616 := ⟨_, rfl, by omega, by omega⟩
  obtain ⟨z, hz, hz0, hzl⟩ : ∃ z, min more (18446744073709551615 - lo) = z ∧ 0 ≤ z ∧ lo + z < 18446744073709551616 := ⟨_, rfl, by omega, by omega⟩
  have M3 := Lib.hid (show metB b s b s = decide (b ≤ s) by unfold metB; simp)
  have A3 := Lib.hid (show agedB s s = false by unfold agedB; simp; omega)
  have HM := Lib.hid hm
  have HA := Lib.hid ha
  have HH := Lib.hid hh
  have HS := Lib.hid hs
  clear hm ha hh
  go_enter Try.func7, Try.ntmps7
  go_wp2_with fail
  refine (met_v h b s lo hi false HM.out _).mono ?_
  rintro e w1 ⟨rfl, hb1⟩
  have HB1 := Lib.hid (below_then (show Below w.heap.size w _ by go_grown) hb1)
  have HO1 := Lib.hid (show OldAt w.heap.size h b s w1 from OldAt.below ⟨by simp [go_sem], by simp [go_sem], by simp [go_sem]⟩ hb1)
  clear hb1
  obtain ⟨c0, c1, c2⟩ := HO1.out
  go_wp2_with fail
  refine (aged_v h b s lo false HS.out hlo HA.out _).mono ?_
  rintro e w2 ⟨rfl, hb2⟩
  have HB2 := Lib.hid (below_then HB1.out hb2)
  have HO2 := Lib.hid (HO1.out.below hb2)
  clear hb2 c0 c1 c2
  go_wp2_with fail
  have HK : ∀ {w' : World}, Below w2.heap.size w2 w' → w'.cell? ⟨w.heap.size, 0, none⟩ = some (.int .u64 h) ∧ w'.cell? ⟨w.heap.size, 1, none⟩ = some (.int .u64 b) ∧ w'.cell? ⟨w.heap.size, 2, none⟩ = some (.int .u64 s) := fun hb => HO2.out.below hb
  go_region_held3 (fun w' => w'.cell? ⟨w.heap.size, 0, none⟩ = some (.int .u64 h) ∧ w'.cell? ⟨w.heap.size, 1, none⟩ = some (.int .u64 b) ∧ w'.cell? ⟨w.heap.size, 2, none⟩ = some (.int .u64 s))
    (first | (refine HK ?_; go_grown; done) | (refine HK (below_then ?_ hb4); go_grown; done) | (refine HK (below_then (below_then ?_ hb4) hb5); go_grown; done) | (refine HK (below_then (below_then (below_then ?_ hb4) hb5) hb6); go_grown; done) | (refine HK (below_then (below_then (below_then (below_then ?_ hb4) hb5) hb6) hb7); go_grown; done))
    (first
    | (go_at_call 12; refine (met_v h b s b s (decide (b ≤ s)) M3.out _).mono ?_; rintro e v4 ⟨rfl, hb4⟩)
    | (go_at_call 14; refine (aged_v h b s s false HS.out HS.out A3.out _).mono ?_; rintro e v5 ⟨rfl, hb5⟩)
    | (go_at_call 16; refine (named_nil h b s HH.out.1 HH.out.2 _).mono ?_; rintro e v6 ⟨rfl, hb6⟩)
    | (go_at_call 11; refine (known_any _).mono ?_; rintro e v7 ⟨rfl, hb7⟩))
  all_goals
    go_wp2
    go_ret
    refine ⟨rfl, below_then HB2.out (below_then (below_then (below_then (below_then ?_ hb4) hb5) hb6) hb7)⟩
    go_grown

theorem law_wider (h b s lo hi less more : Int) (hh : 0 ≤ h ∧ h < 18446744073709551616) (hs : 0 ≤ s ∧ s < 18446744073709551616) (hlo : 0 ≤ lo ∧ lo < 18446744073709551616) (hhi : 0 ≤ hi ∧ hi < 18446744073709551616)
    (hle : 0 ≤ less ∧ less < 18446744073709551616) (hmo : 0 ≤ more ∧ more < 18446744073709551616) (w : World) :
    Calls Try.prog 7 #[.agg #[.int .u64 h, .int .u64 b, .int .u64 s], .int .u64 lo, .int .u64 hi, .int .u64 less, .int .u64 more] w fun e w' => e = .returned (.bool true) ∧ Below w.heap.size w w' := by
  cases hm : metB b s lo hi <;> cases ha : agedB s lo
  · exact wider_ff h b s lo hi less more hh hs hlo hhi hle hmo hm ha w
  · exact wider_ft h b s lo hi less more hh hs hlo hhi hle hmo hm ha w
  · exact wider_tf h b s lo hi less more hh hs hlo hhi hle hmo hm ha w
  · exact wider_tt h b s lo hi less more hh hs hlo hhi hle hmo hm ha w
end Go.Proofs.Ytebnjfpffdlbbaa
