/- The law SmrRules: reservations, epochs and guards. -/
import Derived.Test.YtebnjfpffdlbbaaB2
import Derived.Test.YtebnjfpffdlbbaaB4a
namespace Go.Proofs.Ytebnjfpffdlbbaa
open Go.RowKit
set_option linter.unusedVariables false
set_option linter.unusedSimpArgs false

set_option maxRecDepth 100000 in
set_option maxHeartbeats 8000000 in
theorem law_rules (h b s lo hi ep : Int) (hh : 0 ≤ h ∧ h < 18446744073709551616) (hs : 0 ≤ s ∧ s < 18446744073709551616) (hep : 0 ≤ ep ∧ ep < 18446744073709551616) (ad : Option Addr) (n cap : Nat) (gs : List Int) (hn : gs.length = n) (hnm : n ≤ 9223372036854775807) (w : World) (hin : GsIn ad gs w) :
    Calls Try.prog 4 #[.agg #[.int .u64 h, .int .u64 b, .int .u64 s], .int .u64 lo, .int .u64 hi, .int .u64 ep, .slice ad n cap] w fun e w' => e = .returned (.bool true) ∧ Below w.heap.size w w' := by
  by_cases hl : 300 < n
  · have hl' : (300 : Int) < (n : Int) := by omega
    go_enter Try.func4, Try.ntmps4
    go_wp2_with fail
    refine (known_any _).mono ?_
    rintro e w1 ⟨rfl, hb1⟩
    go_wp2
    go_returns
    exact ⟨rfl, below_then (by go_grown) hb1⟩
  · have hl' : (n : Int) ≤ 300 := by omega
    have hl3 : n ≤ 300 := by omega
    have HM := Lib.hid (show ∃ r, metB b s lo hi = r from ⟨_, rfl⟩)
    obtain ⟨rm, hrm⟩ := HM.out
    obtain ⟨ra, hra⟩ : ∃ r, agedB s ep = r := ⟨_, rfl⟩
    obtain ⟨rn, hrn⟩ : ∃ r, namedB h gs = r := ⟨_, rfl⟩
    have RM := Lib.hid hrm
    have RA := Lib.hid hra
    have RN := Lib.hid hrn
    have HH := Lib.hid hh
    have HS := Lib.hid hs
    have HE := Lib.hid hep
    have HN := Lib.hid hn
    have HL := Lib.hid hl3
    have hb0 : Below w.heap.size w (w.alloc (.cells #[.int .u64 h, .int .u64 b, .int .u64 s] 30)) := by go_grown
    have hO : OldAt w.heap.size h b s (w.alloc (.cells #[.int .u64 h, .int .u64 b, .int .u64 s] 30)) := ⟨by simp [go_sem], by simp [go_sem], by simp [go_sem]⟩
    have HIN := Lib.hid (hin.below hb0)
    have HB0 := Lib.hid hb0
    have HO := Lib.hid hO
    clear hin hrm hra hrn hh hs hep hn hl hl3 hnm hb0 hO HM
    go_enter Try.func4, Try.ntmps4
    go_wp2_with fail
    generalize (w.alloc (.cells #[.int .u64 h, .int .u64 b, .int .u64 s] 30)) = w2 at HIN HB0 HO ⊢
    have HK : ∀ {w' : World}, Below w2.heap.size w2 w' → w'.cell? ⟨w.heap.size, 0, none⟩ = some (.int .u64 h) ∧ w'.cell? ⟨w.heap.size, 1, none⟩ = some (.int .u64 b) ∧ w'.cell? ⟨w.heap.size, 2, none⟩ = some (.int .u64 s) := fun hb => HO.out.below hb
    go_region_held3 (fun w' => w'.cell? ⟨w.heap.size, 0, none⟩ = some (.int .u64 h) ∧ w'.cell? ⟨w.heap.size, 1, none⟩ = some (.int .u64 b) ∧ w'.cell? ⟨w.heap.size, 2, none⟩ = some (.int .u64 s))
      (first | (refine HK (?_); go_grown; done) | (refine HK (below_then ?_ hb4); go_grown; done) | (refine HK (below_then (below_then ?_ hb4) hb5); go_grown; done) | (refine HK (below_then (below_then (below_then ?_ hb4) hb5) hb6); go_grown; done) | (refine HK (below_then (below_then (below_then (below_then ?_ hb4) hb5) hb6) hb7); go_grown; done) | (refine HK (below_then (below_then (below_then (below_then (below_then ?_ hb4) hb5) hb6) hb7) hb8); go_grown; done) | (refine HK (below_then (below_then (below_then (below_then (below_then (below_then ?_ hb4) hb5) hb6) hb7) hb8) hb9); go_grown; done) | (refine HK (below_then (below_then (below_then (below_then (below_then (below_then (below_then ?_ hb4) hb5) hb6) hb7) hb8) hb9) hb10); go_grown; done) | (refine HK (below_then (below_then (below_then (below_then (below_then (below_then (below_then (below_then ?_ hb4) hb5) hb6) hb7) hb8) hb9) hb10) hb11); go_grown; done))
      (first
      | (go_at_call 16; refine (named_any h b s HH.out.1 HH.out.2 ad8 n c8 gs HN.out HL.out _ hcg8).mono ?_; rw [RN.out]; rintro e v9 ⟨rfl, hb9⟩)
      | (go_at_call 17; refine (namedr_any h b s HH.out.1 HH.out.2 ad n cap gs HN.out HL.out _ (HIN.out.below (below_then (below_then hv7 hb8) hb9))).mono ?_; rw [RN.out]; rintro e v10 ⟨rfl, hb10⟩)
      | (go_at_call 12; refine (met_v h b s lo hi rm RM.out _).mono ?_; rintro e v4 ⟨rfl, hb4⟩)
      | (go_at_call 13; refine (metr_v h b s lo hi rm RM.out _).mono ?_; rintro e v5 ⟨rfl, hb5⟩)
      | (go_at_call 14; refine (aged_v h b s ep ra HS.out HE.out RA.out _).mono ?_; rintro e v6 ⟨rfl, hb6⟩)
      | (go_at_call 15; refine (agedr_v h b s ep ra HS.out HE.out RA.out _).mono ?_; rintro e v7 ⟨rfl, hb7⟩)
      | (go_at_call 11; refine (known_any _).mono ?_; rintro e v11 ⟨rfl, hb11⟩)
      | (have hv7 : Below w2.heap.size w2 v7 := below_then (below_then (below_then (below_then (show Below w2.heap.size w2 w2.drew by go_grown) hb4) hb5) hb6) hb7
         obtain ⟨cv, cw, hcr, hcg, hb8⟩ := copy_run (c := cap) HN.out HL.out (HIN.out.below hv7)
         refine step_append_run _ ?hw (.const (.slice none 0 0)) (.tmp 35) 31 ?ho (.slice none 0 0) (.slice ad n cap) ?hs ?hx hcr ?_
         case hw => (first | rfl | (simp [Region.wanted, yielded]; done) | (trace_state; fail))
         case ho => rfl
         case hs => rfl
         case hx => (first | rfl | (simp [Act.eval, Act.put]; done))
         obtain ⟨ad8, c8, rfl, hcg8⟩ := hcg))
    all_goals
      go_wp2
      go_ret
      exact ⟨rfl, below_then HB0.out (below_then (below_then (below_then (below_then hv7 hb8) hb9) hb10) hb11)⟩
end Go.Proofs.Ytebnjfpffdlbbaa
