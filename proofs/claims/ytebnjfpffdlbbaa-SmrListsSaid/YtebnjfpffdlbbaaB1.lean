/- The law SmrClamps: any configuration, clamped. -/
import Derived.Test.YtebnjfpffdlbbaaA3
namespace Go.Proofs.Ytebnjfpffdlbbaa
open Go.RowKit
set_option linter.unusedVariables false
set_option linter.unusedSimpArgs false

theorem cl_cl (n l m : Int) (h : l ≤ m) : cl (cl n l m) l m = cl n l m := by unfold cl; omega
theorem cfgC_idem (t a b th ca st er : Int) : cfgC (cl t 1 16) (cl a 0 4096) (cl b 0 4096) (cl th 1 256) (cl ca 0 32) (cl st 1 64) (cl er 1 1099511627711) = cfgC t a b th ca st er := by
  unfold cfgC
  simp [cl_cl]

/-- A configuration's cells. -/
def CfgAt (B : Nat) (t a b th ca st er : Int) (w : World) : Prop :=
  w.cell? ⟨B, 0, none⟩ = some (.int .i64 t) ∧ w.cell? ⟨B, 1, none⟩ = some (.int .i64 a) ∧ w.cell? ⟨B, 2, none⟩ = some (.int .i64 b) ∧ w.cell? ⟨B, 3, none⟩ = some (.int .i64 th) ∧ w.cell? ⟨B, 4, none⟩ = some (.int .i64 ca) ∧ w.cell? ⟨B, 5, none⟩ = some (.int .i64 st) ∧ w.cell? ⟨B, 6, none⟩ = some (.int .u64 er)

theorem CfgAt.below {B : Nat} {t a b th ca st er : Int} {w w' : World} (h : CfgAt B t a b th ca st er w) (hb : Below w.heap.size w w') : CfgAt B t a b th ca st er w' := by
  obtain ⟨h0, h1, h2, h3, h4, h5, h6⟩ := h
  exact ⟨keep hb h0, keep hb h1, keep hb h2, keep hb h3, keep hb h4, keep hb h5, keep hb h6⟩

theorem below_then {w w1 w2 : World} (h1 : Below w.heap.size w w1) (h2 : Below w1.heap.size w1 w2) : Below w.heap.size w w2 := h1.trans (h2.mono h1.size)

set_option maxRecDepth 100000 in
set_option maxHeartbeats 4000000 in
theorem law_clamps (t a b th ca st er : Int) (w : World) :
    Calls Try.prog 3 #[cfg t a b th ca st er] w fun e w' => e = .returned (.bool true) ∧ Below w.heap.size w w' := by
  have q := eq22'
  have hx : ∃ t' a' b' th' ca' st' er', cfgC t a b th ca st er = cfg t' a' b' th' ca' st' er' ∧ cfgC t' a' b' th' ca' st' er' = cfg t' a' b' th' ca' st' er' :=
    ⟨_, _, _, _, _, _, _, rfl, cfgC_idem _ _ _ _ _ _ _⟩
  obtain ⟨t', a', b', th', ca', st', er', hC, hC'⟩ := hx
  have C1 : ∀ w, Calls Try.prog 9 #[.agg #[.int .i64 t, .int .i64 a, .int .i64 b, .int .i64 th, .int .i64 ca, .int .i64 st, .int .u64 er]] w fun e w' => e = .returned (.agg #[.int .i64 t', .int .i64 a', .int .i64 b', .int .i64 th', .int .i64 ca', .int .i64 st', .int .u64 er']) ∧ ∃ o1 o2, w' = (w.alloc o1).alloc o2 := fun w => by
    have := clamp_ex t a b th ca st er w
    rw [hC] at this
    exact this
  have C2 : ∀ w, Calls Try.prog 9 #[.agg #[.int .i64 t', .int .i64 a', .int .i64 b', .int .i64 th', .int .i64 ca', .int .i64 st', .int .u64 er']] w fun e w' => e = .returned (.agg #[.int .i64 t', .int .i64 a', .int .i64 b', .int .i64 th', .int .i64 ca', .int .i64 st', .int .u64 er']) ∧ ∃ o1 o2, w' = (w.alloc o1).alloc o2 := fun w => by
    have := clamp_ex t' a' b' th' ca' st' er' w
    rw [hC'] at this
    exact this
  have C3 : ∀ w, Calls Try.prog 10 #[.agg #[.int .i64 t, .int .i64 a, .int .i64 b, .int .i64 th, .int .i64 ca, .int .i64 st, .int .u64 er]] w fun e w' => e = .returned (.agg #[.int .i64 t', .int .i64 a', .int .i64 b', .int .i64 th', .int .i64 ca', .int .i64 st', .int .u64 er']) ∧ ∃ o1 o2 o3, w' = (((w.alloc o1).alloc o2).alloc o3).drew := fun w => by
    have := clampr_ex t a b th ca st er w
    rw [hC] at this
    exact this
  clear hC hC'
  unfold cfg
  go_enter Try.func3, Try.ntmps3
  go_wp2_with fail
  refine (C1 _).mono ?_
  rintro e w1 ⟨rfl, o1, o2, rfl⟩
  go_wp2_with fail
  have hA : CfgAt w.heap.size t a b th ca st er ((((w.alloc (.cells #[.int .i64 t, .int .i64 a, .int .i64 b, .int .i64 th, .int .i64 ca, .int .i64 st, .int .u64 er] 25)).alloc o1).alloc o2).alloc (.cells #[.int .i64 t', .int .i64 a', .int .i64 b', .int .i64 th', .int .i64 ca', .int .i64 st', .int .u64 er'] 25)) := by
    refine ⟨?_, ?_, ?_, ?_, ?_, ?_, ?_⟩ <;> simp [go_sem]
  have hB : CfgAt (w.heap.size + 1 + 1 + 1) t' a' b' th' ca' st' er' ((((w.alloc (.cells #[.int .i64 t, .int .i64 a, .int .i64 b, .int .i64 th, .int .i64 ca, .int .i64 st, .int .u64 er] 25)).alloc o1).alloc o2).alloc (.cells #[.int .i64 t', .int .i64 a', .int .i64 b', .int .i64 th', .int .i64 ca', .int .i64 st', .int .u64 er'] 25)) := by
    refine ⟨?_, ?_, ?_, ?_, ?_, ?_, ?_⟩ <;> simp [go_sem]
  have hb : Below w.heap.size w ((((w.alloc (.cells #[.int .i64 t, .int .i64 a, .int .i64 b, .int .i64 th, .int .i64 ca, .int .i64 st, .int .u64 er] 25)).alloc o1).alloc o2).alloc (.cells #[.int .i64 t', .int .i64 a', .int .i64 b', .int .i64 th', .int .i64 ca', .int .i64 st', .int .u64 er'] 25)) := by go_grown
  generalize ((((w.alloc (.cells #[.int .i64 t, .int .i64 a, .int .i64 b, .int .i64 th, .int .i64 ca, .int .i64 st, .int .u64 er] 25)).alloc o1).alloc o2).alloc (.cells #[.int .i64 t', .int .i64 a', .int .i64 b', .int .i64 th', .int .i64 ca', .int .i64 st', .int .u64 er'] 25)) = w2 at hA hB hb ⊢
  generalize w.heap.size + 1 + 1 + 1 = B at hB ⊢
  generalize hAe : w.heap.size = A at hA ⊢
  have HK : ∀ {w' : World}, Below w2.heap.size w2 w' → CfgAt A t a b th ca st er w' ∧ CfgAt B t' a' b' th' ca' st' er' w' := fun hb => ⟨hA.below hb, hB.below hb⟩
  simp only [CfgAt] at HK
  go_region_held3 (fun w' => (w'.cell? ⟨A, 0, none⟩ = some (.int .i64 t) ∧ w'.cell? ⟨A, 1, none⟩ = some (.int .i64 a) ∧ w'.cell? ⟨A, 2, none⟩ = some (.int .i64 b) ∧ w'.cell? ⟨A, 3, none⟩ = some (.int .i64 th) ∧ w'.cell? ⟨A, 4, none⟩ = some (.int .i64 ca) ∧ w'.cell? ⟨A, 5, none⟩ = some (.int .i64 st) ∧ w'.cell? ⟨A, 6, none⟩ = some (.int .u64 er)) ∧ (w'.cell? ⟨B, 0, none⟩ = some (.int .i64 t') ∧ w'.cell? ⟨B, 1, none⟩ = some (.int .i64 a') ∧ w'.cell? ⟨B, 2, none⟩ = some (.int .i64 b') ∧ w'.cell? ⟨B, 3, none⟩ = some (.int .i64 th') ∧ w'.cell? ⟨B, 4, none⟩ = some (.int .i64 ca') ∧ w'.cell? ⟨B, 5, none⟩ = some (.int .i64 st') ∧ w'.cell? ⟨B, 6, none⟩ = some (.int .u64 er'))) (first | (refine HK ?_; go_grown; done) | (refine HK (below_then ?_ hb4); go_grown; done))
    (first
    | (go_at_call 10; refine (C3 _).mono ?_; rintro e w4 ⟨rfl, o1, o2, o3, rfl⟩)
    | (go_at_call 9; refine (C2 _).mono ?_; rintro e w4 ⟨rfl, o1, o2, rfl⟩)
    | (go_at_call 11; refine (known_any _).mono ?_; rintro e w4 ⟨rfl, hb4⟩))
  all_goals
    go_wp2
    go_ret
    refine ⟨rfl, below_then hb (below_then ?_ hb4)⟩
    go_grown
end Go.Proofs.Ytebnjfpffdlbbaa
