/- The contract of known, the chapter's rows: true, in whatever world. -/
import Derived.Test.YtebnjfpffdlbbaaA2
namespace Go.Proofs.Ytebnjfpffdlbbaa
open Go.RowKit
set_option linter.unusedVariables false
set_option linter.unusedSimpArgs false

set_option maxRecDepth 100000 in
theorem eqi (d : Nat) (a c : Int) (w : World) : Sem.run Try.prog (Op.equalIn (d+1) 3 (.int .i64 a) (.int .i64 c)) w = .ok (a == c) w := by
  kernel_rfl
set_option maxRecDepth 100000 in
theorem eq22 (d : Nat) (a b c e : Int) (w : World) : Sem.run Try.prog (Op.equalIn (d+2) 22 (.agg #[.int .i64 a, .int .i64 b]) (.agg #[.int .i64 c, .int .i64 e])) w = .ok (a == c && b == e) w := by
  have hs : ∀ w, Sem.run Try.prog (sizeOf 3) w = .ok 1 w := fun w => by kernel_rfl
  have p0 : ∀ a b w, Sem.run Try.prog (part 3 #[.int .i64 a, .int .i64 b] 0) w = .ok (.int .i64 a) w := fun a b w => by kernel_rfl
  have p1 : ∀ a b w, Sem.run Try.prog (part 3 #[.int .i64 a, .int .i64 b] 1) w = .ok (.int .i64 b) w := fun a b w => by kernel_rfl
  unfold Op.equalIn
  simp only [Sem.run_bind, run_underlying Try.underlying22, Result.andThen_ok, hs]
  simp only [Std.Legacy.Range.forIn_eq_forIn_range', Std.Legacy.Range.size, Nat.sub_zero, Nat.add_sub_cancel, Nat.div_one, List.range'_succ, List.range'_zero, List.forIn_cons, List.forIn_nil, Sem.run_bind, Nat.zero_mul, Nat.one_mul, Nat.zero_add, p0, p1, Result.andThen_ok, eqi]
  cases hx : (a == c) <;> cases hy : (b == e) <;> simp [hx, hy, eqi, p0, p1]
set_option maxRecDepth 100000 in
theorem eq22' (a b c e : Int) (w : World) : Sem.run Try.prog (Op.equalIn 9999 22 (.agg #[.int .i64 a, .int .i64 b]) (.agg #[.int .i64 c, .int .i64 e])) w = .ok (a == c && b == e) w := eq22 9997 a b c e w

theorem keep {w w' : World} {p : Addr} {v : Value} (hb : Below w.heap.size w w') (h : w.cell? p = some v) : w'.cell? p = some v := (hb.cell (World.block_lt_of_cell? _ _ h)).trans h

theorem met_v (h b s lo hi : Int) (r : Bool) (hr : metB b s lo hi = r) (w : World) :
    Calls Try.prog 12 #[.agg #[.int .u64 h, .int .u64 b, .int .u64 s], .int .u64 lo, .int .u64 hi] w fun e w' => e = .returned (.bool r) ∧ Below w.heap.size w w' := by
  subst hr; exact met_any h b s lo hi w
theorem metr_v (h b s lo hi : Int) (r : Bool) (hr : metB b s lo hi = r) (w : World) :
    Calls Try.prog 13 #[.agg #[.int .u64 h, .int .u64 b, .int .u64 s], .int .u64 lo, .int .u64 hi] w fun e w' => e = .returned (.bool r) ∧ Below w.heap.size w w' := by
  subst hr; exact metr_any h b s lo hi w
theorem aged_v (h b s e : Int) (r : Bool) (hs : 0 ≤ s ∧ s < 18446744073709551616) (he : 0 ≤ e ∧ e < 18446744073709551616) (hr : agedB s e = r) (w : World) :
    Calls Try.prog 14 #[.agg #[.int .u64 h, .int .u64 b, .int .u64 s], .int .u64 e] w fun e w' => e = .returned (.bool r) ∧ Below w.heap.size w w' := by
  subst hr; exact aged_any h b s e hs he w
theorem agedr_v (h b s e : Int) (r : Bool) (hs : 0 ≤ s ∧ s < 18446744073709551616) (he : 0 ≤ e ∧ e < 18446744073709551616) (hr : agedB s e = r) (w : World) :
    Calls Try.prog 15 #[.agg #[.int .u64 h, .int .u64 b, .int .u64 s], .int .u64 e] w fun e w' => e = .returned (.bool r) ∧ Below w.heap.size w w' := by
  subst hr; exact agedr_any h b s e hs he w

theorem cfgC_zero : cfgC 0 0 0 0 0 0 0 = cfg 1 0 0 1 0 1 1 := by kernel_rfl


set_option maxRecDepth 100000 in
set_option maxHeartbeats 1000000 in
theorem known_any (w : World) :
    Calls Try.prog 11 #[] w fun e w' => e = .returned (.bool true) ∧ Below w.heap.size w w' := by
  have CL : ∀ w : World, Calls Try.prog 9 #[.agg #[.int .i64 0, .int .i64 0, .int .i64 0, .int .i64 0, .int .i64 0, .int .i64 0, .int .u64 0]] w fun e w' => e = .returned (.agg #[.int .i64 1, .int .i64 0, .int .i64 0, .int .i64 1, .int .i64 0, .int .i64 1, .int .u64 1]) ∧ Below w.heap.size w w' := fun w => by
    have := clamp_any 0 0 0 0 0 0 0 w
    rw [cfgC_zero] at this
    exact this
  have q := eq22'
  go_enter Try.func11, Try.ntmps11
  go_wp2_with fail
  refine (CL _).mono ?_
  rintro e w1 ⟨rfl, hb1⟩
  have l1 : w1.cell? ⟨w.heap.size, 0, none⟩ = some (.int .u64 1) := keep hb1 (by simp [go_sem])
  have l2 : w1.cell? ⟨w.heap.size, 1, none⟩ = some (.int .u64 3) := keep hb1 (by simp [go_sem])
  have l3 : w1.cell? ⟨w.heap.size, 2, none⟩ = some (.int .u64 6) := keep hb1 (by simp [go_sem])
  have HB1 := Lib.hid (show Below w.heap.size w w1 from Below.trans (by go_grown) (hb1.mono (by simp)))
  clear hb1
  go_wp2_with fail
  refine (met_v 1 3 6 6 6 true (by decide) _).mono ?_
  rintro e w2 ⟨rfl, hb2⟩
  have m21 := keep hb2 l1
  have m22 := keep hb2 l2
  have m23 := keep hb2 l3
  have HB2 := Lib.hid (HB1.out.trans (hb2.mono HB1.out.size))
  clear hb2 l1 l2 l3
  go_wp2_with fail
  refine (met_v 1 3 6 7 9 false (by decide) _).mono ?_
  rintro e w3 ⟨rfl, hb3⟩
  have m31 := keep hb3 m21
  have m32 := keep hb3 m22
  have m33 := keep hb3 m23
  have HB3 := Lib.hid (HB2.out.trans (hb3.mono HB2.out.size))
  clear hb3 m21 m22 m23
  go_wp2_with fail
  refine (met_v 1 3 6 1 2 false (by decide) _).mono ?_
  rintro e w4 ⟨rfl, hb4⟩
  have m41 := keep hb4 m31
  have m42 := keep hb4 m32
  have m43 := keep hb4 m33
  have HB4 := Lib.hid (HB3.out.trans (hb4.mono HB3.out.size))
  clear hb4 m31 m32 m33
  go_wp2_with fail
  refine (aged_v 1 3 6 8 true (by decide) (by decide) (by decide) _).mono ?_
  rintro e w5 ⟨rfl, hb5⟩
  have m51 := keep hb5 m41
  have m52 := keep hb5 m42
  have m53 := keep hb5 m43
  have HB5 := Lib.hid (HB4.out.trans (hb5.mono HB4.out.size))
  clear hb5 m41 m42 m43
  go_wp2_with fail
  refine (aged_v 1 3 6 7 false (by decide) (by decide) (by decide) _).mono ?_
  rintro e w6 ⟨rfl, hb6⟩
  have HB6 := Lib.hid (HB5.out.trans (hb6.mono HB5.out.size))
  clear hb6 m51 m52 m53
  go_wp2
  go_returns
  exact ⟨rfl, HB6.out⟩
end Go.Proofs.Ytebnjfpffdlbbaa
