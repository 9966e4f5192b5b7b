/- AuditFirst answers true, in whatever world: the walk up to the two verdicts, and behind them. -/
import Derived.Test.YtejfcmgnacimgaaDoorL2
namespace Go.Proofs.YtejfcmgnacimgaaDoor
open Go.RowKit Go.ChangeMaps
set_option linter.unusedVariables false
set_option linter.unusedSimpArgs false

theorem wpOp_bare {P : Program} {ops : Array Oper} {Q : Exit → Act → World → Prop} {i : Nat} {o : Oper} {K : Act → World → Prop} {a : Act} {w : World} (ho : ops[i]? = some o) (hg : o.guard = none)
    (h : ∀ K' : Act → World → Prop, (∀ a w, K a w → K' a w) → Oper.wp P o a w K' Q) : wpOp P ops Q i K a w :=
  wpOp_step ho fun K' hK => by rw [if_pos (by simp [Region.wanted, hg])]; exact h K' hK
theorem back_of {ops : Array Oper} (h : ((List.range ops.size).all fun i => match ops[i]? with | some o => o.after.toList.all (fun e => !Region.binds .any e || decide (e.on < i)) | none => true) = true) :
    ∀ i o, ops[i]? = some o → ∀ e ∈ o.after, Region.binds .any e = true → e.on < i := by
  intro i o ho e he hb
  have hi := (Array.getElem?_eq_some_iff.1 ho).1
  have h1 := List.all_eq_true.1 h i (List.mem_range.2 hi)
  rw [ho] at h1
  have h2 := List.all_eq_true.1 h1 e (Array.mem_toList_iff.2 he)
  rw [hb] at h2
  simpa using h2
theorem lst_all {l : Array Bool} {j : Nat} (h : j < l.size) (g : l.getD j true = true) : l.getD j false = true := by
  simpa [Array.getD_eq_getD_getElem?, h] using g
theorem info43 : (Tryd.prog.info? 43).map (·.size) = some 4 := by kernel_rfl

set_option maxHeartbeats 8000000 in
set_option maxRecDepth 100000 in
theorem first_c (T B a b : Int) (ad : Option Addr) (len cap k : Nat) (hlen : len ≤ 300) (hkl : k ≤ len) (n : Int) (hkn : wrap64 ((IntKind.u64.wrap n).tmod ((len : Int) + 1)) = k) (h : smallB T B a b = true) (w : World) (hz : Sz w)
    (hsl : ∀ W, (Instr.sliceAt 39 (.slice ad len cap) none (some (.int .i64 k)) none).run Tryd.prog W = .ok (.slice ad k cap) W) (va vf vt vs ua uf ut us : Int)
    (hV : ∀ W, Below w.heap.size w W → Calls Tryd.prog 14 #[.agg #[.int .i64 T, .int .i64 B, .int .i64 a, .int .i64 b], .slice ad k cap] W fun x w' => x = .returned (.agg #[.int .i64 va, .int .i64 vf, .int .i64 vt, .int .i64 vs]) ∧ Below W.heap.size W w')
    (hU : ∀ W, Below w.heap.size w W → Calls Tryd.prog 14 #[.agg #[.int .i64 T, .int .i64 B, .int .i64 a, .int .i64 b], .slice ad len cap] W fun x w' => x = .returned (.agg #[.int .i64 ua, .int .i64 uf, .int .i64 ut, .int .i64 us]) ∧ Below W.heap.size W w')  (hcase : (vf = 0 ∧ va = -1 ∧ vt = 0 ∧ vs = 0 ∧ uf = 0) ∨ (vf = 0 ∧ va = -1 ∧ vt = 0 ∧ vs = 0 ∧ (uf == 0) = false ∧ decide ((k : Int) ≤ ua) = true) ∨ ((vf == 0) = false ∧ va = ua ∧ vf = uf ∧ vt = ut ∧ vs = us ∧ decide (0 ≤ va) = true ∧ decide (va < (k : Int)) = true)) :
    Calls Tryd.prog 4 #[facts T B a b, .slice ad len cap, .int .i64 n] w fun x w' => x = .returned (.bool true) ∧ Below w.heap.size w w' := by
  have hb0 : Below w.heap.size w (w.alloc (.cells #[.int .i64 T, .int .i64 B, .int .i64 a, .int .i64 b] 24)) := by go_grown
  have HSM := fun w => small_any T B a b w
  unfold facts at HSM ⊢
  have HB := Lib.hid hb0
  have HS := Lib.hid h
  have hl3 : (len : Int) ≤ 300 := by omega
  have f0 : (w.alloc (.cells #[.int .i64 T, .int .i64 B, .int .i64 a, .int .i64 b] 24)).cell? ⟨w.heap.size, 0, none⟩ = some (.int .i64 T) := by simp [go_sem]
  have f1 : (w.alloc (.cells #[.int .i64 T, .int .i64 B, .int .i64 a, .int .i64 b] 24)).cell? ⟨w.heap.size, 1, none⟩ = some (.int .i64 B) := by simp [go_sem]
  have f2 : (w.alloc (.cells #[.int .i64 T, .int .i64 B, .int .i64 a, .int .i64 b] 24)).cell? ⟨w.heap.size, 2, none⟩ = some (.int .i64 a) := by simp [go_sem]
  have f3 : (w.alloc (.cells #[.int .i64 T, .int .i64 B, .int .i64 a, .int .i64 b] 24)).cell? ⟨w.heap.size, 3, none⟩ = some (.int .i64 b) := by simp [go_sem]
  have HV := Lib.hid hV
  have HU := Lib.hid hU
  have HSL := Lib.hid hsl
  have HKN := Lib.hid hkn
  clear hb0 h hV hU hsl hkn
  go_enter Tryd.func4, Tryd.ntmps4
  go_wp2_with fail
  refine (HSM _).mono ?_
  rintro x w1 ⟨rfl, hb1⟩
  rw [HS.out]
  have g0 := keep hb1 f0
  have g1 := keep hb1 f1
  have g2 := keep hb1 f2
  have g3 := keep hb1 f3
  have HB1 := Lib.hid (HB.out.trans (hb1.mono HB.out.size))
  have hz1 : w.heap.size < w1.heap.size := World.block_lt_of_cell? _ _ g0
  clear hb1 HSM f0 f1 f2 f3
  go_wp2_with fail
  rw [HKN.out]
  clear HKN
  refine wp_region_inv (by kernel_rfl) (fun l_ a_ w_ => ∃ (A D : Nat) (p8 p9 x27 x28 x29 x30 x31 x32 x33 x34 : Value), a_ = ⟨#[Value.agg #[Value.int IntKind.i64 T, Value.int IntKind.i64 B, Value.int IntKind.i64 a, Value.int IntKind.i64 b], Value.slice ad len cap, Value.int IntKind.i64 n, Value.pointer (some { block := w.heap.size, off := 0 }), undef, undef, Value.bool false, Value.int IntKind.i64 (k : Int), p8, p9, Value.agg #[Value.int IntKind.i64 T, Value.int IntKind.i64 B, Value.int IntKind.i64 a, Value.int IntKind.i64 b], Value.bool true, Value.bool false, Value.bool false, Value.slice ad len cap, Value.int IntKind.i64 (len : Int), Value.bool (decide (300 < (len : Int))), Value.bool (decide (300 < (len : Int))), undef, Value.int IntKind.i64 n, Value.int IntKind.u64 (IntKind.u64.wrap n), Value.slice ad len cap, Value.int IntKind.i64 (len : Int), Value.int IntKind.i64 ((len : Int) + 1), Value.int IntKind.u64 ((len : Int) + 1), Value.int IntKind.u64 ((IntKind.u64.wrap n).tmod ((len : Int) + 1)), Value.int IntKind.i64 (k : Int), x27, x28, x29, x30, x31, x32, x33, x34, undef, undef, undef, undef, undef, undef, undef, undef, undef, undef, undef, undef, undef, undef, undef, undef, undef, undef, undef, undef, undef, undef, undef, undef, undef, undef, undef, undef, undef, undef, undef, undef, undef, undef, undef, undef, undef], []⟩ ∧ RI T B a b ad len cap k va vf vt vs ua uf ut us w1.heap.size w1 l_ A D p8 p9 x27 x28 x29 x30 x31 x32 x33 x34 w_) ?_ ?_ ?_ ?_
  · exact back_of (by kernel_rfl)
  · refine ⟨0, 0, undef, undef, undef, undef, undef, undef, undef, undef, undef, undef, rfl, ⟨Below.trans (Below.refl _ _) ⟨rfl, rfl, rfl, Nat.le_refl _, fun _ _ => rfl⟩, ?_, ?_, ?_, ?_, ?_, ?_, ?_, ?_, ?_, ?_, ?_, ?_, ?_⟩⟩
    all_goals (intro g; exact absurd g (by decide))
  · intro l_ a_ w_ i o hs hinv ho hl hpre
    obtain ⟨A, D, p8, p9, x27, x28, x29, x30, x31, x32, x33, x34, rfl, hri⟩ := hinv
    have hs : l_.size = 12 := hs
    have hi : i < 12 := (Array.getElem?_eq_some_iff.1 ho).1
    rcases (show i = 0 ∨ i = 1 ∨ i = 2 ∨ i = 3 ∨ i = 4 ∨ i = 5 ∨ i = 6 ∨ i = 7 ∨ i = 8 ∨ i = 9 ∨ i = 10 ∨ i = 11 by omega) with rfl | rfl | rfl | rfl | rfl | rfl | rfl | rfl | rfl | rfl | rfl | rfl
    · -- 0: load
      obtain rfl := Option.some.inj ho
      refine wpOp_step rfl (fun K hK => ?_)
      have c0 := keep hri.hB g0
      have c1 := keep hri.hB g1
      have c2 := keep hri.hB g2
      have c3 := keep hri.hB g3
      have HRI := Lib.hid hri
      clear hri
      go_simp
      exact hK _ _ ⟨_, _, _, _, _, _, _, _, _, _, _, _, rfl, HRI.out.s0 (Below.refl _ _) HRI.out.hB.size⟩
    · -- 1: move
      obtain rfl := Option.some.inj ho
      refine wpOp_step rfl (fun K hK => ?_)
      have HRI := Lib.hid hri
      clear hri
      go_simp
      exact hK _ _ ⟨_, _, _, _, _, _, _, _, _, _, _, _, rfl, HRI.out.s1 (Below.refl _ _) HRI.out.hB.size⟩
    · -- 2: move
      obtain rfl := Option.some.inj ho
      refine wpOp_step rfl (fun K hK => ?_)
      have HRI := Lib.hid hri
      clear hri
      go_simp
      exact hK _ _ ⟨_, _, _, _, _, _, _, _, _, _, _, _, rfl, HRI.out.s2 (Below.refl _ _) HRI.out.hB.size⟩
    · -- 3: slice
      obtain rfl := Option.some.inj ho
      have e1 := hpre ⟨1, .data⟩ (by simp) rfl
      have e2 := hpre ⟨2, .data⟩ (by simp) rfl
      obtain rfl := hri.h28 e1
      obtain rfl := hri.h29 e2
      refine wpOp_step rfl (fun K hK => ?_)
      have hsl3 := HSL.out w_
      have HRI := Lib.hid hri
      clear hri
      go_simp
      exact hK _ _ ⟨_, _, _, _, _, _, _, _, _, _, _, _, rfl, HRI.out.s3 (Below.refl _ _) HRI.out.hB.size⟩
    · -- 4: call
      obtain rfl := Option.some.inj ho
      have e0 := hpre ⟨0, .data⟩ (by simp) rfl
      have e3 := hpre ⟨3, .data⟩ (by simp) rfl
      obtain rfl := hri.h27 e0
      obtain rfl := hri.h30 e3
      refine wpOp_step rfl (fun K hK => ?_)
      have HRI := Lib.hid hri
      clear hri
      go_simp
      go_wp2_with (go_at_call 14; refine (HV.out _ (HB1.out.trans (HRI.out.hB.mono HB1.out.size))).mono ?_; rintro x w5 ⟨rfl, hb5⟩)
      exact ⟨_, _, _, _, _, _, _, _, _, _, _, _, rfl, HRI.out.s4 hb5 HRI.out.hB.size⟩
    · -- 5: load
      obtain rfl := Option.some.inj ho
      refine wpOp_step rfl (fun K hK => ?_)
      have c0 := keep hri.hB g0
      have c1 := keep hri.hB g1
      have c2 := keep hri.hB g2
      have c3 := keep hri.hB g3
      have HRI := Lib.hid hri
      clear hri
      go_simp
      exact hK _ _ ⟨_, _, _, _, _, _, _, _, _, _, _, _, rfl, HRI.out.s5 (Below.refl _ _) HRI.out.hB.size⟩
    · -- 6: move
      obtain rfl := Option.some.inj ho
      refine wpOp_step rfl (fun K hK => ?_)
      have HRI := Lib.hid hri
      clear hri
      go_simp
      exact hK _ _ ⟨_, _, _, _, _, _, _, _, _, _, _, _, rfl, HRI.out.s6 (Below.refl _ _) HRI.out.hB.size⟩
    · -- 7: call
      obtain rfl := Option.some.inj ho
      have e5 := hpre ⟨5, .data⟩ (by simp) rfl
      have e6 := hpre ⟨6, .data⟩ (by simp) rfl
      obtain rfl := hri.h32 e5
      obtain rfl := hri.h33 e6
      refine wpOp_step rfl (fun K hK => ?_)
      have HRI := Lib.hid hri
      clear hri
      go_simp
      go_wp2_with (go_at_call 14; refine (HU.out _ (HB1.out.trans (HRI.out.hB.mono HB1.out.size))).mono ?_; rintro x w5 ⟨rfl, hb5⟩)
      exact ⟨_, _, _, _, _, _, _, _, _, _, _, _, rfl, HRI.out.s7 hb5 HRI.out.hB.size⟩
    · -- 8: alloc
      obtain rfl := Option.some.inj ho
      refine wpOp_step rfl (fun K hK => ?_)
      have HRI := Lib.hid hri
      clear hri
      go_simp
      exact hK _ _ ⟨_, _, _, _, _, _, _, _, _, _, _, _, rfl, HRI.out.s8 hs (lst_no hl) HRI.out.hB.size⟩
    · -- 9: alloc
      obtain rfl := Option.some.inj ho
      refine wpOp_step rfl (fun K hK => ?_)
      have HRI := Lib.hid hri
      clear hri
      go_simp
      exact hK _ _ ⟨_, _, _, _, _, _, _, _, _, _, _, _, rfl, HRI.out.s9 hs (lst_no hl) HRI.out.hB.size⟩
    · -- 10: store
      obtain rfl := Option.some.inj ho
      have e8 := hpre ⟨8, .data⟩ (by simp) rfl
      have e4 := hpre ⟨4, .data⟩ (by simp) rfl
      obtain ⟨rfl, hA, hrow⟩ := hri.h8 e8
      obtain rfl := hri.h31 e4
      refine wpOp_bare rfl rfl (fun K hK => ?_)
      refine wp_store_row 43 _ _ rfl A _ rfl rfl 43 _ hrow info43 (by split <;> rfl) (by simp [Value.oneCell']) ?_
      exact hK _ _ ⟨_, _, _, _, _, _, _, _, _, _, _, _, rfl, hri.s10 hs e8⟩
    · -- 11: store
      obtain rfl := Option.some.inj ho
      have e9 := hpre ⟨9, .data⟩ (by simp) rfl
      have e7 := hpre ⟨7, .data⟩ (by simp) rfl
      obtain ⟨rfl, hD, hrow⟩ := hri.h9 e9
      obtain rfl := hri.h34 e7
      refine wpOp_bare rfl rfl (fun K hK => ?_)
      refine wp_store_row 43 _ _ rfl D _ rfl rfl 43 _ hrow info43 (by split <;> rfl) (by simp [Value.oneCell']) ?_
      exact hK _ _ ⟨_, _, _, _, _, _, _, _, _, _, _, _, rfl, hri.s11 hs e9⟩

  · intro l_ a_ w_ hs hinv hall
    obtain ⟨A, D, p8, p9, x27, x28, x29, x30, x31, x32, x33, x34, rfl, hri⟩ := hinv
    have hs : l_.size = 12 := hs
    have e : ∀ j, j < 12 → l_.getD j false = true := fun j hj => lst_all (by omega) (hall j (by exact hj))
    obtain ⟨rfl, hA, rA⟩ := hri.h8 (e 8 (by decide))
    obtain ⟨rfl, hD, rD⟩ := hri.h9 (e 9 (by decide))
    rw [if_pos (e 10 (by decide))] at rA
    rw [if_pos (e 11 (by decide))] at rD
    obtain rfl := hri.h27 (e 0 (by decide))
    obtain rfl := hri.h28 (e 1 (by decide))
    obtain rfl := hri.h29 (e 2 (by decide))
    obtain rfl := hri.h30 (e 3 (by decide))
    obtain rfl := hri.h31 (e 4 (by decide))
    obtain rfl := hri.h32 (e 5 (by decide))
    obtain rfl := hri.h33 (e 6 (by decide))
    obtain rfl := hri.h34 (e 7 (by decide))
    have HBw := Lib.hid (HB1.out.trans (hri.hB.mono HB1.out.size))
    have HZw := Lib.hid (hz.below HBw.out)
    have y0 : w_.cell? ⟨A, 0, none⟩ = some (.int .i64 va) := row_cell rA 0
    have y1 : w_.cell? ⟨A, 1, none⟩ = some (.int .i64 vf) := row_cell rA 1
    have y2 : w_.cell? ⟨A, 2, none⟩ = some (.int .i64 vt) := row_cell rA 2
    have y3 : w_.cell? ⟨A, 3, none⟩ = some (.int .i64 vs) := row_cell rA 3
    have z0 : w_.cell? ⟨D, 0, none⟩ = some (.int .i64 ua) := row_cell rD 0
    have z1 : w_.cell? ⟨D, 1, none⟩ = some (.int .i64 uf) := row_cell rD 1
    have z2 : w_.cell? ⟨D, 2, none⟩ = some (.int .i64 ut) := row_cell rD 2
    have z3 : w_.cell? ⟨D, 3, none⟩ = some (.int .i64 us) := row_cell rD 3
    clear hri hall e rA rD g0 g1 g2 g3 HV HU HSL hz
    rcases hcase with ⟨rfl, rfl, rfl, rfl, rfl⟩ | ⟨rfl, rfl, rfl, rfl, uf0, uak⟩ | ⟨vf0, rfl, rfl, rfl, rfl, va0, vak⟩
    · go_wp2_with fail
      refine (known_any _ HZw.out).mono ?_
      rintro x w6 ⟨rfl, hb6⟩
      have HB6 := Lib.hid (HBw.out.trans (hb6.mono HBw.out.size))
      clear hb6
      go_wp2
      go_returns
      exact ⟨rfl, HB6.out⟩
    · go_wp2_with fail
      refine (known_any _ HZw.out).mono ?_
      rintro x w6 ⟨rfl, hb6⟩
      have HB6 := Lib.hid (HBw.out.trans (hb6.mono HBw.out.size))
      clear hb6
      go_wp2
      go_returns
      exact ⟨rfl, HB6.out⟩
    · go_wp2_with fail
      refine (known_any _ HZw.out).mono ?_
      rintro x w6 ⟨rfl, hb6⟩
      have HB6 := Lib.hid (HBw.out.trans (hb6.mono HBw.out.size))
      clear hb6
      go_wp2
      go_returns
      exact ⟨rfl, HB6.out⟩
end Go.Proofs.YtejfcmgnacimgaaDoor
