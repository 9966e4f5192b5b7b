/- The law ModelNil: the walk. -/
import Derived.Test.YtphfcfnbefikiaaN1
import Derived.Test.YtphfcfnbefikiaaF2
import Derived.BigGuardPartIn
namespace Go.Proofs.Ytphfcfnbefikiaa
open Go.RowKit Go.Shelf
set_option linter.unusedVariables false
set_option linter.unusedSimpArgs false
attribute [local go_sem] Oper.semAt_some

theorem mis_same {x y : Option Addr} {w : World} (hx : Mis x w) (hy : Mis y w) : Calls Try.prog 22 #[.pointer x, .pointer y] w fun e w' => e = .returned (.bool true) ∧ Below w.heap.size w w' := by
  have C1 := Lib.hid (mis_client hx)
  have C2 := Lib.hid (mis_client hy)
  have T1 := Lib.hid (mis_things w hx)
  have T2 := Lib.hid (fun (W : World) (hb : Below w.heap.size w W) => mis_things W (hy.below hb))
  clear hx hy
  go_enter Try.func22, Try.ntmps22
  go_wp2_with fail
  refine C1.out.mono ?_
  rintro e w1 ⟨rfl, rfl⟩
  go_wp2_with fail
  refine C2.out.mono ?_
  rintro e w1 ⟨rfl, rfl⟩
  go_wp2_with fail
  refine T1.out.mono ?_
  rintro e w1 ⟨rfl, hb1⟩
  go_wp2_with fail
  refine (T2.out _ hb1).mono ?_
  rintro e w2 ⟨rfl, hb2⟩
  go_wp2_with fail
  refine (equal_any w2 (nothing_in w2) (nothing_in w2) (by decide)).mono ?_
  rintro e w3 ⟨rfl, hb3⟩
  rw [show decide (([] : List Th) = []) = true from rfl]
  go_wp2
  go_returns
  exact ⟨rfl, hb1.trans ((hb2.trans (hb3.mono hb2.size)).mono hb1.size)⟩

theorem eqlF (v : Value) (w : World) : (binOp .eql 57 (.func (.func 35) #[] #[v]) .nilFunc).run Try.prog w = .ok (.bool false) w := by kernel_rfl

def IB (w0 : World) (_ : List Th) (W : World) : Prop := Below w0.heap.size w0 W
theorem ib_own (w0 : World) : OwnFrom w0.heap.size (IB w0) := fun pre W W' row h hg hr => Below.grown h hg h.size (fun k e => (hr k e).1)

def VN : Nat → Value → Prop
  | 0, v => v = .pointer none
  | 1, v => v = .agg #[.int .i64 1, .bool false, .int .u64 0]
  | 2, v => v = .int .i64 1
  | 3, v => v = .bool true
  | 4, v => v = .bool true
  | 5, v => v = .agg #[.int .i64 1, .bool false, .int .u64 0]
  | 6, v => v = .int .i64 1
  | 7, v => v = .bool true
  | 8, v => v = .bool true
  | 9, v => v = .bool true
  | 10, v => v = .pointer none
  | 11, v => v = .int .i64 0
  | 12, v => v = .bool true
  | 13, v => v = .bool true
  | 14, v => v = .bool true
  | 15, v => v = .int .i64 0
  | 16, v => v = .bool true
  | 17, v => v = .bool true
  | 18, v => v = .bool true
  | 19, v => v = .int .i64 0
  | 20, v => v = .pointer none
  | 21, v => v = .int .i64 0
  | 22, v => v = .int .i64 0
  | 23, v => v = .int .i64 0
  | 24, v => v = .int .i64 0
  | 25, v => v = .pointer none
  | 26, v => v = .slice none 0 0
  | 27, v => v = .int .i64 0
  | 28, v => v = .int .i64 0
  | 29, v => v = .bool true
  | 30, v => v = .bool true
  | 31, v => v = .bool true
  | 32, v => v = .pointer none
  | 33, v => v = .pointer none
  | 34, v => v = .bool true
  | 35, v => v = .bool true
  | 36, v => v = .bool true
  | 37, v => v = .pointer none
  | 38, v => v = .bool true
  | 39, v => v = .bool true
  | 40, v => v = .bool true
  | 41, v => v = .pointer none
  | 42, v => v = .bool true
  | 43, v => v = .bool true
  | 44, v => v = .bool true
  | 45, v => v = .bool true
  | 46, v => v = .bool true
  | 47, v => v = .bool true
  | _, v => True

set_option maxHeartbeats 8000000 in
set_option maxRecDepth 100000 in
theorem law_nil (w : World) : Calls Try.prog 8 #[] w fun e w' => e = .returned (.bool true) ∧ Below w.heap.size w w' := by
  refine (callsIn_wide (n := 6)).1 ?_
  have f23 : Fence.wide.fn 23 := trivial
  have FN := eqlF
  refine callsIn_of_wp_marks Try.func8 rfl trivial ?_ rfl
  simp only [Try.ntmps8, List.size_toArray, List.length_cons, List.length_nil, Nat.reduceAdd, Nat.reduceSub, Array.replicate_succ, Array.replicate_zero, List.push_toArray, List.append_toArray, List.nil_append, List.cons_append]
  gi_wp2_with (gi_at_call 23; refine (callsIn_wide.2 (all_any _ _)).mono ?_; rintro e w1 ⟨rfl, rfl⟩)
  obtain ⟨W0, hW0⟩ : ∃ W0, ((((w.alloc (.cells #[.int .i64 0, .pointer none] 63)).alloc (.cells #[.int .i64 0] 3)).alloc (.cells #[.pointer none] 26)).alloc (.cells #[.pointer (some ⟨w.heap.size, 0, none⟩)] 26)).alloc (.cells #[.pointer none] 26) = W0 := ⟨_, rfl⟩
  have hA : Below w.heap.size w W0 := by rw [← hW0]; go_grown
  have hZ : Mis (some ⟨w.heap.size, 0, none⟩) W0 := .inr ⟨_, rfl, by rw [← hW0]; simp [go_sem]⟩
  have hT : W0.cell? ⟨w.heap.size + 1, 0, none⟩ = some (.int .i64 0) := by rw [← hW0]; simp [go_sem]
  have hF : W0.cell? ⟨w.heap.size + 1 + 1 + 1 + 1, 0, none⟩ = some (.pointer none) := by rw [← hW0]; simp [go_sem]
  rw [hW0]
  clear hW0
  refine wpIn_rangeFunc_ownH rfl (by omega) (gf := 35) (lb := #[P (w.heap.size + 1 + 1 + 1 + 1)]) rfl trivial (enters_of Try.func35 (by kernel_rfl) rfl)
    (none_stops 5 (by omega) _ none W0 hF (.inl rfl)) (fun _ _ => trivial) (fun _ _ _ _ _ _ _ _ => trivial) (Below.refl _ _) (fun _ => rfl)
    (IB W0) (fun _ _ _ => False) (ib_own W0) (fun _ _ _ _ _ hs _ _ => hs)
    (Below.refl _ _) (fun _ _ _ => True) (fun _ _ _ _ _ _ _ _ _ => trivial)
    ?assign ?body ?done ?stop
  case assign =>
    intro l pre x W K hI hK
    gi_wp2
    exact hK _ _ ((KeepsOthers.refl _).from _) trivial hI trivial
  case body =>
    rintro l pre x a' W hl - - - hlt
    omega
  case stop =>
    rintro D c' pre W _ h _ _
    exact h.elim
  case done =>
    rintro D1 ys W1 hD1 rfl hI1 hK1
    have hZ1 := hZ.below hI1
    have hT1 := keep hI1 hT
    have hA1 : Below w.heap.size w W1 := hA.trans (Below.mono hI1 hA.size)
    have hD1' : w.heap.size ≤ D1 := Nat.le_trans hA.size hD1
    clear hI1 hZ hT hF hA hD1
    gi_wp2_with (gi_at_call 23; refine (callsIn_wide.2 (all_any _ _)).mono ?_; rintro e w1 ⟨rfl, rfl⟩)
    have hS : Below W1.heap.size W1 (W1.alloc (.cells #[.pointer (some ⟨w.heap.size, 0, none⟩)] 26)) := by go_grown
    have hF : (W1.alloc (.cells #[.pointer (some ⟨w.heap.size, 0, none⟩)] 26)).cell? ⟨W1.heap.size, 0, none⟩ = some (.pointer (some ⟨w.heap.size, 0, none⟩)) := by simp [go_sem]
    have hZ2 := hZ1.below hS
    have hT2 := keep hS hT1
    have hK2 := (hS.block _ (Array.getElem?_eq_some_iff.1 hK1).1).trans hK1
    have hA2 : Below w.heap.size w (W1.alloc (.cells #[.pointer (some ⟨w.heap.size, 0, none⟩)] 26)) := hA1.trans (hS.mono hA1.size)
    generalize W1.alloc (.cells #[.pointer (some ⟨w.heap.size, 0, none⟩)] 26) = W2 at *
    generalize W1.heap.size = B2 at *
    clear hS hK1 hZ1 hT1 hA1
    refine wpIn_rangeFunc_ownH rfl (by omega) (gf := 35) (lb := #[P B2]) rfl trivial (enters_of Try.func35 (by kernel_rfl) rfl)
      (none_stops 5 (by omega) _ _ W2 hF hZ2) (fun _ _ => trivial) (fun _ _ _ _ _ _ _ _ => trivial) (Below.refl _ _) (fun _ => rfl)
      (IB W2) (fun _ _ _ => False) (ib_own W2) (fun _ _ _ _ _ hs _ _ => hs)
      (Below.refl _ _) (fun _ _ _ => True) (fun _ _ _ _ _ _ _ _ _ => trivial)
      ?assign ?body ?done ?stop
    case assign =>
      intro l pre x W K hI hK
      gi_wp2
      exact hK _ _ ((KeepsOthers.refl _).from _) trivial hI trivial
    case body =>
      rintro l pre x a' W hl - - - hlt
      omega
    case stop =>
      rintro D c' pre W _ h _ _
      exact h.elim
    case done =>
      rintro D2 ys W3 hD2 rfl hI3 hE2
      have hZ3 := Lib.hid (hZ2.below hI3)
      have hT3 := keep hI3 hT2
      have hE1 := (Below.block hI3 _ (Array.getElem?_eq_some_iff.1 hK2).1).trans hK2
      have hA3 : Below w.heap.size w W3 := hA2.trans (Below.mono hI3 hA2.size)
      have hD2' : w.heap.size ≤ D2 := Nat.le_trans hA2.size hD2
      have hne : D1 ≠ D2 := by have := (Array.getElem?_eq_some_iff.1 hK2).1; omega
      have HE := Lib.hid (And.intro hE1 (And.intro hE2 hne))
      clear hI3 hZ2 hT2 hK2 hA2 hF hD2 hE1 hE2 hne
      gi_wp2
      refine wpIn_wide.2 (wp_region_state (by kernel_rfl) (fun y => ⟨#[y 47, Value.pointer none, Value.pointer (some ⟨w.heap.size, 0, none⟩), Value.pointer (some ⟨w.heap.size + 1, 0, none⟩), Value.pointer none, Value.func (Fn.func 35) #[] #[P (w.heap.size + 1 + 1)], Value.bool false, Value.bool false, Value.func (Fn.func 35) #[] #[P (w.heap.size + 1 + 1 + 1)], Value.bool false, Value.bool false, Value.pointer none, Value.func (Fn.func 35) #[] #[P (w.heap.size + 1 + 1 + 1 + 1)], undef, undef, undef, Value.func (Fn.func 35) #[] #[P B2], undef, undef, undef, y 0, y 1, y 2, y 3, y 4, y 5, y 6, y 7, y 8, y 9, y 10, y 11, y 12, y 13, y 14, y 15, y 16, y 17, y 18, y 19, y 20, y 21, y 22, y 23, y 24, y 25, y 26, y 27, y 28, y 29, y 30, y 31, y 32, y 33, y 34, y 35, y 36, y 37, y 38, y 39, y 40, y 41, y 42, y 43, y 44, y 45, y 46], [{ target := .collected D2, args := #[] }, { target := .collected D1, args := #[] }]⟩) VN (fun _ W => Below W3.heap.size W3 W) (fun j => if j = 47 then .bool false else undef) (back_of (by kernel_rfl)) (below_drewN _ _ 1) ?_ ?_)
      · intro i oo ho l y wx hl hli hbx hpre
        have hi : i < 48 := (Array.getElem?_eq_some_iff.1 ho).1
        clear hl
        rcases (show i = 0 ∨ i = 1 ∨ i = 2 ∨ i = 3 ∨ i = 4 ∨ i = 5 ∨ i = 6 ∨ i = 7 ∨ i = 8 ∨ i = 9 ∨ i = 10 ∨ i = 11 ∨ i = 12 ∨ i = 13 ∨ i = 14 ∨ i = 15 ∨ i = 16 ∨ i = 17 ∨ i = 18 ∨ i = 19 ∨ i = 20 ∨ i = 21 ∨ i = 22 ∨ i = 23 ∨ i = 24 ∨ i = 25 ∨ i = 26 ∨ i = 27 ∨ i = 28 ∨ i = 29 ∨ i = 30 ∨ i = 31 ∨ i = 32 ∨ i = 33 ∨ i = 34 ∨ i = 35 ∨ i = 36 ∨ i = 37 ∨ i = 38 ∨ i = 39 ∨ i = 40 ∨ i = 41 ∨ i = 42 ∨ i = 43 ∨ i = 44 ∨ i = 45 ∨ i = 46 ∨ i = 47 by omega) with rfl | rfl | rfl | rfl | rfl | rfl | rfl | rfl | rfl | rfl | rfl | rfl | rfl | rfl | rfl | rfl | rfl | rfl | rfl | rfl | rfl | rfl | rfl | rfl | rfl | rfl | rfl | rfl | rfl | rfl | rfl | rfl | rfl | rfl | rfl | rfl | rfl | rfl | rfl | rfl | rfl | rfl | rfl | rfl | rfl | rfl | rfl | rfl
        · obtain rfl := Option.some.inj ho
          clear hpre ho
          have HZX := Lib.hid (hZ3.out.below hbx)
          clear hT3
          refine wpOp_step rfl (fun K hK => ?_)
          simp only [upd, reduceIte, Nat.reduceEqDiff]
          go_simp
          exact hK _ _ ⟨_, rfl, rfl, hbx⟩
        · obtain rfl := Option.some.inj ho
          have e0 := (hpre ⟨0, .data⟩ (by simp) rfl).1
          clear hpre ho
          rw [upd_of e0]
          clear e0
          have HZX := Lib.hid (hZ3.out.below hbx)
          clear hT3
          refine wpOp_step rfl (fun K hK => ?_)
          simp only [upd, reduceIte, Nat.reduceEqDiff]
          go_simp
          go_wp2_with (go_at_call 16; refine (mis_do (.inl rfl) _ _ _).mono ?_; rintro e w7 ⟨rfl, hb7⟩)
          exact ⟨_, rfl, rfl, hbx.trans (hb7.mono hbx.size)⟩
        · obtain rfl := Option.some.inj ho
          have e1 := (hpre ⟨1, .data⟩ (by simp) rfl).1
          clear hpre ho
          rw [upd_of e1]
          clear e1
          have HZX := Lib.hid (hZ3.out.below hbx)
          clear hT3
          refine wpOp_step rfl (fun K hK => ?_)
          simp only [upd, reduceIte, Nat.reduceEqDiff]
          have FI := field40
          go_simp
          exact hK _ _ ⟨_, rfl, rfl, hbx⟩
        · obtain rfl := Option.some.inj ho
          have e2 := (hpre ⟨2, .data⟩ (by simp) rfl).1
          clear hpre ho
          rw [upd_of e2]
          clear e2
          have HZX := Lib.hid (hZ3.out.below hbx)
          clear hT3
          refine wpOp_step rfl (fun K hK => ?_)
          simp only [upd, reduceIte, Nat.reduceEqDiff]
          go_simp
          exact hK _ _ ⟨_, rfl, rfl, hbx⟩
        · obtain rfl := Option.some.inj ho
          have e3 := (hpre ⟨3, .data⟩ (by simp) rfl).1
          clear hpre ho
          rw [upd_of e3]
          clear e3
          have HZX := Lib.hid (hZ3.out.below hbx)
          clear hT3
          refine wpOp_step rfl (fun K hK => ?_)
          simp only [upd, reduceIte, Nat.reduceEqDiff]
          go_simp
          exact hK _ _ ⟨_, rfl, rfl, hbx⟩
        · obtain rfl := Option.some.inj ho
          have e4 := (hpre ⟨4, .guard⟩ (by simp) rfl).1
          clear hpre ho
          rw [upd_of e4]
          clear e4
          have HZX := Lib.hid (hZ3.out.below hbx)
          clear hT3
          refine wpOp_step rfl (fun K hK => ?_)
          simp only [upd, reduceIte, Nat.reduceEqDiff]
          go_simp
          go_wp2_with (go_at_call 16; refine (mis_do (HZX.out) _ _ _).mono ?_; rintro e w7 ⟨rfl, hb7⟩)
          exact ⟨_, rfl, rfl, hbx.trans (hb7.mono hbx.size)⟩
        · obtain rfl := Option.some.inj ho
          have e5 := (hpre ⟨5, .data⟩ (by simp) rfl).1
          have e4 := (hpre ⟨4, .guard⟩ (by simp) rfl).1
          clear hpre ho
          rw [upd_of e5]
          rw [upd_of e4]
          clear e5 e4
          have HZX := Lib.hid (hZ3.out.below hbx)
          clear hT3
          refine wpOp_step rfl (fun K hK => ?_)
          simp only [upd, reduceIte, Nat.reduceEqDiff]
          have FI := field40
          go_simp
          exact hK _ _ ⟨_, rfl, rfl, hbx⟩
        · obtain rfl := Option.some.inj ho
          have e6 := (hpre ⟨6, .data⟩ (by simp) rfl).1
          have e4 := (hpre ⟨4, .guard⟩ (by simp) rfl).1
          clear hpre ho
          rw [upd_of e6]
          rw [upd_of e4]
          clear e6 e4
          have HZX := Lib.hid (hZ3.out.below hbx)
          clear hT3
          refine wpOp_step rfl (fun K hK => ?_)
          simp only [upd, reduceIte, Nat.reduceEqDiff]
          go_simp
          exact hK _ _ ⟨_, rfl, rfl, hbx⟩
        · obtain rfl := Option.some.inj ho
          have e4 := (hpre ⟨4, .data⟩ (by simp) rfl).1
          have e7 := (hpre ⟨7, .data⟩ (by simp) rfl).1
          clear hpre ho
          rw [upd_of e4]
          rw [upd_of e7]
          clear e4 e7
          have HZX := Lib.hid (hZ3.out.below hbx)
          clear hT3
          refine wpOp_step rfl (fun K hK => ?_)
          simp only [upd, reduceIte, Nat.reduceEqDiff]
          go_simp
          exact hK _ _ ⟨_, rfl, rfl, hbx⟩
        · obtain rfl := Option.some.inj ho
          have e8 := (hpre ⟨8, .data⟩ (by simp) rfl).1
          clear hpre ho
          rw [upd_of e8]
          clear e8
          have HZX := Lib.hid (hZ3.out.below hbx)
          clear hT3
          refine wpOp_step rfl (fun K hK => ?_)
          simp only [upd, reduceIte, Nat.reduceEqDiff]
          go_simp
          exact hK _ _ ⟨_, rfl, rfl, hbx⟩
        · obtain rfl := Option.some.inj ho
          have e9 := (hpre ⟨9, .guard⟩ (by simp) rfl).1
          clear hpre ho
          rw [upd_of e9]
          clear e9
          have HZX := Lib.hid (hZ3.out.below hbx)
          clear hT3
          refine wpOp_step rfl (fun K hK => ?_)
          simp only [upd, reduceIte, Nat.reduceEqDiff]
          go_simp
          exact hK _ _ ⟨_, rfl, rfl, hbx⟩
        · obtain rfl := Option.some.inj ho
          have e10 := (hpre ⟨10, .data⟩ (by simp) rfl).1
          have e9 := (hpre ⟨9, .guard⟩ (by simp) rfl).1
          clear hpre ho
          rw [upd_of e10]
          rw [upd_of e9]
          clear e10 e9
          have HZX := Lib.hid (hZ3.out.below hbx)
          clear hT3
          refine wpOp_step rfl (fun K hK => ?_)
          simp only [upd, reduceIte, Nat.reduceEqDiff]
          go_simp
          go_wp2_with (go_at_call 27; refine (mis_client (.inl rfl)).mono ?_; rintro e w7 ⟨rfl, rfl⟩)
          exact ⟨_, rfl, rfl, hbx⟩
        · obtain rfl := Option.some.inj ho
          have e11 := (hpre ⟨11, .data⟩ (by simp) rfl).1
          have e9 := (hpre ⟨9, .guard⟩ (by simp) rfl).1
          clear hpre ho
          rw [upd_of e11]
          rw [upd_of e9]
          clear e11 e9
          have HZX := Lib.hid (hZ3.out.below hbx)
          clear hT3
          refine wpOp_step rfl (fun K hK => ?_)
          simp only [upd, reduceIte, Nat.reduceEqDiff]
          go_simp
          exact hK _ _ ⟨_, rfl, rfl, hbx⟩
        · obtain rfl := Option.some.inj ho
          have e9 := (hpre ⟨9, .data⟩ (by simp) rfl).1
          have e12 := (hpre ⟨12, .data⟩ (by simp) rfl).1
          clear hpre ho
          rw [upd_of e9]
          rw [upd_of e12]
          clear e9 e12
          have HZX := Lib.hid (hZ3.out.below hbx)
          clear hT3
          refine wpOp_step rfl (fun K hK => ?_)
          simp only [upd, reduceIte, Nat.reduceEqDiff]
          go_simp
          exact hK _ _ ⟨_, rfl, rfl, hbx⟩
        · obtain rfl := Option.some.inj ho
          have e13 := (hpre ⟨13, .data⟩ (by simp) rfl).1
          clear hpre ho
          rw [upd_of e13]
          clear e13
          have HZX := Lib.hid (hZ3.out.below hbx)
          clear hT3
          refine wpOp_step rfl (fun K hK => ?_)
          simp only [upd, reduceIte, Nat.reduceEqDiff]
          go_simp
          exact hK _ _ ⟨_, rfl, rfl, hbx⟩
        · obtain rfl := Option.some.inj ho
          have e14 := (hpre ⟨14, .guard⟩ (by simp) rfl).1
          clear hpre ho
          rw [upd_of e14]
          clear e14
          have HZX := Lib.hid (hZ3.out.below hbx)
          clear hT3
          refine wpOp_step rfl (fun K hK => ?_)
          simp only [upd, reduceIte, Nat.reduceEqDiff]
          go_simp
          go_wp2_with (go_at_call 27; refine (mis_client (HZX.out)).mono ?_; rintro e w7 ⟨rfl, rfl⟩)
          exact ⟨_, rfl, rfl, hbx⟩
        · obtain rfl := Option.some.inj ho
          have e15 := (hpre ⟨15, .data⟩ (by simp) rfl).1
          have e14 := (hpre ⟨14, .guard⟩ (by simp) rfl).1
          clear hpre ho
          rw [upd_of e15]
          rw [upd_of e14]
          clear e15 e14
          have HZX := Lib.hid (hZ3.out.below hbx)
          clear hT3
          refine wpOp_step rfl (fun K hK => ?_)
          simp only [upd, reduceIte, Nat.reduceEqDiff]
          go_simp
          exact hK _ _ ⟨_, rfl, rfl, hbx⟩
        · obtain rfl := Option.some.inj ho
          have e14 := (hpre ⟨14, .data⟩ (by simp) rfl).1
          have e16 := (hpre ⟨16, .data⟩ (by simp) rfl).1
          clear hpre ho
          rw [upd_of e14]
          rw [upd_of e16]
          clear e14 e16
          have HZX := Lib.hid (hZ3.out.below hbx)
          clear hT3
          refine wpOp_step rfl (fun K hK => ?_)
          simp only [upd, reduceIte, Nat.reduceEqDiff]
          go_simp
          exact hK _ _ ⟨_, rfl, rfl, hbx⟩
        · obtain rfl := Option.some.inj ho
          have e17 := (hpre ⟨17, .data⟩ (by simp) rfl).1
          clear hpre ho
          rw [upd_of e17]
          clear e17
          have HZX := Lib.hid (hZ3.out.below hbx)
          clear hT3
          refine wpOp_step rfl (fun K hK => ?_)
          simp only [upd, reduceIte, Nat.reduceEqDiff]
          go_simp
          exact hK _ _ ⟨_, rfl, rfl, hbx⟩
        · obtain rfl := Option.some.inj ho
          have e18 := (hpre ⟨18, .guard⟩ (by simp) rfl).1
          clear hpre ho
          rw [upd_of e18]
          clear e18
          have t0 := keep hbx hT3
          have HZX := Lib.hid (hZ3.out.below hbx)
          clear hT3
          refine wpOp_step rfl (fun K hK => ?_)
          simp only [upd, reduceIte, Nat.reduceEqDiff]
          go_simp
          exact hK _ _ ⟨_, rfl, rfl, hbx⟩
        · obtain rfl := Option.some.inj ho
          have e18 := (hpre ⟨18, .guard⟩ (by simp) rfl).1
          clear hpre ho
          rw [upd_of e18]
          clear e18
          have HZX := Lib.hid (hZ3.out.below hbx)
          clear hT3
          refine wpOp_step rfl (fun K hK => ?_)
          simp only [upd, reduceIte, Nat.reduceEqDiff]
          go_simp
          exact hK _ _ ⟨_, rfl, rfl, hbx⟩
        · obtain rfl := Option.some.inj ho
          have e20 := (hpre ⟨20, .data⟩ (by simp) rfl).1
          have e18 := (hpre ⟨18, .guard⟩ (by simp) rfl).1
          clear hpre ho
          rw [upd_of e20]
          rw [upd_of e18]
          clear e20 e18
          have HZX := Lib.hid (hZ3.out.below hbx)
          clear hT3
          refine wpOp_step rfl (fun K hK => ?_)
          simp only [upd, reduceIte, Nat.reduceEqDiff]
          go_simp
          go_wp2_with (go_at_call 18; refine (mis_len (.inl rfl)).mono ?_; rintro e w7 ⟨rfl, rfl⟩)
          exact ⟨_, rfl, rfl, hbx⟩
        · obtain rfl := Option.some.inj ho
          have e19 := (hpre ⟨19, .data⟩ (by simp) rfl).1
          have e21 := (hpre ⟨21, .data⟩ (by simp) rfl).1
          have e18 := (hpre ⟨18, .guard⟩ (by simp) rfl).1
          clear hpre ho
          rw [upd_of e19]
          rw [upd_of e21]
          rw [upd_of e18]
          clear e19 e21 e18
          have HZX := Lib.hid (hZ3.out.below hbx)
          clear hT3
          refine wpOp_step rfl (fun K hK => ?_)
          simp only [upd, reduceIte, Nat.reduceEqDiff]
          go_simp
          exact hK _ _ ⟨_, rfl, rfl, hbx⟩
        · obtain rfl := Option.some.inj ho
          have e18 := (hpre ⟨18, .guard⟩ (by simp) rfl).1
          clear hpre ho
          rw [upd_of e18]
          clear e18
          have HZX := Lib.hid (hZ3.out.below hbx)
          clear hT3
          refine wpOp_step rfl (fun K hK => ?_)
          simp only [upd, reduceIte, Nat.reduceEqDiff]
          go_simp
          go_wp2_with (go_at_call 18; refine (mis_len (HZX.out)).mono ?_; rintro e w7 ⟨rfl, rfl⟩)
          exact ⟨_, rfl, rfl, hbx⟩
        · obtain rfl := Option.some.inj ho
          have e22 := (hpre ⟨22, .data⟩ (by simp) rfl).1
          have e23 := (hpre ⟨23, .data⟩ (by simp) rfl).1
          have e18 := (hpre ⟨18, .guard⟩ (by simp) rfl).1
          clear hpre ho
          rw [upd_of e22]
          rw [upd_of e23]
          rw [upd_of e18]
          clear e22 e23 e18
          have HZX := Lib.hid (hZ3.out.below hbx)
          clear hT3
          refine wpOp_step rfl (fun K hK => ?_)
          simp only [upd, reduceIte, Nat.reduceEqDiff]
          go_simp
          exact hK _ _ ⟨_, rfl, rfl, hbx⟩
        · obtain rfl := Option.some.inj ho
          have e18 := (hpre ⟨18, .guard⟩ (by simp) rfl).1
          clear hpre ho
          rw [upd_of e18]
          clear e18
          have HZX := Lib.hid (hZ3.out.below hbx)
          clear hT3
          refine wpOp_step rfl (fun K hK => ?_)
          simp only [upd, reduceIte, Nat.reduceEqDiff]
          go_simp
          exact hK _ _ ⟨_, rfl, rfl, hbx⟩
        · obtain rfl := Option.some.inj ho
          have e25 := (hpre ⟨25, .data⟩ (by simp) rfl).1
          have e18 := (hpre ⟨18, .guard⟩ (by simp) rfl).1
          clear hpre ho
          rw [upd_of e25]
          rw [upd_of e18]
          clear e25 e18
          have HZX := Lib.hid (hZ3.out.below hbx)
          clear hT3
          refine wpOp_step rfl (fun K hK => ?_)
          simp only [upd, reduceIte, Nat.reduceEqDiff]
          go_simp
          go_wp2_with (go_at_call 25; refine (mis_things _ (.inl rfl)).mono ?_; rintro e w7 ⟨rfl, hb7⟩)
          exact ⟨_, rfl, rfl, hbx.trans (hb7.mono hbx.size)⟩
        · obtain rfl := Option.some.inj ho
          have e26 := (hpre ⟨26, .data⟩ (by simp) rfl).1
          have e18 := (hpre ⟨18, .guard⟩ (by simp) rfl).1
          clear hpre ho
          rw [upd_of e26]
          rw [upd_of e18]
          clear e26 e18
          have HZX := Lib.hid (hZ3.out.below hbx)
          clear hT3
          refine wpOp_step rfl (fun K hK => ?_)
          simp only [upd, reduceIte, Nat.reduceEqDiff]
          go_simp
          exact hK _ _ ⟨_, rfl, rfl, hbx⟩
        · obtain rfl := Option.some.inj ho
          have e24 := (hpre ⟨24, .data⟩ (by simp) rfl).1
          have e27 := (hpre ⟨27, .data⟩ (by simp) rfl).1
          have e18 := (hpre ⟨18, .guard⟩ (by simp) rfl).1
          clear hpre ho
          rw [upd_of e24]
          rw [upd_of e27]
          rw [upd_of e18]
          clear e24 e27 e18
          have HZX := Lib.hid (hZ3.out.below hbx)
          clear hT3
          refine wpOp_step rfl (fun K hK => ?_)
          simp only [upd, reduceIte, Nat.reduceEqDiff]
          go_simp
          exact hK _ _ ⟨_, rfl, rfl, hbx⟩
        · obtain rfl := Option.some.inj ho
          have e28 := (hpre ⟨28, .data⟩ (by simp) rfl).1
          have e18 := (hpre ⟨18, .guard⟩ (by simp) rfl).1
          clear hpre ho
          rw [upd_of e28]
          rw [upd_of e18]
          clear e28 e18
          have HZX := Lib.hid (hZ3.out.below hbx)
          clear hT3
          refine wpOp_step rfl (fun K hK => ?_)
          simp only [upd, reduceIte, Nat.reduceEqDiff]
          go_simp
          exact hK _ _ ⟨_, rfl, rfl, hbx⟩
        · obtain rfl := Option.some.inj ho
          have e18 := (hpre ⟨18, .data⟩ (by simp) rfl).1
          have e29 := (hpre ⟨29, .data⟩ (by simp) rfl).1
          clear hpre ho
          rw [upd_of e18]
          rw [upd_of e29]
          clear e18 e29
          have HZX := Lib.hid (hZ3.out.below hbx)
          clear hT3
          refine wpOp_step rfl (fun K hK => ?_)
          simp only [upd, reduceIte, Nat.reduceEqDiff]
          go_simp
          exact hK _ _ ⟨_, rfl, rfl, hbx⟩
        · obtain rfl := Option.some.inj ho
          have e30 := (hpre ⟨30, .data⟩ (by simp) rfl).1
          clear hpre ho
          rw [upd_of e30]
          clear e30
          have HZX := Lib.hid (hZ3.out.below hbx)
          clear hT3
          refine wpOp_step rfl (fun K hK => ?_)
          simp only [upd, reduceIte, Nat.reduceEqDiff]
          go_simp
          exact hK _ _ ⟨_, rfl, rfl, hbx⟩
        · obtain rfl := Option.some.inj ho
          have e31 := (hpre ⟨31, .guard⟩ (by simp) rfl).1
          clear hpre ho
          rw [upd_of e31]
          clear e31
          have HZX := Lib.hid (hZ3.out.below hbx)
          clear hT3
          refine wpOp_step rfl (fun K hK => ?_)
          simp only [upd, reduceIte, Nat.reduceEqDiff]
          go_simp
          exact hK _ _ ⟨_, rfl, rfl, hbx⟩
        · obtain rfl := Option.some.inj ho
          have e32 := (hpre ⟨32, .data⟩ (by simp) rfl).1
          have e31 := (hpre ⟨31, .guard⟩ (by simp) rfl).1
          clear hpre ho
          rw [upd_of e32]
          rw [upd_of e31]
          clear e32 e31
          have HZX := Lib.hid (hZ3.out.below hbx)
          clear hT3
          refine wpOp_step rfl (fun K hK => ?_)
          simp only [upd, reduceIte, Nat.reduceEqDiff]
          go_simp
          go_wp2_with (go_at_call 20; refine (mis_copy (.inl rfl)).mono ?_; rintro e w7 ⟨rfl, rfl⟩)
          exact ⟨_, rfl, rfl, hbx⟩
        · obtain rfl := Option.some.inj ho
          have e33 := (hpre ⟨33, .data⟩ (by simp) rfl).1
          have e31 := (hpre ⟨31, .guard⟩ (by simp) rfl).1
          clear hpre ho
          rw [upd_of e33]
          rw [upd_of e31]
          clear e33 e31
          have HZX := Lib.hid (hZ3.out.below hbx)
          clear hT3
          refine wpOp_step rfl (fun K hK => ?_)
          simp only [upd, reduceIte, Nat.reduceEqDiff]
          go_simp
          exact hK _ _ ⟨_, rfl, rfl, hbx⟩
        · obtain rfl := Option.some.inj ho
          have e31 := (hpre ⟨31, .data⟩ (by simp) rfl).1
          have e34 := (hpre ⟨34, .data⟩ (by simp) rfl).1
          clear hpre ho
          rw [upd_of e31]
          rw [upd_of e34]
          clear e31 e34
          have HZX := Lib.hid (hZ3.out.below hbx)
          clear hT3
          refine wpOp_step rfl (fun K hK => ?_)
          simp only [upd, reduceIte, Nat.reduceEqDiff]
          go_simp
          exact hK _ _ ⟨_, rfl, rfl, hbx⟩
        · obtain rfl := Option.some.inj ho
          have e35 := (hpre ⟨35, .data⟩ (by simp) rfl).1
          clear hpre ho
          rw [upd_of e35]
          clear e35
          have HZX := Lib.hid (hZ3.out.below hbx)
          clear hT3
          refine wpOp_step rfl (fun K hK => ?_)
          simp only [upd, reduceIte, Nat.reduceEqDiff]
          go_simp
          exact hK _ _ ⟨_, rfl, rfl, hbx⟩
        · obtain rfl := Option.some.inj ho
          have e36 := (hpre ⟨36, .guard⟩ (by simp) rfl).1
          clear hpre ho
          rw [upd_of e36]
          clear e36
          have HZX := Lib.hid (hZ3.out.below hbx)
          clear hT3
          refine wpOp_step rfl (fun K hK => ?_)
          simp only [upd, reduceIte, Nat.reduceEqDiff]
          go_simp
          go_wp2_with (go_at_call 20; refine (mis_copy (HZX.out)).mono ?_; rintro e w7 ⟨rfl, rfl⟩)
          exact ⟨_, rfl, rfl, hbx⟩
        · obtain rfl := Option.some.inj ho
          have e37 := (hpre ⟨37, .data⟩ (by simp) rfl).1
          have e36 := (hpre ⟨36, .guard⟩ (by simp) rfl).1
          clear hpre ho
          rw [upd_of e37]
          rw [upd_of e36]
          clear e37 e36
          have HZX := Lib.hid (hZ3.out.below hbx)
          clear hT3
          refine wpOp_step rfl (fun K hK => ?_)
          simp only [upd, reduceIte, Nat.reduceEqDiff]
          go_simp
          exact hK _ _ ⟨_, rfl, rfl, hbx⟩
        · obtain rfl := Option.some.inj ho
          have e36 := (hpre ⟨36, .data⟩ (by simp) rfl).1
          have e38 := (hpre ⟨38, .data⟩ (by simp) rfl).1
          clear hpre ho
          rw [upd_of e36]
          rw [upd_of e38]
          clear e36 e38
          have HZX := Lib.hid (hZ3.out.below hbx)
          clear hT3
          refine wpOp_step rfl (fun K hK => ?_)
          simp only [upd, reduceIte, Nat.reduceEqDiff]
          go_simp
          exact hK _ _ ⟨_, rfl, rfl, hbx⟩
        · obtain rfl := Option.some.inj ho
          have e39 := (hpre ⟨39, .data⟩ (by simp) rfl).1
          clear hpre ho
          rw [upd_of e39]
          clear e39
          have HZX := Lib.hid (hZ3.out.below hbx)
          clear hT3
          refine wpOp_step rfl (fun K hK => ?_)
          simp only [upd, reduceIte, Nat.reduceEqDiff]
          go_simp
          exact hK _ _ ⟨_, rfl, rfl, hbx⟩
        · obtain rfl := Option.some.inj ho
          have e40 := (hpre ⟨40, .guard⟩ (by simp) rfl).1
          clear hpre ho
          rw [upd_of e40]
          clear e40
          have HZX := Lib.hid (hZ3.out.below hbx)
          clear hT3
          refine wpOp_step rfl (fun K hK => ?_)
          simp only [upd, reduceIte, Nat.reduceEqDiff]
          go_simp
          exact hK _ _ ⟨_, rfl, rfl, hbx⟩
        · obtain rfl := Option.some.inj ho
          have e41 := (hpre ⟨41, .data⟩ (by simp) rfl).1
          have e40 := (hpre ⟨40, .guard⟩ (by simp) rfl).1
          clear hpre ho
          rw [upd_of e41]
          rw [upd_of e40]
          clear e41 e40
          have HZX := Lib.hid (hZ3.out.below hbx)
          clear hT3
          refine wpOp_step rfl (fun K hK => ?_)
          simp only [upd, reduceIte, Nat.reduceEqDiff]
          go_simp
          go_wp2_with (go_at_call 22; refine (mis_same (.inl rfl) (HZX.out)).mono ?_; rintro e w7 ⟨rfl, hb7⟩)
          exact ⟨_, rfl, rfl, hbx.trans (hb7.mono hbx.size)⟩
        · obtain rfl := Option.some.inj ho
          have e40 := (hpre ⟨40, .data⟩ (by simp) rfl).1
          have e42 := (hpre ⟨42, .data⟩ (by simp) rfl).1
          clear hpre ho
          rw [upd_of e40]
          rw [upd_of e42]
          clear e40 e42
          have HZX := Lib.hid (hZ3.out.below hbx)
          clear hT3
          refine wpOp_step rfl (fun K hK => ?_)
          simp only [upd, reduceIte, Nat.reduceEqDiff]
          go_simp
          exact hK _ _ ⟨_, rfl, rfl, hbx⟩
        · obtain rfl := Option.some.inj ho
          have e43 := (hpre ⟨43, .data⟩ (by simp) rfl).1
          clear hpre ho
          rw [upd_of e43]
          clear e43
          have HZX := Lib.hid (hZ3.out.below hbx)
          clear hT3
          refine wpOp_step rfl (fun K hK => ?_)
          simp only [upd, reduceIte, Nat.reduceEqDiff]
          go_simp
          exact hK _ _ ⟨_, rfl, rfl, hbx⟩
        · obtain rfl := Option.some.inj ho
          have e44 := (hpre ⟨44, .guard⟩ (by simp) rfl).1
          clear hpre ho
          rw [upd_of e44]
          clear e44
          have HZX := Lib.hid (hZ3.out.below hbx)
          clear hT3
          refine wpOp_step rfl (fun K hK => ?_)
          simp only [upd, reduceIte, Nat.reduceEqDiff]
          go_simp
          go_wp2_with (go_at_call 10; refine (known_any _).mono ?_; rintro e w7 ⟨rfl, hb7⟩)
          exact ⟨_, rfl, rfl, hbx.trans (hb7.mono hbx.size)⟩
        · obtain rfl := Option.some.inj ho
          have e44 := (hpre ⟨44, .data⟩ (by simp) rfl).1
          have e45 := (hpre ⟨45, .data⟩ (by simp) rfl).1
          clear hpre ho
          rw [upd_of e44]
          rw [upd_of e45]
          clear e44 e45
          have HZX := Lib.hid (hZ3.out.below hbx)
          clear hT3
          refine wpOp_step rfl (fun K hK => ?_)
          simp only [upd, reduceIte, Nat.reduceEqDiff]
          go_simp
          exact hK _ _ ⟨_, rfl, rfl, hbx⟩
        · obtain rfl := Option.some.inj ho
          have e46 := (hpre ⟨46, .data⟩ (by simp) rfl).1
          clear hpre ho
          rw [upd_of e46]
          clear e46
          have HZX := Lib.hid (hZ3.out.below hbx)
          clear hT3
          refine wpOp_step rfl (fun K hK => ?_)
          simp only [upd, reduceIte, Nat.reduceEqDiff]
          go_simp
          exact hK _ _ ⟨_, rfl, rfl, hbx⟩
      · intro l y wx hbx hall
        have e47 := (hall 47 (by decide)).1
        rw [upd_of e47]
        clear e47 hall
        simp only [upd, reduceIte, Nat.reduceEqDiff]
        obtain ⟨x1, x2, x3⟩ := HE.out
        have k1 := (hbx.block _ (Array.getElem?_eq_some_iff.1 x1).1).trans x1
        have k2 := (hbx.block _ (Array.getElem?_eq_some_iff.1 x2).1).trans x2
        have hA4 : Below w.heap.size w wx := hA3.trans (hbx.mono hA3.size)
        have k3 : (wx.putObj D2 (.deferred none)).heap[D1]? = some (.deferred (some [])) := by rw [(grownBy_putObj' wx D2 _).block D1 (Array.getElem?_eq_some_iff.1 k1).1 (by simpa using x3)]; exact k1
        clear hbx x1 x2 k1 HE hZ3 hT3
        gi_wp2
        refine ⟨by simp, .inl ⟨_, _, rfl, run_takeDeferred k2, by simp, .inl ⟨_, _, rfl, run_takeDeferred k3, ?_⟩⟩⟩
        refine ⟨_, results_tmp rfl _ _ _, rfl, ?_⟩
        refine Below.grown (Below.grown hA4 (grownBy_putObj' wx D2 _) (by have := hA4.size; omega) (fun k e => by cases e; omega)) (grownBy_putObj' _ D1 _) (by have := hA4.size; simp; omega) (fun k e => by cases e; omega)
end Go.Proofs.Ytphfcfnbefikiaa
