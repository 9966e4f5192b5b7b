/- known: three objects, and what they answer. -/
import Derived.Test.YtphfcfnbefikiaaE1
import Derived.Test.YtphfcfnbefikiaaW1
namespace Go.Proofs.Ytphfcfnbefikiaa
open Go.RowKit
set_option linter.unusedVariables false
set_option linter.unusedSimpArgs false

theorem nothing_in (w : World) : ThsIn none 0 [] w := ⟨rfl, fun i t h => by simp at h⟩

def Bx (B : Nat) : Value := .pointer (some ⟨B, 0, none⟩)
/-- A stack, a queue and a map of code 5, with the answers that were kept. -/
def KK (w0 w : World) (X1 X2 X3 : Nat) (L1 L2 L3 : List Th) (bs : List (Nat × An)) : Prop :=
  ∃ H1 v1 H2 v2 H3 v3, K3 w0 w 1 2 5 X1 H1 v1 L1 X2 H2 v2 L2 X3 H3 v3 L3 bs
section
variable {w0 w w' : World} {X1 X2 X3 : Nat} {L1 L2 L3 L' : List Th} {bs : List (Nat × An)} {p r : Int} {q : Bool}
theorem kk1 (h : KK w0 w X1 X2 X3 L1 L2 L3 bs) (o k x : Int) (ho : (Lit.int .i64 o).wf = true) (hn : L1.length ≤ 1000) (hd : doI 1 o k x L1 = ((p, q, r), L')) :
    Calls Try.prog 16 #[P X1, i64 o, u64 k, u64 x] w fun e w' => e = .returned (.agg #[i64 p, .bool q, u64 r]) ∧ KK w0 w' X1 X2 X3 L' L2 L3 bs := by
  obtain ⟨H1, v1, H2, v2, H3, v3, h⟩ := h
  refine (do_any (by decide) (by decide) o k x ho w h.o1 hn (fun e => by cases e)).mono ?_
  rintro e w' ⟨he, h1⟩
  rw [hd] at he h1
  obtain ⟨v1', h2⟩ := h.do1 h1
  exact ⟨he, H1, v1', H2, v2, H3, v3, h2⟩
theorem kk2 (h : KK w0 w X1 X2 X3 L1 L2 L3 bs) (o k x : Int) (ho : (Lit.int .i64 o).wf = true) (hn : L2.length ≤ 1000) (hd : doI 2 o k x L2 = ((p, q, r), L')) :
    Calls Try.prog 16 #[P X2, i64 o, u64 k, u64 x] w fun e w' => e = .returned (.agg #[i64 p, .bool q, u64 r]) ∧ KK w0 w' X1 X2 X3 L1 L' L3 bs := by
  obtain ⟨H1, v1, H2, v2, H3, v3, h⟩ := h
  refine (do_any (by decide) (by decide) o k x ho w h.o2 hn (fun e => by cases e)).mono ?_
  rintro e w' ⟨he, h1⟩
  rw [hd] at he h1
  obtain ⟨v1', h2⟩ := h.do2 h1
  exact ⟨he, H1, v1, H2, v1', H3, v3, h2⟩
theorem kk3 (h : KK w0 w X1 X2 X3 L1 L2 L3 bs) (o k x : Int) (ho : (Lit.int .i64 o).wf = true) (hn : L3.length ≤ 1) (hd : doI 5 o k x L3 = ((p, q, r), L')) :
    Calls Try.prog 16 #[P X3, i64 o, u64 k, u64 x] w fun e w' => e = .returned (.agg #[i64 p, .bool q, u64 r]) ∧ KK w0 w' X1 X2 X3 L1 L2 L' bs := by
  obtain ⟨H1, v1, H2, v2, H3, v3, h⟩ := h
  have hs : Srt L3 := by
    match L3, hn with
    | [], _ => exact List.Pairwise.nil
    | [a], _ => exact List.pairwise_singleton ..
  refine (do_any (by decide) (by decide) o k x ho w h.o3 (by omega) (fun e => hs)).mono ?_
  rintro e w' ⟨he, h1⟩
  rw [hd] at he h1
  obtain ⟨v1', h2⟩ := h.do3 h1
  exact ⟨he, H1, v1, H2, v2, H3, v1', h2⟩
theorem KK.box (h : KK w0 w X1 X2 X3 L1 L2 L3 bs) (a : An) : KK w0 (w.alloc (ansBox a)) X1 X2 X3 L1 L2 L3 (bs ++ [(w.heap.size, a)]) := by
  obtain ⟨H1, v1, H2, v2, H3, v3, h⟩ := h
  exact ⟨H1, v1, H2, v2, H3, v3, h.box a⟩
theorem KK.made {wa wb wc : World} (h1 : Made w0 1 L1 wa X1) (h2 : Made wa 2 L2 wb X2) (h3 : Made wb 5 L3 wc X3) : KK w0 wc X1 X2 X3 L1 L2 L3 [] := by
  obtain ⟨H1, v1, H2, v2, H3, v3, h⟩ := k3_made h1 h2 h3
  exact ⟨H1, v1, H2, v2, H3, v3, h⟩
end
section
variable {w0 w w' : World} {X1 X2 X3 : Nat} {L1 L2 L3 : List Th} {bs : List (Nat × An)}
theorem KK.cells (h : KK w0 w X1 X2 X3 L1 L2 L3 bs) {B : Nat} {a : An} (hp : (B, a) ∈ bs) (hb : Below w.heap.size w w') :
    w'.cell? ⟨B, 0, none⟩ = some (.int .i64 a.1) ∧ w'.cell? ⟨B, 1, none⟩ = some (.bool a.2.1) ∧ w'.cell? ⟨B, 2, none⟩ = some (.int .u64 a.2.2) := by
  obtain ⟨H1, v1, H2, v2, H3, v3, h⟩ := h
  exact h.cells hp hb
theorem KK.below (h : KK w0 w X1 X2 X3 L1 L2 L3 bs) : Below w0.heap.size w0 w := by
  obtain ⟨H1, v1, H2, v2, H3, v3, h⟩ := h
  exact h.below
end

theorem same40 (a b : Int) (p : Bool) (w : World) : (binOp .eql 40 (.agg #[.int .i64 a, .bool p, .int .u64 b]) (.agg #[.int .i64 a, .bool p, .int .u64 b])).run Try.prog w = .ok (.bool true) w := by rw [eql40]; simp
def VK : Nat → Value → Prop
  | 0, v => v = .agg #[.int .i64 0, .bool true, .int .u64 2]
  | 1, v => v = .agg #[.int .i64 0, .bool true, .int .u64 2]
  | 2, v => v = .bool true
  | 3, v => v = .bool true
  | 4, v => v = .agg #[.int .i64 0, .bool true, .int .u64 1]
  | 5, v => v = .agg #[.int .i64 0, .bool true, .int .u64 1]
  | 6, v => v = .bool true
  | 7, v => v = .bool true
  | 8, v => v = .bool true
  | 9, v => v = .agg #[.int .i64 0, .bool false, .int .u64 0]
  | 10, v => v = .agg #[.int .i64 0, .bool false, .int .u64 0]
  | 11, v => v = .bool true
  | 12, v => v = .bool true
  | 13, v => v = .bool true
  | 14, v => v = .agg #[.int .i64 0, .bool true, .int .u64 1]
  | 15, v => v = .agg #[.int .i64 0, .bool true, .int .u64 1]
  | 16, v => v = .bool true
  | 17, v => v = .bool true
  | 18, v => v = .bool true
  | 19, v => v = .agg #[.int .i64 0, .bool true, .int .u64 0]
  | 20, v => v = .agg #[.int .i64 0, .bool true, .int .u64 0]
  | 21, v => v = .bool true
  | 22, v => v = .bool true
  | 23, v => v = .bool true
  | 24, v => v = .agg #[.int .i64 0, .bool false, .int .u64 0]
  | 25, v => v = .agg #[.int .i64 0, .bool false, .int .u64 0]
  | 26, v => v = .bool true
  | 27, v => v = .bool true
  | 28, v => v = .bool true
  | 29, v => v = .agg #[.int .i64 0, .bool true, .int .u64 7]
  | 30, v => v = .agg #[.int .i64 0, .bool true, .int .u64 7]
  | 31, v => v = .bool true
  | 32, v => v = .bool true
  | 33, v => v = .bool true
  | 34, v => v = .agg #[.int .i64 0, .bool true, .int .u64 7]
  | 35, v => v = .agg #[.int .i64 0, .bool true, .int .u64 7]
  | 36, v => v = .bool true
  | 37, v => v = .bool true
  | 38, v => v = .bool true
  | 39, v => v = .agg #[.int .i64 0, .bool false, .int .u64 0]
  | 40, v => v = .agg #[.int .i64 0, .bool false, .int .u64 0]
  | 41, v => v = .bool true
  | 42, v => v = .bool true
  | 43, v => v = .bool true
  | _, v => True

set_option maxHeartbeats 4000000 in
theorem known_any (w : World) : Calls Try.prog 10 #[] w fun e w' => e = .returned (.bool true) ∧ Below w.heap.size w w' := by
  have NEW := Lib.hid (fun (c : Int) h1 h2 (W : World) => new_any (cap := 0) c h1 h2 (by decide) W (nothing_in W))
  go_enter Try.func10, Try.ntmps10
  go_wp2_with fail
  refine (NEW.out 1 (by decide) (by decide) _).mono ?_
  rintro e w1 ⟨X1, rfl, m1⟩
  have M1 := Lib.hid (show Made w 1 [] w1 X1 from m1)
  clear m1
  go_wp2_with fail
  refine (NEW.out 2 (by decide) (by decide) _).mono ?_
  rintro e w2 ⟨X2, rfl, m2⟩
  have M2 := Lib.hid (show Made w1 2 [] w2 X2 from m2)
  clear m2
  go_wp2_with fail
  refine (NEW.out 5 (by decide) (by decide) _).mono ?_
  rintro e w3 ⟨X3, rfl, m3⟩
  have K := Lib.hid (KK.made M1.out M2.out (show Made w2 5 [] w3 X3 from m3))
  clear m3 M1 M2 NEW
  go_wp2_with fail
  refine (kk1 K.out 1 0 1 (by decide) (by decide) (p := 0) (q := true) (r := 0) (L' := [(0, 1)]) rfl).mono ?_
  rintro e w4 ⟨rfl, k1⟩
  have K := Lib.hid k1
  clear k1
  go_wp2_with fail
  refine (kk1 K.out 1 0 2 (by decide) (by decide) (p := 0) (q := true) (r := 0) (L' := [(0, 1), (0, 2)]) rfl).mono ?_
  rintro e w5 ⟨rfl, k1⟩
  have K := Lib.hid k1
  clear k1
  go_wp2_with fail
  refine (kk2 K.out 3 0 1 (by decide) (by decide) (p := 0) (q := true) (r := 0) (L' := [(0, 1)]) rfl).mono ?_
  rintro e w6 ⟨rfl, k1⟩
  have K := Lib.hid k1
  clear k1
  go_wp2_with fail
  refine (kk2 K.out 3 0 2 (by decide) (by decide) (p := 0) (q := true) (r := 0) (L' := [(0, 1), (0, 2)]) rfl).mono ?_
  rintro e w7 ⟨rfl, k1⟩
  have K := Lib.hid k1
  clear k1
  go_wp2_with fail
  refine (kk1 K.out 2 0 0 (by decide) (by decide) (p := 0) (q := true) (r := 2) (L' := [(0, 1)]) rfl).mono ?_
  rintro e w8 ⟨rfl, k1⟩
  have K := Lib.hid k1
  clear k1
  go_wp2_with fail
  refine (kk1 K.out 2 0 0 (by decide) (by decide) (p := 0) (q := true) (r := 1) (L' := []) rfl).mono ?_
  rintro e w9 ⟨rfl, k1⟩
  have K := Lib.hid k1
  clear k1
  go_wp2_with fail
  refine (kk1 K.out 2 0 0 (by decide) (by decide) (p := 0) (q := false) (r := 0) (L' := []) rfl).mono ?_
  rintro e w10 ⟨rfl, k1⟩
  have K := Lib.hid (((k1.box (0, true, 2)).box (0, true, 1)).box (0, false, 0))
  clear k1
  go_wp2_with fail
  refine (kk2 K.out 4 0 0 (by decide) (by decide) (p := 0) (q := true) (r := 1) (L' := [(0, 2)]) rfl).mono ?_
  rintro e w11 ⟨rfl, k1⟩
  have K := Lib.hid (k1.box (0, true, 1))
  clear k1
  go_wp2_with fail
  refine (kk3 K.out 5 5 7 (by decide) (by decide) (p := 0) (q := true) (r := 0) (L' := [(5, 7)]) rfl).mono ?_
  rintro e w12 ⟨rfl, k1⟩
  have K := Lib.hid k1
  clear k1
  go_wp2_with fail
  refine (kk3 K.out 5 5 8 (by decide) (by decide) (p := 0) (q := false) (r := 0) (L' := [(5, 7)]) rfl).mono ?_
  rintro e w13 ⟨rfl, k1⟩
  have K := Lib.hid ((k1.box (0, true, 0)).box (0, false, 0))
  clear k1
  go_wp2_with fail
  refine (kk3 K.out 7 5 0 (by decide) (by decide) (p := 0) (q := true) (r := 7) (L' := [(5, 7)]) rfl).mono ?_
  rintro e w14 ⟨rfl, k1⟩
  have K := Lib.hid k1
  clear k1
  go_wp2_with fail
  refine (kk3 K.out 6 5 0 (by decide) (by decide) (p := 0) (q := true) (r := 7) (L' := []) rfl).mono ?_
  rintro e w15 ⟨rfl, k1⟩
  have K := Lib.hid k1
  clear k1
  go_wp2_with fail
  refine (kk3 K.out 7 5 0 (by decide) (by decide) (p := 0) (q := false) (r := 0) (L' := []) rfl).mono ?_
  rintro e w16 ⟨rfl, k1⟩
  have K := Lib.hid (((k1.box (0, true, 7)).box (0, true, 7)).box (0, false, 0))
  clear k1
  go_wp2_with fail
  have hs : ∀ (W : World) (o : Go.Obj), (W.alloc o).heap.size = W.heap.size + 1 := fun W o => World.size_alloc ..
  have K := Lib.hid (show _ from (by have := K.out; simp only [hs, List.nil_append, List.cons_append, List.append_assoc] at this; exact this : KK w (((w16.alloc (ansBox (0, true, 7))).alloc (ansBox (0, true, 7))).alloc (ansBox (0, false, 0))) X1 X2 X3 [] [(0, 2)] [] [(w10.heap.size, 0, true, 2), ((w10.heap.size + 1), 0, true, 1), ((w10.heap.size + 1 + 1), 0, false, 0), (w11.heap.size, 0, true, 1), (w13.heap.size, 0, true, 0), ((w13.heap.size + 1), 0, false, 0), (w16.heap.size, 0, true, 7), ((w16.heap.size + 1), 0, true, 7), ((w16.heap.size + 1 + 1), 0, false, 0)]))
  clear hs
  generalize hEB1 : w10.heap.size = B1 at K ⊢
  generalize hEB2 : w11.heap.size = B2 at K ⊢
  generalize hEB3 : w13.heap.size = B3 at K ⊢
  generalize hEB4 : w16.heap.size = B4 at K ⊢
  simp only [ansBox] at K
  generalize hW : (((w16.alloc (Obj.cells #[Value.int IntKind.i64 0, Value.bool true, Value.int IntKind.u64 7] 40)).alloc (Obj.cells #[Value.int IntKind.i64 0, Value.bool true, Value.int IntKind.u64 7] 40)).alloc (Obj.cells #[Value.int IntKind.i64 0, Value.bool false, Value.int IntKind.u64 0] 40)) = wS at K ⊢
  clear hW hEB1 hEB2 hEB3 hEB4
  have C0 := Lib.hid (fun w' hb => K.out.cells (w' := w') (B := B1) (a := (0, true, 2)) (by simp) hb)
  have C1 := Lib.hid (fun w' hb => K.out.cells (w' := w') (B := (B1 + 1)) (a := (0, true, 1)) (by simp) hb)
  have C2 := Lib.hid (fun w' hb => K.out.cells (w' := w') (B := (B1 + 1 + 1)) (a := (0, false, 0)) (by simp) hb)
  have C3 := Lib.hid (fun w' hb => K.out.cells (w' := w') (B := B2) (a := (0, true, 1)) (by simp) hb)
  have C4 := Lib.hid (fun w' hb => K.out.cells (w' := w') (B := B3) (a := (0, true, 0)) (by simp) hb)
  have C5 := Lib.hid (fun w' hb => K.out.cells (w' := w') (B := (B3 + 1)) (a := (0, false, 0)) (by simp) hb)
  have C6 := Lib.hid (fun w' hb => K.out.cells (w' := w') (B := B4) (a := (0, true, 7)) (by simp) hb)
  have C7 := Lib.hid (fun w' hb => K.out.cells (w' := w') (B := (B4 + 1)) (a := (0, true, 7)) (by simp) hb)
  have C8 := Lib.hid (fun w' hb => K.out.cells (w' := w') (B := (B4 + 1 + 1)) (a := (0, false, 0)) (by simp) hb)
  have HB := Lib.hid K.out.below
  clear K
  refine wp_region_state (by kernel_rfl) (fun x => ⟨#[x 43, P X1, i64 0, P X2, i64 0, P X3, i64 0, Value.pointer (some ⟨B1, 0, none⟩), Value.pointer (some ⟨B1 + 1, 0, none⟩), Value.pointer (some ⟨B1 + 1 + 1, 0, none⟩), Value.pointer (some ⟨B2, 0, none⟩), Value.pointer (some ⟨B3, 0, none⟩), Value.pointer (some ⟨B3 + 1, 0, none⟩), Value.pointer (some ⟨B4, 0, none⟩), Value.pointer (some ⟨B4 + 1, 0, none⟩), Value.pointer (some ⟨B4 + 1 + 1, 0, none⟩), Value.tuple #[P X1, i64 0], Value.tuple #[P X1, i64 0], P X1, i64 0, Value.tuple #[P X2, i64 0], Value.tuple #[P X2, i64 0], P X2, i64 0, Value.tuple #[P X3, i64 0], Value.tuple #[P X3, i64 0], P X3, i64 0, i64 0, Value.bool false, Value.bool false, i64 0, Value.bool false, Value.bool false, Value.bool false, i64 0, Value.bool false, Value.bool false, Value.bool false, P X1, Value.bool false, Value.bool false, Value.bool false, P X2, Value.bool false, Value.bool false, Value.bool false, P X3, Value.bool false, Value.bool false, P X1, Value.agg #[i64 0, Value.bool true, u64 0], P X1, Value.agg #[i64 0, Value.bool true, u64 0], P X2, Value.agg #[i64 0, Value.bool true, u64 0], P X2, Value.agg #[i64 0, Value.bool true, u64 0], P X1, Value.agg #[i64 0, Value.bool true, u64 2], P X1, Value.agg #[i64 0, Value.bool true, u64 1], P X1, Value.agg #[i64 0, Value.bool false, u64 0], P X2, Value.agg #[i64 0, Value.bool true, u64 1], P X3, Value.agg #[i64 0, Value.bool true, u64 0], P X3, Value.agg #[i64 0, Value.bool false, u64 0], P X3, Value.agg #[i64 0, Value.bool true, u64 7], P X3, Value.agg #[i64 0, Value.bool true, u64 7], P X3, Value.agg #[i64 0, Value.bool false, u64 0], x 0, x 1, x 2, x 3, x 4, x 5, x 6, x 7, x 8, x 9, x 10, x 11, x 12, x 13, x 14, x 15, x 16, x 17, x 18, x 19, x 20, x 21, x 22, x 23, x 24, x 25, x 26, x 27, x 28, x 29, x 30, x 31, x 32, x 33, x 34, x 35, x 36, x 37, x 38, x 39, x 40, x 41, x 42], []⟩) VK (fun _ W => Below wS.heap.size wS W) (fun j => if j = 43 then .bool false else undef) (back_of (by kernel_rfl)) (below_drewN _ _ 1) ?_ ?_
  · intro i o ho l x wx hl hli hbx hpre
    have hi : i < 44 := (Array.getElem?_eq_some_iff.1 ho).1
    rcases (show i = 0 ∨ i = 1 ∨ i = 2 ∨ i = 3 ∨ i = 4 ∨ i = 5 ∨ i = 6 ∨ i = 7 ∨ i = 8 ∨ i = 9 ∨ i = 10 ∨ i = 11 ∨ i = 12 ∨ i = 13 ∨ i = 14 ∨ i = 15 ∨ i = 16 ∨ i = 17 ∨ i = 18 ∨ i = 19 ∨ i = 20 ∨ i = 21 ∨ i = 22 ∨ i = 23 ∨ i = 24 ∨ i = 25 ∨ i = 26 ∨ i = 27 ∨ i = 28 ∨ i = 29 ∨ i = 30 ∨ i = 31 ∨ i = 32 ∨ i = 33 ∨ i = 34 ∨ i = 35 ∨ i = 36 ∨ i = 37 ∨ i = 38 ∨ i = 39 ∨ i = 40 ∨ i = 41 ∨ i = 42 ∨ i = 43 by omega) with rfl | rfl | rfl | rfl | rfl | rfl | rfl | rfl | rfl | rfl | rfl | rfl | rfl | rfl | rfl | rfl | rfl | rfl | rfl | rfl | rfl | rfl | rfl | rfl | rfl | rfl | rfl | rfl | rfl | rfl | rfl | rfl | rfl | rfl | rfl | rfl | rfl | rfl | rfl | rfl | rfl | rfl | rfl | rfl
    · obtain rfl := Option.some.inj ho
      clear hpre ho
      obtain ⟨c0, c1, c2⟩ := C0.out wx hbx
      clear C0 C1 C2 C3 C4 C5 C6 C7 C8
      refine wpOp_step rfl (fun K hK => ?_)
      simp only [upd, reduceIte, Nat.reduceEqDiff]
      go_simp
      exact hK _ _ ⟨_, rfl, rfl, hbx⟩
    · obtain rfl := Option.some.inj ho
      clear hpre ho
      clear C0 C1 C2 C3 C4 C5 C6 C7 C8
      refine wpOp_step rfl (fun K hK => ?_)
      simp only [upd, reduceIte, Nat.reduceEqDiff]
      go_simp
      go_wp2_with (go_at_call 17; refine (yes_any _ _).mono ?_; rintro e w7 ⟨rfl, hb7⟩)
      exact ⟨_, rfl, rfl, hbx.trans (hb7.mono hbx.size)⟩
    · obtain rfl := Option.some.inj ho
      have e0 := (hpre ⟨0, .data⟩ (by simp) rfl).1
      have e1 := (hpre ⟨1, .data⟩ (by simp) rfl).1
      clear hpre ho
      rw [upd_of e0]
      rw [upd_of e1]
      clear e0 e1
      clear C0 C1 C2 C3 C4 C5 C6 C7 C8
      refine wpOp_step rfl (fun K hK => ?_)
      simp only [upd, reduceIte, Nat.reduceEqDiff]
      have EQ := same40
      have GU := guard40
      go_simp
      exact hK _ _ ⟨_, rfl, rfl, hbx⟩
    · obtain rfl := Option.some.inj ho
      have e2 := (hpre ⟨2, .data⟩ (by simp) rfl).1
      clear hpre ho
      rw [upd_of e2]
      clear e2
      clear C0 C1 C2 C3 C4 C5 C6 C7 C8
      refine wpOp_step rfl (fun K hK => ?_)
      simp only [upd, reduceIte, Nat.reduceEqDiff]
      go_simp
      exact hK _ _ ⟨_, rfl, rfl, hbx⟩
    · obtain rfl := Option.some.inj ho
      have e3 := (hpre ⟨3, .guard⟩ (by simp) rfl).1
      clear hpre ho
      rw [upd_of e3]
      clear e3
      obtain ⟨c0, c1, c2⟩ := C1.out wx hbx
      clear C0 C1 C2 C3 C4 C5 C6 C7 C8
      refine wpOp_step rfl (fun K hK => ?_)
      simp only [upd, reduceIte, Nat.reduceEqDiff]
      go_simp
      exact hK _ _ ⟨_, rfl, rfl, hbx⟩
    · obtain rfl := Option.some.inj ho
      have e3 := (hpre ⟨3, .guard⟩ (by simp) rfl).1
      clear hpre ho
      rw [upd_of e3]
      clear e3
      clear C0 C1 C2 C3 C4 C5 C6 C7 C8
      refine wpOp_step rfl (fun K hK => ?_)
      simp only [upd, reduceIte, Nat.reduceEqDiff]
      go_simp
      go_wp2_with (go_at_call 17; refine (yes_any _ _).mono ?_; rintro e w7 ⟨rfl, hb7⟩)
      exact ⟨_, rfl, rfl, hbx.trans (hb7.mono hbx.size)⟩
    · obtain rfl := Option.some.inj ho
      have e4 := (hpre ⟨4, .data⟩ (by simp) rfl).1
      have e5 := (hpre ⟨5, .data⟩ (by simp) rfl).1
      have e3 := (hpre ⟨3, .guard⟩ (by simp) rfl).1
      clear hpre ho
      rw [upd_of e4]
      rw [upd_of e5]
      rw [upd_of e3]
      clear e4 e5 e3
      clear C0 C1 C2 C3 C4 C5 C6 C7 C8
      refine wpOp_step rfl (fun K hK => ?_)
      simp only [upd, reduceIte, Nat.reduceEqDiff]
      have EQ := same40
      have GU := guard40
      go_simp
      exact hK _ _ ⟨_, rfl, rfl, hbx⟩
    · obtain rfl := Option.some.inj ho
      have e3 := (hpre ⟨3, .data⟩ (by simp) rfl).1
      have e6 := (hpre ⟨6, .data⟩ (by simp) rfl).1
      clear hpre ho
      rw [upd_of e3]
      rw [upd_of e6]
      clear e3 e6
      clear C0 C1 C2 C3 C4 C5 C6 C7 C8
      refine wpOp_step rfl (fun K hK => ?_)
      simp only [upd, reduceIte, Nat.reduceEqDiff]
      go_simp
      exact hK _ _ ⟨_, rfl, rfl, hbx⟩
    · obtain rfl := Option.some.inj ho
      have e7 := (hpre ⟨7, .data⟩ (by simp) rfl).1
      clear hpre ho
      rw [upd_of e7]
      clear e7
      clear C0 C1 C2 C3 C4 C5 C6 C7 C8
      refine wpOp_step rfl (fun K hK => ?_)
      simp only [upd, reduceIte, Nat.reduceEqDiff]
      go_simp
      exact hK _ _ ⟨_, rfl, rfl, hbx⟩
    · obtain rfl := Option.some.inj ho
      have e8 := (hpre ⟨8, .guard⟩ (by simp) rfl).1
      clear hpre ho
      rw [upd_of e8]
      clear e8
      obtain ⟨c0, c1, c2⟩ := C2.out wx hbx
      clear C0 C1 C2 C3 C4 C5 C6 C7 C8
      refine wpOp_step rfl (fun K hK => ?_)
      simp only [upd, reduceIte, Nat.reduceEqDiff]
      go_simp
      exact hK _ _ ⟨_, rfl, rfl, hbx⟩
    · obtain rfl := Option.some.inj ho
      have e8 := (hpre ⟨8, .guard⟩ (by simp) rfl).1
      clear hpre ho
      rw [upd_of e8]
      clear e8
      clear C0 C1 C2 C3 C4 C5 C6 C7 C8
      refine wpOp_step rfl (fun K hK => ?_)
      simp only [upd, reduceIte, Nat.reduceEqDiff]
      go_simp
      exact hK _ _ ⟨_, rfl, rfl, hbx⟩
    · obtain rfl := Option.some.inj ho
      have e9 := (hpre ⟨9, .data⟩ (by simp) rfl).1
      have e10 := (hpre ⟨10, .data⟩ (by simp) rfl).1
      have e8 := (hpre ⟨8, .guard⟩ (by simp) rfl).1
      clear hpre ho
      rw [upd_of e9]
      rw [upd_of e10]
      rw [upd_of e8]
      clear e9 e10 e8
      clear C0 C1 C2 C3 C4 C5 C6 C7 C8
      refine wpOp_step rfl (fun K hK => ?_)
      simp only [upd, reduceIte, Nat.reduceEqDiff]
      have EQ := same40
      have GU := guard40
      go_simp
      exact hK _ _ ⟨_, rfl, rfl, hbx⟩
    · obtain rfl := Option.some.inj ho
      have e8 := (hpre ⟨8, .data⟩ (by simp) rfl).1
      have e11 := (hpre ⟨11, .data⟩ (by simp) rfl).1
      clear hpre ho
      rw [upd_of e8]
      rw [upd_of e11]
      clear e8 e11
      clear C0 C1 C2 C3 C4 C5 C6 C7 C8
      refine wpOp_step rfl (fun K hK => ?_)
      simp only [upd, reduceIte, Nat.reduceEqDiff]
      go_simp
      exact hK _ _ ⟨_, rfl, rfl, hbx⟩
    · obtain rfl := Option.some.inj ho
      have e12 := (hpre ⟨12, .data⟩ (by simp) rfl).1
      clear hpre ho
      rw [upd_of e12]
      clear e12
      clear C0 C1 C2 C3 C4 C5 C6 C7 C8
      refine wpOp_step rfl (fun K hK => ?_)
      simp only [upd, reduceIte, Nat.reduceEqDiff]
      go_simp
      exact hK _ _ ⟨_, rfl, rfl, hbx⟩
    · obtain rfl := Option.some.inj ho
      have e13 := (hpre ⟨13, .guard⟩ (by simp) rfl).1
      clear hpre ho
      rw [upd_of e13]
      clear e13
      obtain ⟨c0, c1, c2⟩ := C3.out wx hbx
      clear C0 C1 C2 C3 C4 C5 C6 C7 C8
      refine wpOp_step rfl (fun K hK => ?_)
      simp only [upd, reduceIte, Nat.reduceEqDiff]
      go_simp
      exact hK _ _ ⟨_, rfl, rfl, hbx⟩
    · obtain rfl := Option.some.inj ho
      have e13 := (hpre ⟨13, .guard⟩ (by simp) rfl).1
      clear hpre ho
      rw [upd_of e13]
      clear e13
      clear C0 C1 C2 C3 C4 C5 C6 C7 C8
      refine wpOp_step rfl (fun K hK => ?_)
      simp only [upd, reduceIte, Nat.reduceEqDiff]
      go_simp
      go_wp2_with (go_at_call 17; refine (yes_any _ _).mono ?_; rintro e w7 ⟨rfl, hb7⟩)
      exact ⟨_, rfl, rfl, hbx.trans (hb7.mono hbx.size)⟩
    · obtain rfl := Option.some.inj ho
      have e14 := (hpre ⟨14, .data⟩ (by simp) rfl).1
      have e15 := (hpre ⟨15, .data⟩ (by simp) rfl).1
      have e13 := (hpre ⟨13, .guard⟩ (by simp) rfl).1
      clear hpre ho
      rw [upd_of e14]
      rw [upd_of e15]
      rw [upd_of e13]
      clear e14 e15 e13
      clear C0 C1 C2 C3 C4 C5 C6 C7 C8
      refine wpOp_step rfl (fun K hK => ?_)
      simp only [upd, reduceIte, Nat.reduceEqDiff]
      have EQ := same40
      have GU := guard40
      go_simp
      exact hK _ _ ⟨_, rfl, rfl, hbx⟩
    · obtain rfl := Option.some.inj ho
      have e13 := (hpre ⟨13, .data⟩ (by simp) rfl).1
      have e16 := (hpre ⟨16, .data⟩ (by simp) rfl).1
      clear hpre ho
      rw [upd_of e13]
      rw [upd_of e16]
      clear e13 e16
      clear C0 C1 C2 C3 C4 C5 C6 C7 C8
      refine wpOp_step rfl (fun K hK => ?_)
      simp only [upd, reduceIte, Nat.reduceEqDiff]
      go_simp
      exact hK _ _ ⟨_, rfl, rfl, hbx⟩
    · obtain rfl := Option.some.inj ho
      have e17 := (hpre ⟨17, .data⟩ (by simp) rfl).1
      clear hpre ho
      rw [upd_of e17]
      clear e17
      clear C0 C1 C2 C3 C4 C5 C6 C7 C8
      refine wpOp_step rfl (fun K hK => ?_)
      simp only [upd, reduceIte, Nat.reduceEqDiff]
      go_simp
      exact hK _ _ ⟨_, rfl, rfl, hbx⟩
    · obtain rfl := Option.some.inj ho
      have e18 := (hpre ⟨18, .guard⟩ (by simp) rfl).1
      clear hpre ho
      rw [upd_of e18]
      clear e18
      obtain ⟨c0, c1, c2⟩ := C4.out wx hbx
      clear C0 C1 C2 C3 C4 C5 C6 C7 C8
      refine wpOp_step rfl (fun K hK => ?_)
      simp only [upd, reduceIte, Nat.reduceEqDiff]
      go_simp
      exact hK _ _ ⟨_, rfl, rfl, hbx⟩
    · obtain rfl := Option.some.inj ho
      have e18 := (hpre ⟨18, .guard⟩ (by simp) rfl).1
      clear hpre ho
      rw [upd_of e18]
      clear e18
      clear C0 C1 C2 C3 C4 C5 C6 C7 C8
      refine wpOp_step rfl (fun K hK => ?_)
      simp only [upd, reduceIte, Nat.reduceEqDiff]
      go_simp
      go_wp2_with (go_at_call 17; refine (yes_any _ _).mono ?_; rintro e w7 ⟨rfl, hb7⟩)
      exact ⟨_, rfl, rfl, hbx.trans (hb7.mono hbx.size)⟩
    · obtain rfl := Option.some.inj ho
      have e19 := (hpre ⟨19, .data⟩ (by simp) rfl).1
      have e20 := (hpre ⟨20, .data⟩ (by simp) rfl).1
      have e18 := (hpre ⟨18, .guard⟩ (by simp) rfl).1
      clear hpre ho
      rw [upd_of e19]
      rw [upd_of e20]
      rw [upd_of e18]
      clear e19 e20 e18
      clear C0 C1 C2 C3 C4 C5 C6 C7 C8
      refine wpOp_step rfl (fun K hK => ?_)
      simp only [upd, reduceIte, Nat.reduceEqDiff]
      have EQ := same40
      have GU := guard40
      go_simp
      exact hK _ _ ⟨_, rfl, rfl, hbx⟩
    · obtain rfl := Option.some.inj ho
      have e18 := (hpre ⟨18, .data⟩ (by simp) rfl).1
      have e21 := (hpre ⟨21, .data⟩ (by simp) rfl).1
      clear hpre ho
      rw [upd_of e18]
      rw [upd_of e21]
      clear e18 e21
      clear C0 C1 C2 C3 C4 C5 C6 C7 C8
      refine wpOp_step rfl (fun K hK => ?_)
      simp only [upd, reduceIte, Nat.reduceEqDiff]
      go_simp
      exact hK _ _ ⟨_, rfl, rfl, hbx⟩
    · obtain rfl := Option.some.inj ho
      have e22 := (hpre ⟨22, .data⟩ (by simp) rfl).1
      clear hpre ho
      rw [upd_of e22]
      clear e22
      clear C0 C1 C2 C3 C4 C5 C6 C7 C8
      refine wpOp_step rfl (fun K hK => ?_)
      simp only [upd, reduceIte, Nat.reduceEqDiff]
      go_simp
      exact hK _ _ ⟨_, rfl, rfl, hbx⟩
    · obtain rfl := Option.some.inj ho
      have e23 := (hpre ⟨23, .guard⟩ (by simp) rfl).1
      clear hpre ho
      rw [upd_of e23]
      clear e23
      obtain ⟨c0, c1, c2⟩ := C5.out wx hbx
      clear C0 C1 C2 C3 C4 C5 C6 C7 C8
      refine wpOp_step rfl (fun K hK => ?_)
      simp only [upd, reduceIte, Nat.reduceEqDiff]
      go_simp
      exact hK _ _ ⟨_, rfl, rfl, hbx⟩
    · obtain rfl := Option.some.inj ho
      have e23 := (hpre ⟨23, .guard⟩ (by simp) rfl).1
      clear hpre ho
      rw [upd_of e23]
      clear e23
      clear C0 C1 C2 C3 C4 C5 C6 C7 C8
      refine wpOp_step rfl (fun K hK => ?_)
      simp only [upd, reduceIte, Nat.reduceEqDiff]
      go_simp
      exact hK _ _ ⟨_, rfl, rfl, hbx⟩
    · obtain rfl := Option.some.inj ho
      have e24 := (hpre ⟨24, .data⟩ (by simp) rfl).1
      have e25 := (hpre ⟨25, .data⟩ (by simp) rfl).1
      have e23 := (hpre ⟨23, .guard⟩ (by simp) rfl).1
      clear hpre ho
      rw [upd_of e24]
      rw [upd_of e25]
      rw [upd_of e23]
      clear e24 e25 e23
      clear C0 C1 C2 C3 C4 C5 C6 C7 C8
      refine wpOp_step rfl (fun K hK => ?_)
      simp only [upd, reduceIte, Nat.reduceEqDiff]
      have EQ := same40
      have GU := guard40
      go_simp
      exact hK _ _ ⟨_, rfl, rfl, hbx⟩
    · obtain rfl := Option.some.inj ho
      have e23 := (hpre ⟨23, .data⟩ (by simp) rfl).1
      have e26 := (hpre ⟨26, .data⟩ (by simp) rfl).1
      clear hpre ho
      rw [upd_of e23]
      rw [upd_of e26]
      clear e23 e26
      clear C0 C1 C2 C3 C4 C5 C6 C7 C8
      refine wpOp_step rfl (fun K hK => ?_)
      simp only [upd, reduceIte, Nat.reduceEqDiff]
      go_simp
      exact hK _ _ ⟨_, rfl, rfl, hbx⟩
    · obtain rfl := Option.some.inj ho
      have e27 := (hpre ⟨27, .data⟩ (by simp) rfl).1
      clear hpre ho
      rw [upd_of e27]
      clear e27
      clear C0 C1 C2 C3 C4 C5 C6 C7 C8
      refine wpOp_step rfl (fun K hK => ?_)
      simp only [upd, reduceIte, Nat.reduceEqDiff]
      go_simp
      exact hK _ _ ⟨_, rfl, rfl, hbx⟩
    · obtain rfl := Option.some.inj ho
      have e28 := (hpre ⟨28, .guard⟩ (by simp) rfl).1
      clear hpre ho
      rw [upd_of e28]
      clear e28
      obtain ⟨c0, c1, c2⟩ := C6.out wx hbx
      clear C0 C1 C2 C3 C4 C5 C6 C7 C8
      refine wpOp_step rfl (fun K hK => ?_)
      simp only [upd, reduceIte, Nat.reduceEqDiff]
      go_simp
      exact hK _ _ ⟨_, rfl, rfl, hbx⟩
    · obtain rfl := Option.some.inj ho
      have e28 := (hpre ⟨28, .guard⟩ (by simp) rfl).1
      clear hpre ho
      rw [upd_of e28]
      clear e28
      clear C0 C1 C2 C3 C4 C5 C6 C7 C8
      refine wpOp_step rfl (fun K hK => ?_)
      simp only [upd, reduceIte, Nat.reduceEqDiff]
      go_simp
      go_wp2_with (go_at_call 17; refine (yes_any _ _).mono ?_; rintro e w7 ⟨rfl, hb7⟩)
      exact ⟨_, rfl, rfl, hbx.trans (hb7.mono hbx.size)⟩
    · obtain rfl := Option.some.inj ho
      have e29 := (hpre ⟨29, .data⟩ (by simp) rfl).1
      have e30 := (hpre ⟨30, .data⟩ (by simp) rfl).1
      have e28 := (hpre ⟨28, .guard⟩ (by simp) rfl).1
      clear hpre ho
      rw [upd_of e29]
      rw [upd_of e30]
      rw [upd_of e28]
      clear e29 e30 e28
      clear C0 C1 C2 C3 C4 C5 C6 C7 C8
      refine wpOp_step rfl (fun K hK => ?_)
      simp only [upd, reduceIte, Nat.reduceEqDiff]
      have EQ := same40
      have GU := guard40
      go_simp
      exact hK _ _ ⟨_, rfl, rfl, hbx⟩
    · obtain rfl := Option.some.inj ho
      have e28 := (hpre ⟨28, .data⟩ (by simp) rfl).1
      have e31 := (hpre ⟨31, .data⟩ (by simp) rfl).1
      clear hpre ho
      rw [upd_of e28]
      rw [upd_of e31]
      clear e28 e31
      clear C0 C1 C2 C3 C4 C5 C6 C7 C8
      refine wpOp_step rfl (fun K hK => ?_)
      simp only [upd, reduceIte, Nat.reduceEqDiff]
      go_simp
      exact hK _ _ ⟨_, rfl, rfl, hbx⟩
    · obtain rfl := Option.some.inj ho
      have e32 := (hpre ⟨32, .data⟩ (by simp) rfl).1
      clear hpre ho
      rw [upd_of e32]
      clear e32
      clear C0 C1 C2 C3 C4 C5 C6 C7 C8
      refine wpOp_step rfl (fun K hK => ?_)
      simp only [upd, reduceIte, Nat.reduceEqDiff]
      go_simp
      exact hK _ _ ⟨_, rfl, rfl, hbx⟩
    · obtain rfl := Option.some.inj ho
      have e33 := (hpre ⟨33, .guard⟩ (by simp) rfl).1
      clear hpre ho
      rw [upd_of e33]
      clear e33
      obtain ⟨c0, c1, c2⟩ := C7.out wx hbx
      clear C0 C1 C2 C3 C4 C5 C6 C7 C8
      refine wpOp_step rfl (fun K hK => ?_)
      simp only [upd, reduceIte, Nat.reduceEqDiff]
      go_simp
      exact hK _ _ ⟨_, rfl, rfl, hbx⟩
    · obtain rfl := Option.some.inj ho
      have e33 := (hpre ⟨33, .guard⟩ (by simp) rfl).1
      clear hpre ho
      rw [upd_of e33]
      clear e33
      clear C0 C1 C2 C3 C4 C5 C6 C7 C8
      refine wpOp_step rfl (fun K hK => ?_)
      simp only [upd, reduceIte, Nat.reduceEqDiff]
      go_simp
      go_wp2_with (go_at_call 17; refine (yes_any _ _).mono ?_; rintro e w7 ⟨rfl, hb7⟩)
      exact ⟨_, rfl, rfl, hbx.trans (hb7.mono hbx.size)⟩
    · obtain rfl := Option.some.inj ho
      have e34 := (hpre ⟨34, .data⟩ (by simp) rfl).1
      have e35 := (hpre ⟨35, .data⟩ (by simp) rfl).1
      have e33 := (hpre ⟨33, .guard⟩ (by simp) rfl).1
      clear hpre ho
      rw [upd_of e34]
      rw [upd_of e35]
      rw [upd_of e33]
      clear e34 e35 e33
      clear C0 C1 C2 C3 C4 C5 C6 C7 C8
      refine wpOp_step rfl (fun K hK => ?_)
      simp only [upd, reduceIte, Nat.reduceEqDiff]
      have EQ := same40
      have GU := guard40
      go_simp
      exact hK _ _ ⟨_, rfl, rfl, hbx⟩
    · obtain rfl := Option.some.inj ho
      have e33 := (hpre ⟨33, .data⟩ (by simp) rfl).1
      have e36 := (hpre ⟨36, .data⟩ (by simp) rfl).1
      clear hpre ho
      rw [upd_of e33]
      rw [upd_of e36]
      clear e33 e36
      clear C0 C1 C2 C3 C4 C5 C6 C7 C8
      refine wpOp_step rfl (fun K hK => ?_)
      simp only [upd, reduceIte, Nat.reduceEqDiff]
      go_simp
      exact hK _ _ ⟨_, rfl, rfl, hbx⟩
    · obtain rfl := Option.some.inj ho
      have e37 := (hpre ⟨37, .data⟩ (by simp) rfl).1
      clear hpre ho
      rw [upd_of e37]
      clear e37
      clear C0 C1 C2 C3 C4 C5 C6 C7 C8
      refine wpOp_step rfl (fun K hK => ?_)
      simp only [upd, reduceIte, Nat.reduceEqDiff]
      go_simp
      exact hK _ _ ⟨_, rfl, rfl, hbx⟩
    · obtain rfl := Option.some.inj ho
      have e38 := (hpre ⟨38, .guard⟩ (by simp) rfl).1
      clear hpre ho
      rw [upd_of e38]
      clear e38
      obtain ⟨c0, c1, c2⟩ := C8.out wx hbx
      clear C0 C1 C2 C3 C4 C5 C6 C7 C8
      refine wpOp_step rfl (fun K hK => ?_)
      simp only [upd, reduceIte, Nat.reduceEqDiff]
      go_simp
      exact hK _ _ ⟨_, rfl, rfl, hbx⟩
    · obtain rfl := Option.some.inj ho
      have e38 := (hpre ⟨38, .guard⟩ (by simp) rfl).1
      clear hpre ho
      rw [upd_of e38]
      clear e38
      clear C0 C1 C2 C3 C4 C5 C6 C7 C8
      refine wpOp_step rfl (fun K hK => ?_)
      simp only [upd, reduceIte, Nat.reduceEqDiff]
      go_simp
      exact hK _ _ ⟨_, rfl, rfl, hbx⟩
    · obtain rfl := Option.some.inj ho
      have e39 := (hpre ⟨39, .data⟩ (by simp) rfl).1
      have e40 := (hpre ⟨40, .data⟩ (by simp) rfl).1
      have e38 := (hpre ⟨38, .guard⟩ (by simp) rfl).1
      clear hpre ho
      rw [upd_of e39]
      rw [upd_of e40]
      rw [upd_of e38]
      clear e39 e40 e38
      clear C0 C1 C2 C3 C4 C5 C6 C7 C8
      refine wpOp_step rfl (fun K hK => ?_)
      simp only [upd, reduceIte, Nat.reduceEqDiff]
      have EQ := same40
      have GU := guard40
      go_simp
      exact hK _ _ ⟨_, rfl, rfl, hbx⟩
    · obtain rfl := Option.some.inj ho
      have e38 := (hpre ⟨38, .data⟩ (by simp) rfl).1
      have e41 := (hpre ⟨41, .data⟩ (by simp) rfl).1
      clear hpre ho
      rw [upd_of e38]
      rw [upd_of e41]
      clear e38 e41
      clear C0 C1 C2 C3 C4 C5 C6 C7 C8
      refine wpOp_step rfl (fun K hK => ?_)
      simp only [upd, reduceIte, Nat.reduceEqDiff]
      go_simp
      exact hK _ _ ⟨_, rfl, rfl, hbx⟩
    · obtain rfl := Option.some.inj ho
      have e42 := (hpre ⟨42, .data⟩ (by simp) rfl).1
      clear hpre ho
      rw [upd_of e42]
      clear e42
      clear C0 C1 C2 C3 C4 C5 C6 C7 C8
      refine wpOp_step rfl (fun K hK => ?_)
      simp only [upd, reduceIte, Nat.reduceEqDiff]
      go_simp
      exact hK _ _ ⟨_, rfl, rfl, hbx⟩
  · intro l x wx hbx hall
    have e43 := (hall 43 (by decide)).1
    rw [upd_of e43]
    clear e43 hall
    simp only [upd, reduceIte, Nat.reduceEqDiff]
    go_wp2
    go_returns
    exact ⟨rfl, HB.out.trans (hbx.mono HB.out.size)⟩
end Go.Proofs.Ytphfcfnbefikiaa
