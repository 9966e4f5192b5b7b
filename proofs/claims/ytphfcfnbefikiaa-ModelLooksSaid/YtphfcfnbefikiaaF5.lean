/- The law ModelOrder: the walk. -/
import Derived.Test.YtphfcfnbefikiaaF4
namespace Go.Proofs.Ytphfcfnbefikiaa
open Go.RowKit
set_option linter.unusedVariables false
set_option linter.unusedSimpArgs false

/-- What holds by whether two of the calls have been done. -/
def B2 (a b : Nat) (T : Bool → Bool → World → Prop) (l : Array Bool) (w : World) : Prop := T (l.getD a false) (l.getD b false) w
theorem B2.set {a b : Nat} {T : Bool → Bool → World → Prop} {l : Array Bool} {w' : World} {i : Nat} (h : T (l.getD a false) (l.getD b false) w') (h1 : i ≠ a) (h2 : i ≠ b) : B2 a b T (l.setIfInBounds i true) w' := by
  unfold B2; rw [lst_ne h1, lst_ne h2]; exact h
theorem B2.s1 {a b : Nat} {T : Bool → Bool → World → Prop} {l : Array Bool} {w' : World} (ha : a < l.size) (h2 : a ≠ b) (h : T true (l.getD b false) w') : B2 a b T (l.setIfInBounds a true) w' := by
  unfold B2; rw [lst_eq ha, lst_ne h2]; exact h
theorem B2.s2 {a b : Nat} {T : Bool → Bool → World → Prop} {l : Array Bool} {w' : World} (hb : b < l.size) (h1 : b ≠ a) (h : T (l.getD a false) true w') : B2 a b T (l.setIfInBounds b true) w' := by
  unfold B2; rw [lst_eq hb, lst_ne h1]; exact h

def VO (X1 X2 b off k cap j d : Nat) (t t' : Int) : Nat → Value → Prop
  | 0, v => v = P X1
  | 1, v => v = .agg #[.int .i64 0, .bool true, .int .u64 t']
  | 2, v => v = .slice (some ⟨b, off, none⟩) k cap
  | 3, v => v = .slice (some ⟨b, off, none⟩) k cap
  | 4, v => v = .int .i64 (k : Int)
  | 5, v => v = .int .i64 ((k : Int) - 1)
  | 6, v => v = .int .i64 (j : Int)
  | 7, v => v = .int .i64 (d : Int)
  | 8, v => v = .pointer (some ⟨b, off + d, none⟩)
  | 9, v => v = .int .u64 t'
  | 10, v => v = .agg #[.int .i64 0, .bool true, .int .u64 t']
  | 11, v => v = .bool false
  | 12, v => v = .bool false
  | 13, v => v = P X2
  | 14, v => v = .agg #[.int .i64 0, .bool true, .int .u64 t]
  | 15, v => v = .slice (some ⟨b, off, none⟩) k cap
  | 16, v => v = .int .i64 (j : Int)
  | 17, v => v = .pointer (some ⟨b, off + j, none⟩)
  | 18, v => v = .int .u64 t
  | 19, v => v = .agg #[.int .i64 0, .bool true, .int .u64 t]
  | 20, v => v = .bool false
  | 21, v => v = .bool false
  | _, v => True

set_option maxRecDepth 100000 in
set_option maxHeartbeats 8000000 in
theorem order_main {n cap : Nat} {ad : Option Addr} {us : List Int} (w : World) (hl : UsIn ad n us w) (hn : n ≤ 60) :
    Calls Try.prog 5 #[.slice ad n cap] w fun e w' => e = .returned (.bool true) ∧ Below w.heap.size w w' := by
  have NEW := Lib.hid (fun (c : Int) h1 h2 (W : World) => new_any (cap := 0) c h1 h2 (by decide) W (nothing_in W))
  have HL := Lib.hid hl
  have h60 : decide (60 < (n : Int)) = false := by simp; omega
  have ALN := Lib.hid (show (asTh us).length = n from by simp [asTh, hl.1])
  clear hl
  go_enter Try.func5, Try.ntmps5
  go_wp2_with fail
  refine (NEW.out 1 (by decide) (by decide) _).mono ?_
  rintro e w1 ⟨X1, rfl, m1⟩
  have M1 := Lib.hid (show Made w 1 [] w1 X1 from m1)
  clear m1
  go_wp2_with fail
  refine (NEW.out 2 (by decide) (by decide) _).mono ?_
  rintro e w2 ⟨X2, rfl, m2⟩
  have D0 := Lib.hid (Duo.made M1.out (show Made w1 2 [] w2 X2 from m2))
  clear m2 M1 NEW
  go_wp2_with fail
  go_loopw [7] (fun a wr => ∃ i : Nat, a = i64 i ∧ i ≤ n ∧ Duo w wr 1 2 X1 X2 ((asTh us).take i) ((asTh us).take i)) (fun a _ => n - (intOf a).toNat)
  case atStart => exact ⟨0, rfl, by omega, D0.out⟩
  case round =>
    rename World => wl
    obtain ⟨k, rfl, hk, hT⟩ := hrel
    have HT := Lib.hid hT
    clear hT D0
    by_cases hlt : k < n
    · have hlt' : (k : Int) < (n : Int) := by omega
      obtain ⟨b, off, t, rfl, ht, x1⟩ := HL.out.at HT.out.below hlt
      have HT1 := Lib.hid ht
      have hlen : ((asTh us).take k).length ≤ 1000 := by rw [List.length_take, ALN.out]; omega
      have C1 := Lib.hid (HT.out.one (by decide) (by decide) 1 0 t (by decide) hlen (fun h => by cases h))
      have C2 := Lib.hid (fun (W : World) (L : List Th) (h : Duo w W 1 2 X1 X2 L ((asTh us).take k)) => h.two (by decide) (by decide) 3 0 t (by decide) hlen (fun h => by cases h))
      clear ht hlen
      go_wp2_with fail
      refine C1.out.mono ?_
      rintro e w4 ⟨rfl, hd⟩
      obtain ⟨b', off', t', e1, e2, y1⟩ := HL.out.at hd.below hlt
      cases e1
      obtain rfl : t' = t := by have := HT1.out; rw [e2] at this; exact Option.some.inj this
      have HD := Lib.hid hd
      clear hd e2 C1
      go_wp2_with fail
      refine (C2.out _ _ HD.out).mono ?_
      rintro e w5 ⟨rfl, hd⟩
      have HD2 := Lib.hid (show Duo w w5 1 2 X1 X2 ((asTh us).take (k + 1)) ((asTh us).take (k + 1)) from by rw [add_at HT1.out]; exact hd)
      clear hd C2 HD
      go_wp2
      go_roundw
      case rel => exact ⟨k + 1, by first | rfl | simp, by omega, HD2.out⟩
      case measure => simp [intOf]; omega
    · have hge : (n : Int) ≤ (k : Int) := by omega
      obtain rfl : k = n := by omega
      have D1 := Lib.hid (show Duo w wl 1 2 X1 X2 ((asTh us).take (k - 0)) ((asTh us).drop 0) from by
        have := HT.out
        rw [List.take_of_length_le (by rw [ALN.out]; omega)] at this
        rw [List.take_of_length_le (by rw [ALN.out]; omega)]; exact this)
      clear HT
      go_wp2_with fail
      go_loopw [8] (fun a wr => ∃ i : Nat, a = i64 i ∧ i ≤ k ∧ Duo w wr 1 2 X1 X2 ((asTh us).take (k - i)) ((asTh us).drop i)) (fun a _ => k - (intOf a).toNat)
      case atStart => exact ⟨0, rfl, by omega, D1.out⟩
      case round =>
        rename World => wm
        obtain ⟨j, rfl, hj, hT⟩ := hrel
        have HT := Lib.hid hT
        clear hT D1
        by_cases hltj : j < k
        · have hlt' : (j : Int) < (k : Int) := by omega
          obtain ⟨d, hd⟩ : ∃ d, k = j + d + 1 := ⟨k - j - 1, by omega⟩
          obtain ⟨b, off, t, rfl, ht, x1⟩ := HL.out.at HT.out.below hltj
          obtain ⟨b', off', t', e1, ht', x2⟩ := HL.out.at HT.out.below (show d < k by omega)
          cases e1
          have HD := Lib.hid hd
          have G1 := Lib.hid ht
          have G2 := Lib.hid ht'
          clear ht ht' hd hge hltj x1 x2
          go_wp2_with fail
          have hk7 : (k : Int) - 1 - (j : Int) = (d : Int) := by have := HD.out; omega
          have hw5 : IntKind.i64.wrap ((k : Int) - 1) = (k : Int) - 1 := by rw [IntKind.wrap_i64]; omega
          have hw7 : IntKind.i64.wrap (d : Int) = (d : Int) := by rw [IntKind.wrap_i64]; have := HD.out; omega
          have hdk : (d : Int) < (k : Int) := by have := HD.out; omega
          have hT := HT.out
          have hkj : k - j = d + 1 := by have := HD.out; omega
          rw [hkj] at hT
          have hPOP := pop_at G2.out
          have hDEQ := deq_at G1.out
          have hl1 : ((asTh us).take (d + 1)).length ≤ 1000 := by rw [List.length_take, ALN.out]; omega
          have hl2 : ((asTh us).drop j).length ≤ 1000 := by rw [List.length_drop, ALN.out]; omega
          have DI := Lib.hid (fun (W : World) (L : List Th) (h : Duo w W 1 2 X1 X2 ((asTh us).take (d + 1)) L) => hPOP ▸ h.one (by decide) (by decide) 2 0 0 (by decide) hl1 (fun h => by cases h))
          have DQ := Lib.hid (fun (W : World) (L : List Th) (h : Duo w W 1 2 X1 X2 L ((asTh us).drop j)) => hDEQ ▸ h.two (by decide) (by decide) 4 0 0 (by decide) hl2 (fun h => by cases h))
          clear hPOP hDEQ hl1 hl2 HT
          refine wp_region_state (by kernel_rfl) (fun y => ⟨#[Value.slice (some ⟨b, off, none⟩) k cap, undef, _, P X1, i64 0, P X2, i64 0, i64 (k : Int), i64 (j : Int), Value.tuple #[P X1, i64 0], Value.tuple #[P X1, i64 0], P X1, i64 0, Value.tuple #[P X2, i64 0], Value.tuple #[P X2, i64 0], P X2, i64 0, Value.slice (some ⟨b, off, none⟩) k cap, Value.int IntKind.i64 (k : Int), Value.bool false, Value.bool false, i64 0, Value.bool false, Value.bool false, Value.bool false, i64 0, Value.bool false, Value.bool false, Value.bool false, P X1, Value.bool false, Value.bool false, Value.bool false, P X2, Value.bool false, Value.bool false, undef, undef, undef, undef, undef, undef, i64 (k : Int), Value.slice (some ⟨b, off, none⟩) k cap, Value.int IntKind.i64 (k : Int), Value.bool false, _, _, _, _, _, _, _, _, _, _, _, _, _, _, i64 (j : Int), Value.slice (some ⟨b, off, none⟩) k cap, Value.int IntKind.i64 (k : Int), Value.bool true, _, _, y 0, y 1, y 2, y 3, y 4, y 5, y 6, y 7, y 8, y 9, y 10, y 11, y 12, y 13, y 14, y 15, y 16, y 17, y 18, y 19, y 20, y 21, undef, undef, undef, undef, undef, undef, undef, undef, undef, undef, undef, undef, undef, undef, undef, undef, undef, undef, undef, undef, undef], []⟩) (VO X1 X2 b off k cap j d t t') (B2 1 14 fun b1 b2 W => Duo w W 1 2 X1 X2 (if b1 then (asTh us).take d else (asTh us).take (d + 1)) (if b2 then (asTh us).drop (j + 1) else (asTh us).drop j)) (fun j => ([u66, u67, u68, u69, u70, u71, u72, u73, u74, u75, u76, u77, u78, u79, u80, u81, u82, u83, u84, u85, u86, u87] : List Value).getD j undef) (back_of (by kernel_rfl)) (by simpa [B2] using (show Duo w wm.drew 1 2 X1 X2 ((asTh us).take (d + 1)) ((asTh us).drop j) from hT.grow (below_drewN _ _ 1))) ?_ ?_
          · intro i oo ho l y wx hl hli hbx hpre
            have hi : i < 22 := (Array.getElem?_eq_some_iff.1 ho).1
            clear hT
            have hsz : l.size = 22 := hl.trans rfl
            clear hl
            rcases (show i = 0 ∨ i = 1 ∨ i = 2 ∨ i = 3 ∨ i = 4 ∨ i = 5 ∨ i = 6 ∨ i = 7 ∨ i = 8 ∨ i = 9 ∨ i = 10 ∨ i = 11 ∨ i = 12 ∨ i = 13 ∨ i = 14 ∨ i = 15 ∨ i = 16 ∨ i = 17 ∨ i = 18 ∨ i = 19 ∨ i = 20 ∨ i = 21 by omega) with rfl | rfl | rfl | rfl | rfl | rfl | rfl | rfl | rfl | rfl | rfl | rfl | rfl | rfl | rfl | rfl | rfl | rfl | rfl | rfl | rfl | rfl
            · obtain rfl := Option.some.inj ho
              clear hpre ho
              have HBX := Lib.hid hbx
              clear hbx
              refine wpOp_step rfl (fun K hK => ?_)
              simp only [upd, reduceIte, Nat.reduceEqDiff]
              go_simp
              exact hK _ _ ⟨_, rfl, rfl, B2.set HBX.out (by decide) (by decide)⟩
            · obtain rfl := Option.some.inj ho
              have e0 := (hpre ⟨0, .data⟩ (by simp) rfl).1
              clear hpre ho
              rw [upd_of e0]
              clear e0
              have HBX := Lib.hid hbx
              clear hbx
              refine wpOp_step rfl (fun K hK => ?_)
              simp only [upd, reduceIte, Nat.reduceEqDiff]
              have lno : l.getD 1 false = false := lst_no hli
              have CAL := Lib.hid (show Duo w wx 1 2 X1 X2 ((asTh us).take (d + 1)) (if l.getD 14 false then (asTh us).drop (j + 1) else (asTh us).drop j) from by have := HBX.out; unfold B2 at this; rw [lno] at this; exact this)
              go_simp
              go_wp2_with (go_at_call 16; refine (DI.out _ _ CAL.out).mono ?_; rintro e w7 ⟨rfl, hd⟩)
              exact ⟨_, rfl, rfl, B2.s1 (by omega) (by decide) hd⟩
            · obtain rfl := Option.some.inj ho
              clear hpre ho
              have HBX := Lib.hid hbx
              clear hbx
              refine wpOp_step rfl (fun K hK => ?_)
              simp only [upd, reduceIte, Nat.reduceEqDiff]
              go_simp
              exact hK _ _ ⟨_, rfl, rfl, B2.set HBX.out (by decide) (by decide)⟩
            · obtain rfl := Option.some.inj ho
              clear hpre ho
              have HBX := Lib.hid hbx
              clear hbx
              refine wpOp_step rfl (fun K hK => ?_)
              simp only [upd, reduceIte, Nat.reduceEqDiff]
              go_simp
              exact hK _ _ ⟨_, rfl, rfl, B2.set HBX.out (by decide) (by decide)⟩
            · obtain rfl := Option.some.inj ho
              have e3 := (hpre ⟨3, .data⟩ (by simp) rfl).1
              clear hpre ho
              rw [upd_of e3]
              clear e3
              have HBX := Lib.hid hbx
              clear hbx
              refine wpOp_step rfl (fun K hK => ?_)
              simp only [upd, reduceIte, Nat.reduceEqDiff]
              go_simp
              exact hK _ _ ⟨_, rfl, rfl, B2.set HBX.out (by decide) (by decide)⟩
            · obtain rfl := Option.some.inj ho
              have e4 := (hpre ⟨4, .data⟩ (by simp) rfl).1
              clear hpre ho
              rw [upd_of e4]
              clear e4
              have HBX := Lib.hid hbx
              clear hbx
              refine wpOp_step rfl (fun K hK => ?_)
              simp only [upd, reduceIte, Nat.reduceEqDiff]
              go_simp
              try rw [hw5]
              exact hK _ _ ⟨_, rfl, rfl, B2.set HBX.out (by decide) (by decide)⟩
            · obtain rfl := Option.some.inj ho
              clear hpre ho
              have HBX := Lib.hid hbx
              clear hbx
              refine wpOp_step rfl (fun K hK => ?_)
              simp only [upd, reduceIte, Nat.reduceEqDiff]
              go_simp
              exact hK _ _ ⟨_, rfl, rfl, B2.set HBX.out (by decide) (by decide)⟩
            · obtain rfl := Option.some.inj ho
              have e5 := (hpre ⟨5, .data⟩ (by simp) rfl).1
              have e6 := (hpre ⟨6, .data⟩ (by simp) rfl).1
              clear hpre ho
              rw [upd_of e5]
              rw [upd_of e6]
              clear e5 e6
              have HBX := Lib.hid hbx
              clear hbx
              refine wpOp_step rfl (fun K hK => ?_)
              simp only [upd, reduceIte, Nat.reduceEqDiff]
              go_simp
              try rw [hw7]
              exact hK _ _ ⟨_, rfl, rfl, B2.set HBX.out (by decide) (by decide)⟩
            · obtain rfl := Option.some.inj ho
              have e2 := (hpre ⟨2, .data⟩ (by simp) rfl).1
              have e7 := (hpre ⟨7, .data⟩ (by simp) rfl).1
              clear hpre ho
              rw [upd_of e2]
              rw [upd_of e7]
              clear e2 e7
              have HBX := Lib.hid hbx
              clear hbx
              refine wpOp_step rfl (fun K hK => ?_)
              simp only [upd, reduceIte, Nat.reduceEqDiff]
              go_simp
              exact hK _ _ ⟨_, rfl, rfl, B2.set HBX.out (by decide) (by decide)⟩
            · obtain rfl := Option.some.inj ho
              have e8 := (hpre ⟨8, .data⟩ (by simp) rfl).1
              clear hpre ho
              rw [upd_of e8]
              clear e8
              obtain ⟨b2, off2, t2, e1, e2, y1⟩ := HL.out.at hbx.below (show d < k by omega)
              cases e1
              obtain rfl : t2 = t' := by have := G2.out; rw [e2] at this; exact Option.some.inj this
              clear e2
              have HBX := Lib.hid hbx
              clear hbx
              refine wpOp_step rfl (fun K hK => ?_)
              simp only [upd, reduceIte, Nat.reduceEqDiff]
              go_simp
              exact hK _ _ ⟨_, rfl, rfl, B2.set HBX.out (by decide) (by decide)⟩
            · obtain rfl := Option.some.inj ho
              have e9 := (hpre ⟨9, .data⟩ (by simp) rfl).1
              clear hpre ho
              rw [upd_of e9]
              clear e9
              have HBX := Lib.hid hbx
              clear hbx
              refine wpOp_step rfl (fun K hK => ?_)
              simp only [upd, reduceIte, Nat.reduceEqDiff]
              go_simp
              go_wp2_with (go_at_call 17; refine (yes_any _ _).mono ?_; rintro e w7 ⟨rfl, hb7⟩)
              exact ⟨_, rfl, rfl, B2.set (HBX.out.grow hb7) (by decide) (by decide)⟩
            · obtain rfl := Option.some.inj ho
              have e1 := (hpre ⟨1, .data⟩ (by simp) rfl).1
              have e10 := (hpre ⟨10, .data⟩ (by simp) rfl).1
              clear hpre ho
              rw [upd_of e1]
              rw [upd_of e10]
              clear e1 e10
              have HBX := Lib.hid hbx
              clear hbx
              refine wpOp_step rfl (fun K hK => ?_)
              simp only [upd, reduceIte, Nat.reduceEqDiff]
              have NQ := nsame40
              have GU := guard40
              go_simp
              exact hK _ _ ⟨_, rfl, rfl, B2.set HBX.out (by decide) (by decide)⟩
            · obtain rfl := Option.some.inj ho
              have e11 := (hpre ⟨11, .data⟩ (by simp) rfl).1
              clear hpre ho
              rw [upd_of e11]
              clear e11
              have HBX := Lib.hid hbx
              clear hbx
              refine wpOp_step rfl (fun K hK => ?_)
              simp only [upd, reduceIte, Nat.reduceEqDiff]
              go_simp
              exact hK _ _ ⟨_, rfl, rfl, B2.set HBX.out (by decide) (by decide)⟩
            · obtain rfl := Option.some.inj ho
              have e12 := (hpre ⟨12, .guard⟩ (by simp) rfl).1
              clear hpre ho
              rw [upd_of e12]
              clear e12
              have HBX := Lib.hid hbx
              clear hbx
              refine wpOp_step rfl (fun K hK => ?_)
              simp only [upd, reduceIte, Nat.reduceEqDiff]
              go_simp
              exact hK _ _ ⟨_, rfl, rfl, B2.set HBX.out (by decide) (by decide)⟩
            · obtain rfl := Option.some.inj ho
              have e13 := (hpre ⟨13, .data⟩ (by simp) rfl).1
              have e12 := (hpre ⟨12, .guard⟩ (by simp) rfl).1
              clear hpre ho
              rw [upd_of e13]
              rw [upd_of e12]
              clear e13 e12
              have HBX := Lib.hid hbx
              clear hbx
              refine wpOp_step rfl (fun K hK => ?_)
              simp only [upd, reduceIte, Nat.reduceEqDiff]
              have lno : l.getD 14 false = false := lst_no hli
              have CAL := Lib.hid (show Duo w wx 1 2 X1 X2 (if l.getD 1 false then (asTh us).take d else (asTh us).take (d + 1)) ((asTh us).drop j) from by have := HBX.out; unfold B2 at this; rw [lno] at this; exact this)
              go_simp
              go_wp2_with (go_at_call 16; refine (DQ.out _ _ CAL.out).mono ?_; rintro e w7 ⟨rfl, hd⟩)
              exact ⟨_, rfl, rfl, B2.s2 (by omega) (by decide) hd⟩
            · obtain rfl := Option.some.inj ho
              have e12 := (hpre ⟨12, .guard⟩ (by simp) rfl).1
              clear hpre ho
              rw [upd_of e12]
              clear e12
              have HBX := Lib.hid hbx
              clear hbx
              refine wpOp_step rfl (fun K hK => ?_)
              simp only [upd, reduceIte, Nat.reduceEqDiff]
              go_simp
              exact hK _ _ ⟨_, rfl, rfl, B2.set HBX.out (by decide) (by decide)⟩
            · obtain rfl := Option.some.inj ho
              have e12 := (hpre ⟨12, .guard⟩ (by simp) rfl).1
              clear hpre ho
              rw [upd_of e12]
              clear e12
              have HBX := Lib.hid hbx
              clear hbx
              refine wpOp_step rfl (fun K hK => ?_)
              simp only [upd, reduceIte, Nat.reduceEqDiff]
              go_simp
              exact hK _ _ ⟨_, rfl, rfl, B2.set HBX.out (by decide) (by decide)⟩
            · obtain rfl := Option.some.inj ho
              have e15 := (hpre ⟨15, .data⟩ (by simp) rfl).1
              have e16 := (hpre ⟨16, .data⟩ (by simp) rfl).1
              have e12 := (hpre ⟨12, .guard⟩ (by simp) rfl).1
              clear hpre ho
              rw [upd_of e15]
              rw [upd_of e16]
              rw [upd_of e12]
              clear e15 e16 e12
              have HBX := Lib.hid hbx
              clear hbx
              refine wpOp_step rfl (fun K hK => ?_)
              simp only [upd, reduceIte, Nat.reduceEqDiff]
              go_simp
              exact hK _ _ ⟨_, rfl, rfl, B2.set HBX.out (by decide) (by decide)⟩
            · obtain rfl := Option.some.inj ho
              have e17 := (hpre ⟨17, .data⟩ (by simp) rfl).1
              have e12 := (hpre ⟨12, .guard⟩ (by simp) rfl).1
              clear hpre ho
              rw [upd_of e17]
              rw [upd_of e12]
              clear e17 e12
              obtain ⟨b2, off2, t2, e1, e2, y1⟩ := HL.out.at hbx.below (show j < k by omega)
              cases e1
              obtain rfl : t2 = t := by have := G1.out; rw [e2] at this; exact Option.some.inj this
              clear e2
              have HBX := Lib.hid hbx
              clear hbx
              refine wpOp_step rfl (fun K hK => ?_)
              simp only [upd, reduceIte, Nat.reduceEqDiff]
              go_simp
              exact hK _ _ ⟨_, rfl, rfl, B2.set HBX.out (by decide) (by decide)⟩
            · obtain rfl := Option.some.inj ho
              have e18 := (hpre ⟨18, .data⟩ (by simp) rfl).1
              have e12 := (hpre ⟨12, .guard⟩ (by simp) rfl).1
              clear hpre ho
              rw [upd_of e18]
              rw [upd_of e12]
              clear e18 e12
              have HBX := Lib.hid hbx
              clear hbx
              refine wpOp_step rfl (fun K hK => ?_)
              simp only [upd, reduceIte, Nat.reduceEqDiff]
              go_simp
              go_wp2_with (go_at_call 17; refine (yes_any _ _).mono ?_; rintro e w7 ⟨rfl, hb7⟩)
              exact ⟨_, rfl, rfl, B2.set (HBX.out.grow hb7) (by decide) (by decide)⟩
            · obtain rfl := Option.some.inj ho
              have e14 := (hpre ⟨14, .data⟩ (by simp) rfl).1
              have e19 := (hpre ⟨19, .data⟩ (by simp) rfl).1
              have e12 := (hpre ⟨12, .guard⟩ (by simp) rfl).1
              clear hpre ho
              rw [upd_of e14]
              rw [upd_of e19]
              rw [upd_of e12]
              clear e14 e19 e12
              have HBX := Lib.hid hbx
              clear hbx
              refine wpOp_step rfl (fun K hK => ?_)
              simp only [upd, reduceIte, Nat.reduceEqDiff]
              have NQ := nsame40
              have GU := guard40
              go_simp
              exact hK _ _ ⟨_, rfl, rfl, B2.set HBX.out (by decide) (by decide)⟩
            · obtain rfl := Option.some.inj ho
              have e12 := (hpre ⟨12, .data⟩ (by simp) rfl).1
              have e20 := (hpre ⟨20, .data⟩ (by simp) rfl).1
              clear hpre ho
              rw [upd_of e12]
              rw [upd_of e20]
              clear e12 e20
              have HBX := Lib.hid hbx
              clear hbx
              refine wpOp_step rfl (fun K hK => ?_)
              simp only [upd, reduceIte, Nat.reduceEqDiff]
              go_simp
              exact hK _ _ ⟨_, rfl, rfl, B2.set HBX.out (by decide) (by decide)⟩
          · intro l y wx hbx hall
            have e21 := (hall 21 (by decide)).1
            have d1 := (hall 1 (by decide)).2
            have d14 := (hall 14 (by decide)).2
            rw [upd_of e21]
            clear e21 hall
            simp only [upd, reduceIte, Nat.reduceEqDiff]
            have HF := Lib.hid (show Duo w wx 1 2 X1 X2 ((asTh us).take d) ((asTh us).drop (j + 1)) from by unfold B2 at hbx; rw [d1, d14] at hbx; exact hbx)
            clear hbx d1 d14
            go_wp2
            go_roundw
            case rel => exact ⟨j + 1, by first | rfl | simp, by omega, by rw [show k - (j + 1) = d by omega]; exact HF.out⟩
            case measure => simp [intOf]; omega
        · have hgej : (k : Int) ≤ (j : Int) := by omega
          obtain rfl : j = k := by omega
          have D2 := Lib.hid (show Duo w wm 1 2 X1 X2 [] [] from by
            have := HT.out
            rw [Nat.sub_self, List.take_zero, List.drop_eq_nil_of_le (by rw [ALN.out]; omega)] at this
            exact this)
          clear HT
          have FI := field40
          have SA := same40
          have GU := guard40
          go_wp2_with fail
          refine (D2.out.one (by decide) (by decide) 2 0 0 (by decide) (by decide) (fun h => by cases h)).mono ?_
          rintro e w4 ⟨rfl, hd⟩
          have D3 := Lib.hid (show Duo w w4 1 2 X1 X2 [] [] from hd)
          clear hd
          rw [show ansV (doI 1 2 0 0 []).1 = .agg #[.int .i64 0, .bool false, .int .u64 0] from rfl]
          go_wp2_with fail
          refine (D3.out.two (by decide) (by decide) 4 0 0 (by decide) (by decide) (fun h => by cases h)).mono ?_
          rintro e w5 ⟨rfl, hd⟩
          have D4 := Lib.hid (show Duo w w5 1 2 X1 X2 [] [] from hd)
          clear hd
          rw [show ansV (doI 2 4 0 0 []).1 = .agg #[.int .i64 0, .bool false, .int .u64 0] from rfl]
          go_wp2_with fail
          refine D4.out.len1.mono ?_
          rintro e w6 ⟨rfl, rfl⟩
          rw [show i64 ([] : List Th).length = .int .i64 0 from rfl]
          go_wp2_with fail
          refine D4.out.len2.mono ?_
          rintro e w6 ⟨rfl, rfl⟩
          rw [show i64 ([] : List Th).length = .int .i64 0 from rfl]
          go_wp2_with fail
          refine (known_any _).mono ?_
          rintro e w7 ⟨rfl, hb7⟩
          go_wp2
          go_returns
          exact ⟨rfl, D4.out.below.trans (hb7.mono D4.out.below.size)⟩

theorem law_order {n cap : Nat} {ad : Option Addr} {us : List Int} (w : World) (hl : UsIn ad n us w) (hm : n ≤ 9223372036854775807) :
    Calls Try.prog 5 #[.slice ad n cap] w fun e w' => e = .returned (.bool true) ∧ Below w.heap.size w w' := by
  by_cases hn : n ≤ 60
  · exact order_main w hl hn
  · have NEW := Lib.hid (fun (c : Int) h1 h2 (W : World) => new_any (cap := 0) c h1 h2 (by decide) W (nothing_in W))
    have h60 : decide (60 < (n : Int)) = true := by simp; omega
    clear hl hn
    go_enter Try.func5, Try.ntmps5
    go_wp2_with fail
    refine (NEW.out 1 (by decide) (by decide) _).mono ?_
    rintro e w1 ⟨X1, rfl, m1⟩
    have M1 := Lib.hid (show Made w 1 [] w1 X1 from m1)
    clear m1
    go_wp2_with fail
    refine (NEW.out 2 (by decide) (by decide) _).mono ?_
    rintro e w2 ⟨X2, rfl, m2⟩
    have D0 := Lib.hid (Duo.made M1.out (show Made w1 2 [] w2 X2 from m2)).below
    clear m2 M1 NEW
    go_wp2_with fail
    refine (known_any _).mono ?_
    rintro e w3 ⟨rfl, hb3⟩
    go_wp2
    go_returns
    exact ⟨rfl, D0.out.trans (hb3.mono D0.out.size)⟩
end Go.Proofs.Ytphfcfnbefikiaa
