/- The law ModelKeys: the walk. -/
import Derived.Test.YtphfcfnbefikiaaF6a
namespace Go.Proofs.Ytphfcfnbefikiaa
open Go.RowKit
set_option linter.unusedVariables false
set_option linter.unusedSimpArgs false

def VK1 (X X2 Bc : Nat) (o k x p s : Int) (a : Bool) : Nat → Value → Prop
  | 0, v => v = .int .i64 0
  | 1, v => v = .bool false
  | 2, v => v = .bool false
  | 3, v => v = P X2
  | 4, v => v = .bool false
  | 5, v => v = .bool false
  | 6, v => v = .bool false
  | 7, v => v = P X2
  | 8, v => v = .pointer (some ⟨Bc, 0, none⟩)
  | 9, v => v = .int .i64 o
  | 10, v => v = .pointer (some ⟨Bc, 1, none⟩)
  | 11, v => v = .int .u64 k
  | 12, v => v = .pointer (some ⟨Bc, 2, none⟩)
  | 13, v => v = .int .u64 x
  | 14, v => v = .agg #[.int .i64 p, .bool a, .int .u64 s]
  | 15, v => v = P X
  | 16, v => v = .pointer (some ⟨Bc, 0, none⟩)
  | 17, v => v = .int .i64 o
  | 18, v => v = .pointer (some ⟨Bc, 1, none⟩)
  | 19, v => v = .int .u64 k
  | 20, v => v = .pointer (some ⟨Bc, 2, none⟩)
  | 21, v => v = .int .u64 x
  | 22, v => v = .agg #[.int .i64 p, .bool a, .int .u64 s]
  | 23, v => v = .bool false
  | 24, v => v = .bool false
  | _, v => True

def VK2 (X Bc b off i j c5 : Nat) (tk tv k : Int) : Nat → Value → Prop
  | 0, v => v = .slice (some ⟨b, off, none⟩) i c5
  | 1, v => v = .int .i64 (j : Int)
  | 2, v => v = .pointer (some ⟨b, off + j * 2, none⟩)
  | 3, v => v = .pointer (some ⟨b, off + j * 2, none⟩)
  | 4, v => v = .int .u64 tk
  | 5, v => v = .pointer (some ⟨Bc, 1, none⟩)
  | 6, v => v = .int .u64 k
  | 7, v => v = .bool false
  | 8, v => v = .bool false
  | 9, _ => True
  | 10, _ => True
  | 11, _ => True
  | 12, _ => True
  | 13, _ => True
  | 14, _ => True
  | 15, _ => True
  | 16, _ => True
  | 17, _ => True
  | 18, _ => True
  | 19, _ => True
  | 20, _ => True
  | 21, _ => True
  | 22, _ => True
  | 23, v => v = .bool false
  | _, _ => True

def VK3 (X Bc b off i j c5 : Nat) (tk tv k : Int) : Nat → Value → Prop
  | 0, v => v = .slice (some ⟨b, off, none⟩) i c5
  | 1, v => v = .int .i64 (j : Int)
  | 2, v => v = .pointer (some ⟨b, off + j * 2, none⟩)
  | 3, v => v = .pointer (some ⟨b, off + j * 2, none⟩)
  | 4, v => v = .int .u64 tk
  | 5, v => v = .pointer (some ⟨Bc, 1, none⟩)
  | 6, v => v = .int .u64 k
  | 7, v => v = .bool true
  | 8, v => v = .bool true
  | 9, v => v = P X
  | 10, v => v = .slice (some ⟨b, off, none⟩) i c5
  | 11, v => v = .int .i64 (j : Int)
  | 12, v => v = .pointer (some ⟨b, off + j * 2, none⟩)
  | 13, v => v = .pointer (some ⟨b, off + j * 2, none⟩)
  | 14, v => v = .int .u64 tk
  | 15, v => v = .agg #[.int .i64 0, .bool true, .int .u64 tv]
  | 16, v => v = .slice (some ⟨b, off, none⟩) i c5
  | 17, v => v = .int .i64 (j : Int)
  | 18, v => v = .pointer (some ⟨b, off + j * 2, none⟩)
  | 19, v => v = .pointer (some ⟨b, off + j * 2 + 1, none⟩)
  | 20, v => v = .int .u64 tv
  | 21, v => v = .agg #[.int .i64 0, .bool true, .int .u64 tv]
  | 22, v => v = .bool false
  | 23, v => v = .bool false
  | _, _ => True

set_option maxRecDepth 100000 in
set_option maxHeartbeats 8000000 in
theorem keys_main {n1 cap n2 cap2 : Nat} {ad ad2 : Option Addr} {l : List Th} {q : List Cl} (n o k x : Int) (ho : (Lit.int .i64 o).wf = true) (w : World) (hl : ThsIn ad n1 l w) (hq : CallsIn ad2 n2 q w) (hf : n1 ≤ 30 ∧ n2 ≤ 80) :
    Calls Try.prog 6 #[i64 n, .slice ad n1 cap, .slice ad2 n2 cap2, .agg #[.int .i64 o, .int .u64 k, .int .u64 x]] w fun e w' => e = .returned (.bool true) ∧ Below w.heap.size w w' := by
  have hcl := urem n 4 (by decide) (by decide)
  generalize hx : (IntKind.u64.wrap n).tmod 4 = r at hcl
  have hb0 : Below w.heap.size w (w.alloc (.cells #[.int .i64 o, .int .u64 k, .int .u64 x] 47)) := by go_grown
  have hlb := newI_len (3 + r) l []
  have hlr := runI_len (3 + r) q (newI (3 + r) l [])
  have hqb := newR_len (3 + r) l []
  have hqr := runR_len (3 + r) q (newR (3 + r) l [])
  have hl1 := hl.1
  have hq1 := hq.1
  simp only [List.length_nil] at hlb hqb
  have SIM := Lib.hid (run_sim (3 + r) q _ _ (sim_new (3 + r) l [] [] (sim_nil _)))
  have BH := Lib.hid (behind_any (cap := cap) (cap2 := cap2) (3 + r) (by omega) (by omega) (by omega) (by omega) _ (hl.below hb0) (hq.below hb0))
  have HC := Lib.hid (show 1 ≤ 3 + r ∧ 3 + r ≤ 6 from by omega)
  have HM := Lib.hid (show isMap (3 + r) = true from by unfold isMap; simp; omega)
  have LEN := Lib.hid (show (runI (3 + r) q (newI (3 + r) l [])).length ≤ 200 ∧ (runR (3 + r) q (newR (3 + r) l [])).length ≤ 200 from by omega)
  generalize runI (3 + r) q (newI (3 + r) l []) = L at *
  generalize runR (3 + r) q (newR (3 + r) l []) = Q at *
  have SRT := Lib.hid (sim_srt SIM.out HM.out)
  have TELL := Lib.hid (show things (3 + r) Q = L from by rw [things_tell SIM.out]; unfold tell; rw [if_neg (isMap_ne HM.out).1])
  have hb : (decide (n1 ≤ 30) && decide (n2 ≤ 80)) = true := by simp [hf]
  have c0 : (w.alloc (.cells #[.int .i64 o, .int .u64 k, .int .u64 x] 47)).cell? ⟨w.heap.size, 0, none⟩ = some (.int .i64 o) := by simp [go_sem]
  have c1 : (w.alloc (.cells #[.int .i64 o, .int .u64 k, .int .u64 x] 47)).cell? ⟨w.heap.size, 1, none⟩ = some (.int .u64 k) := by simp [go_sem]
  have c2 : (w.alloc (.cells #[.int .i64 o, .int .u64 k, .int .u64 x] 47)).cell? ⟨w.heap.size, 2, none⟩ = some (.int .u64 x) := by simp [go_sem]
  have hbs : w.heap.size < (w.alloc (.cells #[.int .i64 o, .int .u64 k, .int .u64 x] 47)).heap.size := by simp
  clear hl hq hlb hlr hqb hqr hl1 hq1
  go_enter Try.func6, Try.ntmps6
  go_wp2_with fail
  refine (few_any _).mono ?_
  rintro e w1 ⟨rfl, rfl⟩
  rw [hb]
  go_wp2_with fail
  refine BH.out.mono ?_
  rintro e w2 ⟨X, Y, rfl, hT⟩
  generalize hwb : w.alloc (.cells #[.int .i64 o, .int .u64 k, .int .u64 x] 47) = wb at *
  clear hwb BH hb hx
  have HT := Lib.hid hT
  have TH := Lib.hid (hT.rthings HC.out.1 HC.out.2 (by have := LEN.out; omega))
  clear hT
  go_wp2_with fail
  refine TH.out.mono ?_
  rintro e w3 ⟨a5, c5, m, rfl, ho5, hb5⟩
  rw [TELL.out] at ho5
  have HO5 := Lib.hid ho5
  have HB5 := Lib.hid hb5
  have HB3 := Lib.hid (show Below wb.heap.size wb w3 from HT.out.below.trans (hb5.mono HT.out.below.size))
  have hm : m ≤ 200 := by have := ho5.1; have := LEN.out; omega
  have d1 := keep HB3.out c1
  clear ho5 hb5 TH
  go_wp2_with fail
  go_loopw [13, 15] (fun v13 v15 wr => ∃ (i k4 cap4 : Nat) (ad4 : Option Addr), v15 = i64 i ∧ i ≤ m ∧ v13 = .slice ad4 k4 cap4 ∧ k4 ≤ i ∧ OwnSl w3.heap.size wr (.slice ad4 k4 cap4) k4 (onlyK k (L.take i)) ∧ Below w3.heap.size w3 wr) (fun _ v15 _ => m - (intOf v15).toNat)
  case atStart => exact ⟨0, 0, 0, none, rfl, by omega, rfl, Nat.le_refl _, ⟨rfl, Sl.nil _ _ _, fun b hb => by cases hb⟩, Below.refl _ _⟩
  case round =>
    rename World => wl
    obtain ⟨i, k4, cap4, ad4, rfl, hi, rfl, hki, hO, hbl⟩ := hrel
    have HO := Lib.hid hO
    have HBL := Lib.hid hbl
    clear hO hbl
    by_cases hlt : i < m
    · have hlt' : (i : Int) < (m : Int) := by omega
      have HTS := thsIn_own HO5.out
      obtain ⟨t, ht⟩ : ∃ t, L[i]? = some t := ⟨_, List.getElem?_eq_getElem (by rw [HTS.1]; exact hlt)⟩
      obtain ⟨b, off, rfl, x1, x2⟩ := HTS.2 i t ht
      have y1 := keep HBL.out x1
      have y2 := keep HBL.out x2
      have yk := keep HBL.out d1
      have SN := Lib.hid (show onlyK k (L.take (i + 1)) = _ from (take_snoc ht) ▸ onlyK_snoc k (L.take i) t)
      clear HTS ht x1 x2
      obtain ⟨tk, tv⟩ := t
      by_cases hke : tk = k
      · subst hke
        have hbq : ∀ nq, Below wl.heap.size wl ((wl.drewN nq).alloc (.cells #[.int .u64 tk, .int .u64 tv] 51)) := fun nq => (below_drewN _ wl nq).trans (show Below (wl.drewN nq).heap.size (wl.drewN nq) _ by go_grown)
        have RUN := Lib.hid (fun (nq : Nat) => app_own (w := w3) (W := (wl.drewN nq).alloc (.cells #[.int .u64 tk, .int .u64 tv] 51)) (HBL.out.trans ((hbq nq).mono HBL.out.size)) (Nat.le_refl _) (HO.out.below (hbq nq)) (sl_one (B := wl.heap.size) (t := (tk, tv)) (heap_alloc_new (wl.drewN nq) _)) rfl (by omega) 22 (k := k4 + 1) rfl)
        clear hbq
        go_wp2_with fail
        go_quiet (fail)
        go_wp2_with ((with_reducible show wpList _ _ _ (Oper.mk _ (Op.call { callee := Callee.builtin Builtin.append, args := _, argTypes := _ }) _ _ _ _ :: _) _ _); refine wpList_app rfl (.tmp 55) (.tmp 60) 22 22 rfl rfl rfl (RUN.out _) ?_; rintro ad9 cap9 w9 H; have H9 := Lib.hid H; clear H)
        go_roundw
        case rel => exact ⟨i + 1, k4 + 1, cap9, ad9, by first | rfl | simp, by omega, rfl, by omega, by rw [SN.out, if_pos (by simp)]; exact H9.out.1, H9.out.2⟩
        case measure => simp [intOf]; omega
      · have hke' : decide (tk = k) = false := by simp [hke]
        have hke2 : (tk == k) = false := by simp [hke]
        go_wp2_with fail
        go_quiet (fail)
        go_wp2_with fail
        go_roundw
        case rel => exact ⟨i + 1, k4, cap4, ad4, by first | rfl | simp, by omega, rfl, by omega, by rw [SN.out, if_neg (by simpa using hke)]; exact HO.out.below (below_drewN _ _ _), HBL.out.trans (below_drewN _ _ _)⟩
        case measure => simp [intOf]; omega
    · have hge : (m : Int) ≤ (i : Int) := by omega
      obtain rfl : i = m := by omega
      have hLm : L.take i = L := List.take_of_length_le (by have := HO5.out.1; omega)
      have HO6 := Lib.hid (show OwnSl w3.heap.size wl (.slice ad4 k4 cap4) k4 (onlyK k L) from hLm ▸ HO.out)
      have NEW := Lib.hid (new_any (cap := cap4) (3 + r) HC.out.1 HC.out.2 (by omega) wl (thsIn_own HO6.out))
      clear hLm HO
      go_wp2_with fail
      refine NEW.out.mono ?_
      rintro e w5 ⟨X2, rfl, hm5⟩
      rw [new_onlyK HM.out SRT.out] at hm5
      obtain ⟨S, hPr, hS1, hS2, hBw⟩ := Pr.made HT.out (HB5.out.trans (Below.mono HBL.out HB5.out.size)) hm5
      have HS := Lib.hid (And.intro hS1 (And.intro hS2 hBw))
      have SBC : S w.heap.size := hS1 _ hbs
      have q0 : w5.cell? ⟨w.heap.size, 0, none⟩ = some (.int .i64 o) := keep hBw c0
      have q1 : w5.cell? ⟨w.heap.size, 1, none⟩ = some (.int .u64 k) := keep hBw c1
      have q2 : w5.cell? ⟨w.heap.size, 2, none⟩ = some (.int .u64 x) := keep hBw c2
      have BOX := Lib.hid (fun (W : World) (h : Stay S w5 W) => And.intro (h.cell SBC q0) (And.intro (h.cell SBC q1) (h.cell SBC q2)))
      have THS := Lib.hid (show ∀ j t, L[j]? = some t → ∃ b off, a5 = some ⟨b, off, none⟩ ∧ ∀ W, Stay S w5 W → W.cell? ⟨b, off + j * 2, none⟩ = some (.int .u64 t.1) ∧ W.cell? ⟨b, off + j * 2 + 1, none⟩ = some (.int .u64 t.2) from fun j t ht => by
        obtain ⟨b, off, e, x1, x2⟩ := (thsIn_own HO5.out).2 j t ht
        have hlo : w2.heap.size ≤ b := HO5.out.2.2 b (by rw [e]; rfl)
        have hb3 : b < w3.heap.size := World.block_lt_of_cell? _ _ x1
        have hsb : S b := hS2 b hlo (Nat.lt_of_lt_of_le hb3 HBL.out.size)
        obtain ⟨_, _, _, b5, _⟩ := hm5
        have hb35 : Below w3.heap.size w3 w5 := HBL.out.trans (b5.mono HBL.out.size)
        exact ⟨b, off, e, fun W hW => ⟨hW.cell hsb (keep hb35 x1), hW.cell hsb (keep hb35 x2)⟩⟩)
      have H0 := Lib.hid hPr
      have DA := Lib.hid (fun (W : World) (L2 : List Th) (h : Pr S w5 W (3 + r) X2 X (onlyK k L) L2) => h.one HC.out.1 HC.out.2 o k x ho (by have := LEN.out.1; unfold onlyK; exact Nat.le_trans (List.length_filter_le ..) (by omega)) (fun _ => onlyK_srt k SRT.out))
      have DB := Lib.hid (fun (W : World) (L1 : List Th) (h : Pr S w5 W (3 + r) X2 X L1 L) => h.two HC.out.1 HC.out.2 o k x ho (by have := LEN.out.1; omega) (fun _ => SRT.out))
      have hsame := doI_onlyK HM.out SRT.out o k x
      have hmem := fun (t : Th) (h : t.1 ≠ k) => doI_other (o := o) (x := x) HM.out (L := L) h
      have hsrt2 : Srt (doI (3 + r) o k x L).2 := doI_srt _ _ _ _ _ HM.out SRT.out
      have hlen2 : (doI (3 + r) o k x L).2.length ≤ 1000 := by have := doI_len (3 + r) o k x L; have := LEN.out.1; omega
      obtain ⟨⟨p, a, s⟩, F', hdA⟩ : ∃ a F', doI (3 + r) o k x (onlyK k L) = (a, F') := ⟨_, _, rfl⟩
      obtain ⟨aB, L', hdB⟩ : ∃ a L', doI (3 + r) o k x L = (a, L') := ⟨_, _, rfl⟩
      rw [hdA, hdB] at hsame
      simp only at hsame
      subst hsame
      rw [hdB] at hmem hsrt2 hlen2
      rw [hdA] at DA
      rw [hdB] at DB
      have NEXT := Lib.hid (And.intro hmem (And.intro hsrt2 hlen2))
      clear hm5 hPr hS1 hS2 hBw q0 q1 q2 c0 c1 c2 d1 NEW hmem hsrt2 hlen2 HO6 HBL HT HB5 HB3
      go_wp2_with fail
      refine wp_region_state (by kernel_rfl) (fun yy => ⟨#[i64 n, Value.slice ad n1 cap, Value.slice ad2 n2 cap2, Value.agg #[Value.int IntKind.i64 o, Value.int IntKind.u64 k, Value.int IntKind.u64 x], undef, undef, undef, Value.pointer (some ⟨w.heap.size, 0, none⟩), Value.bool false, Value.int IntKind.i64 (3 + r), P X, P Y, Value.bool true, Value.slice ad4 k4 cap4, Value.slice a5 i c5, i64 (i : Int), P X2, i64 0, undef, i64 n, Value.int IntKind.u64 (IntKind.u64.wrap n), Value.int IntKind.u64 r, Value.int IntKind.i64 r, Value.int IntKind.i64 (3 + r), Value.slice ad n1 cap, Value.slice ad2 n2 cap2, Value.bool true, Value.bool false, undef, Value.tuple #[P X, P Y, Value.bool true], Value.int IntKind.i64 (3 + r), Value.slice ad n1 cap, Value.slice ad2 n2 cap2, Value.tuple #[P X, P Y, Value.bool true], P X, P Y, Value.bool true, Value.bool true, Value.bool false, P Y, Value.slice a5 i c5, i64 (i : Int), Value.slice a5 i c5, Value.int IntKind.i64 (i : Int), Value.bool false, _, _, _, _, _, _, _, _, _, _, _, _, _, _, _, _, _, Value.tuple #[P X2, i64 0], Value.int IntKind.i64 (3 + r), Value.slice ad4 k4 cap4, Value.tuple #[P X2, i64 0], P X2, i64 0, yy 0, yy 1, yy 2, yy 3, yy 4, yy 5, yy 6, yy 7, yy 8, yy 9, yy 10, yy 11, yy 12, yy 13, yy 14, yy 15, yy 16, yy 17, yy 18, yy 19, yy 20, yy 21, yy 22, yy 23, yy 24, undef, undef, undef, undef, undef, undef, undef, undef, undef, undef, undef, undef, undef, undef, undef, undef, undef, undef, undef, undef, undef, undef, undef, undef, undef, undef, undef, undef, undef, undef, undef], []⟩) (VK1 X X2 w.heap.size o k x p s a) (B2 14 22 (fun b1 b2 W => Pr S w5 W (3 + r) X2 X (if b1 then F' else onlyK k L) (if b2 then L' else L))) (fun j => ([undef, undef, undef, undef, undef, undef, undef, undef, undef, undef, undef, undef, undef, undef, undef, undef, undef, undef, undef, undef, undef, undef, undef, undef, undef] : List Value).getD j undef) (back_of (by kernel_rfl)) (by simpa [B2] using (show Pr S w5 w5.drew (3 + r) X2 X (onlyK k L) L from H0.out.grow (below_drewN _ _ 1))) ?_ ?_
      · intro iz oo hoo l y wx hl hli hbx hpre
        have hiz : iz < 25 := (Array.getElem?_eq_some_iff.1 hoo).1
        have hsz : l.size = 25 := hl.trans rfl
        clear hl
        rcases (show iz = 0 ∨ iz = 1 ∨ iz = 2 ∨ iz = 3 ∨ iz = 4 ∨ iz = 5 ∨ iz = 6 ∨ iz = 7 ∨ iz = 8 ∨ iz = 9 ∨ iz = 10 ∨ iz = 11 ∨ iz = 12 ∨ iz = 13 ∨ iz = 14 ∨ iz = 15 ∨ iz = 16 ∨ iz = 17 ∨ iz = 18 ∨ iz = 19 ∨ iz = 20 ∨ iz = 21 ∨ iz = 22 ∨ iz = 23 ∨ iz = 24 by omega) with rfl | rfl | rfl | rfl | rfl | rfl | rfl | rfl | rfl | rfl | rfl | rfl | rfl | rfl | rfl | rfl | rfl | rfl | rfl | rfl | rfl | rfl | rfl | rfl | rfl
        · obtain rfl := Option.some.inj hoo
          clear hpre hoo
          have HBX := Lib.hid hbx
          clear hbx
          refine wpOp_step rfl (fun K hK => ?_)
          simp only [upd, reduceIte, Nat.reduceEqDiff]
          go_simp
          exact hK _ _ ⟨_, rfl, rfl, B2.set HBX.out (by decide) (by decide)⟩
        · obtain rfl := Option.some.inj hoo
          obtain ⟨e0, d0⟩ := hpre ⟨0, .data⟩ (by simp) rfl
          clear hpre hoo
          rw [upd_of e0]
          clear e0
          have HBX := Lib.hid hbx
          clear hbx
          refine wpOp_step rfl (fun K hK => ?_)
          simp only [upd, reduceIte, Nat.reduceEqDiff]
          go_simp
          exact hK _ _ ⟨_, rfl, rfl, B2.set HBX.out (by decide) (by decide)⟩
        · obtain rfl := Option.some.inj hoo
          obtain ⟨e1, d1⟩ := hpre ⟨1, .data⟩ (by simp) rfl
          clear hpre hoo
          rw [upd_of e1]
          clear e1
          have HBX := Lib.hid hbx
          clear hbx
          refine wpOp_step rfl (fun K hK => ?_)
          simp only [upd, reduceIte, Nat.reduceEqDiff]
          go_simp
          exact hK _ _ ⟨_, rfl, rfl, B2.set HBX.out (by decide) (by decide)⟩
        · obtain rfl := Option.some.inj hoo
          obtain ⟨e2, d2⟩ := hpre ⟨2, .guard⟩ (by simp) rfl
          clear hpre hoo
          rw [upd_of e2]
          clear e2
          have HBX := Lib.hid hbx
          clear hbx
          refine wpOp_step rfl (fun K hK => ?_)
          simp only [upd, reduceIte, Nat.reduceEqDiff]
          go_simp
          exact hK _ _ ⟨_, rfl, rfl, B2.set HBX.out (by decide) (by decide)⟩
        · obtain rfl := Option.some.inj hoo
          obtain ⟨e3, d3⟩ := hpre ⟨3, .data⟩ (by simp) rfl
          obtain ⟨e2, d2⟩ := hpre ⟨2, .guard⟩ (by simp) rfl
          clear hpre hoo
          rw [upd_of e3]
          rw [upd_of e2]
          clear e3 e2
          have HBX := Lib.hid hbx
          clear hbx
          refine wpOp_step rfl (fun K hK => ?_)
          simp only [upd, reduceIte, Nat.reduceEqDiff]
          go_simp
          exact hK _ _ ⟨_, rfl, rfl, B2.set HBX.out (by decide) (by decide)⟩
        · obtain rfl := Option.some.inj hoo
          obtain ⟨e2, d2⟩ := hpre ⟨2, .data⟩ (by simp) rfl
          obtain ⟨e4, d4⟩ := hpre ⟨4, .data⟩ (by simp) rfl
          clear hpre hoo
          rw [upd_of e2]
          rw [upd_of e4]
          clear e2 e4
          have HBX := Lib.hid hbx
          clear hbx
          refine wpOp_step rfl (fun K hK => ?_)
          simp only [upd, reduceIte, Nat.reduceEqDiff]
          go_simp
          exact hK _ _ ⟨_, rfl, rfl, B2.set HBX.out (by decide) (by decide)⟩
        · obtain rfl := Option.some.inj hoo
          obtain ⟨e5, d5⟩ := hpre ⟨5, .data⟩ (by simp) rfl
          clear hpre hoo
          rw [upd_of e5]
          clear e5
          have HBX := Lib.hid hbx
          clear hbx
          refine wpOp_step rfl (fun K hK => ?_)
          simp only [upd, reduceIte, Nat.reduceEqDiff]
          go_simp
          exact hK _ _ ⟨_, rfl, rfl, B2.set HBX.out (by decide) (by decide)⟩
        · obtain rfl := Option.some.inj hoo
          obtain ⟨e6, d6⟩ := hpre ⟨6, .guard⟩ (by simp) rfl
          clear hpre hoo
          rw [upd_of e6]
          clear e6
          have HBX := Lib.hid hbx
          clear hbx
          refine wpOp_step rfl (fun K hK => ?_)
          simp only [upd, reduceIte, Nat.reduceEqDiff]
          go_simp
          exact hK _ _ ⟨_, rfl, rfl, B2.set HBX.out (by decide) (by decide)⟩
        · obtain rfl := Option.some.inj hoo
          obtain ⟨e6, d6⟩ := hpre ⟨6, .guard⟩ (by simp) rfl
          clear hpre hoo
          rw [upd_of e6]
          clear e6
          have HBX := Lib.hid hbx
          clear hbx
          refine wpOp_step rfl (fun K hK => ?_)
          simp only [upd, reduceIte, Nat.reduceEqDiff]
          go_simp
          exact hK _ _ ⟨_, rfl, rfl, B2.set HBX.out (by decide) (by decide)⟩
        · obtain rfl := Option.some.inj hoo
          obtain ⟨e8, d8⟩ := hpre ⟨8, .data⟩ (by simp) rfl
          obtain ⟨e6, d6⟩ := hpre ⟨6, .guard⟩ (by simp) rfl
          clear hpre hoo
          rw [upd_of e8]
          rw [upd_of e6]
          clear e8 e6
          obtain ⟨b0, b1, b2⟩ := BOX.out wx hbx.stay
          have HBX := Lib.hid hbx
          clear hbx
          refine wpOp_step rfl (fun K hK => ?_)
          simp only [upd, reduceIte, Nat.reduceEqDiff]
          go_simp
          exact hK _ _ ⟨_, rfl, rfl, B2.set HBX.out (by decide) (by decide)⟩
        · obtain rfl := Option.some.inj hoo
          obtain ⟨e6, d6⟩ := hpre ⟨6, .guard⟩ (by simp) rfl
          clear hpre hoo
          rw [upd_of e6]
          clear e6
          have HBX := Lib.hid hbx
          clear hbx
          refine wpOp_step rfl (fun K hK => ?_)
          simp only [upd, reduceIte, Nat.reduceEqDiff]
          go_simp
          exact hK _ _ ⟨_, rfl, rfl, B2.set HBX.out (by decide) (by decide)⟩
        · obtain rfl := Option.some.inj hoo
          obtain ⟨e10, d10⟩ := hpre ⟨10, .data⟩ (by simp) rfl
          obtain ⟨e6, d6⟩ := hpre ⟨6, .guard⟩ (by simp) rfl
          clear hpre hoo
          rw [upd_of e10]
          rw [upd_of e6]
          clear e10 e6
          obtain ⟨b0, b1, b2⟩ := BOX.out wx hbx.stay
          have HBX := Lib.hid hbx
          clear hbx
          refine wpOp_step rfl (fun K hK => ?_)
          simp only [upd, reduceIte, Nat.reduceEqDiff]
          go_simp
          exact hK _ _ ⟨_, rfl, rfl, B2.set HBX.out (by decide) (by decide)⟩
        · obtain rfl := Option.some.inj hoo
          obtain ⟨e6, d6⟩ := hpre ⟨6, .guard⟩ (by simp) rfl
          clear hpre hoo
          rw [upd_of e6]
          clear e6
          have HBX := Lib.hid hbx
          clear hbx
          refine wpOp_step rfl (fun K hK => ?_)
          simp only [upd, reduceIte, Nat.reduceEqDiff]
          go_simp
          exact hK _ _ ⟨_, rfl, rfl, B2.set HBX.out (by decide) (by decide)⟩
        · obtain rfl := Option.some.inj hoo
          obtain ⟨e12, d12⟩ := hpre ⟨12, .data⟩ (by simp) rfl
          obtain ⟨e6, d6⟩ := hpre ⟨6, .guard⟩ (by simp) rfl
          clear hpre hoo
          rw [upd_of e12]
          rw [upd_of e6]
          clear e12 e6
          obtain ⟨b0, b1, b2⟩ := BOX.out wx hbx.stay
          have HBX := Lib.hid hbx
          clear hbx
          refine wpOp_step rfl (fun K hK => ?_)
          simp only [upd, reduceIte, Nat.reduceEqDiff]
          go_simp
          exact hK _ _ ⟨_, rfl, rfl, B2.set HBX.out (by decide) (by decide)⟩
        · obtain rfl := Option.some.inj hoo
          obtain ⟨e7, d7⟩ := hpre ⟨7, .data⟩ (by simp) rfl
          obtain ⟨e9, d9⟩ := hpre ⟨9, .data⟩ (by simp) rfl
          obtain ⟨e11, d11⟩ := hpre ⟨11, .data⟩ (by simp) rfl
          obtain ⟨e13, d13⟩ := hpre ⟨13, .data⟩ (by simp) rfl
          obtain ⟨e6, d6⟩ := hpre ⟨6, .guard⟩ (by simp) rfl
          clear hpre hoo
          rw [upd_of e7]
          rw [upd_of e9]
          rw [upd_of e11]
          rw [upd_of e13]
          rw [upd_of e6]
          clear e7 e9 e11 e13 e6
          have HBX := Lib.hid hbx
          clear hbx
          refine wpOp_step rfl (fun K hK => ?_)
          simp only [upd, reduceIte, Nat.reduceEqDiff]
          have lno : l.getD 14 false = false := lst_no hli
          have CAL := Lib.hid (show Pr S w5 wx (3 + r) X2 X (onlyK k L) (if l.getD 22 false then L' else L) from by have := HBX.out; unfold B2 at this; rw [lno] at this; exact this)
          go_simp
          go_wp2_with (go_at_call 16; refine (DA.out _ _ CAL.out).mono ?_; rintro e w7 ⟨rfl, hd⟩)
          exact ⟨_, rfl, rfl, B2.s1 (by omega) (by decide) hd⟩
        · obtain rfl := Option.some.inj hoo
          obtain ⟨e6, d6⟩ := hpre ⟨6, .guard⟩ (by simp) rfl
          clear hpre hoo
          rw [upd_of e6]
          clear e6
          have HBX := Lib.hid hbx
          clear hbx
          refine wpOp_step rfl (fun K hK => ?_)
          simp only [upd, reduceIte, Nat.reduceEqDiff]
          go_simp
          exact hK _ _ ⟨_, rfl, rfl, B2.set HBX.out (by decide) (by decide)⟩
        · obtain rfl := Option.some.inj hoo
          obtain ⟨e6, d6⟩ := hpre ⟨6, .guard⟩ (by simp) rfl
          clear hpre hoo
          rw [upd_of e6]
          clear e6
          have HBX := Lib.hid hbx
          clear hbx
          refine wpOp_step rfl (fun K hK => ?_)
          simp only [upd, reduceIte, Nat.reduceEqDiff]
          go_simp
          exact hK _ _ ⟨_, rfl, rfl, B2.set HBX.out (by decide) (by decide)⟩
        · obtain rfl := Option.some.inj hoo
          obtain ⟨e16, d16⟩ := hpre ⟨16, .data⟩ (by simp) rfl
          obtain ⟨e6, d6⟩ := hpre ⟨6, .guard⟩ (by simp) rfl
          clear hpre hoo
          rw [upd_of e16]
          rw [upd_of e6]
          clear e16 e6
          obtain ⟨b0, b1, b2⟩ := BOX.out wx hbx.stay
          have HBX := Lib.hid hbx
          clear hbx
          refine wpOp_step rfl (fun K hK => ?_)
          simp only [upd, reduceIte, Nat.reduceEqDiff]
          go_simp
          exact hK _ _ ⟨_, rfl, rfl, B2.set HBX.out (by decide) (by decide)⟩
        · obtain rfl := Option.some.inj hoo
          obtain ⟨e6, d6⟩ := hpre ⟨6, .guard⟩ (by simp) rfl
          clear hpre hoo
          rw [upd_of e6]
          clear e6
          have HBX := Lib.hid hbx
          clear hbx
          refine wpOp_step rfl (fun K hK => ?_)
          simp only [upd, reduceIte, Nat.reduceEqDiff]
          go_simp
          exact hK _ _ ⟨_, rfl, rfl, B2.set HBX.out (by decide) (by decide)⟩
        · obtain rfl := Option.some.inj hoo
          obtain ⟨e18, d18⟩ := hpre ⟨18, .data⟩ (by simp) rfl
          obtain ⟨e6, d6⟩ := hpre ⟨6, .guard⟩ (by simp) rfl
          clear hpre hoo
          rw [upd_of e18]
          rw [upd_of e6]
          clear e18 e6
          obtain ⟨b0, b1, b2⟩ := BOX.out wx hbx.stay
          have HBX := Lib.hid hbx
          clear hbx
          refine wpOp_step rfl (fun K hK => ?_)
          simp only [upd, reduceIte, Nat.reduceEqDiff]
          go_simp
          exact hK _ _ ⟨_, rfl, rfl, B2.set HBX.out (by decide) (by decide)⟩
        · obtain rfl := Option.some.inj hoo
          obtain ⟨e6, d6⟩ := hpre ⟨6, .guard⟩ (by simp) rfl
          clear hpre hoo
          rw [upd_of e6]
          clear e6
          have HBX := Lib.hid hbx
          clear hbx
          refine wpOp_step rfl (fun K hK => ?_)
          simp only [upd, reduceIte, Nat.reduceEqDiff]
          go_simp
          exact hK _ _ ⟨_, rfl, rfl, B2.set HBX.out (by decide) (by decide)⟩
        · obtain rfl := Option.some.inj hoo
          obtain ⟨e20, d20⟩ := hpre ⟨20, .data⟩ (by simp) rfl
          obtain ⟨e6, d6⟩ := hpre ⟨6, .guard⟩ (by simp) rfl
          clear hpre hoo
          rw [upd_of e20]
          rw [upd_of e6]
          clear e20 e6
          obtain ⟨b0, b1, b2⟩ := BOX.out wx hbx.stay
          have HBX := Lib.hid hbx
          clear hbx
          refine wpOp_step rfl (fun K hK => ?_)
          simp only [upd, reduceIte, Nat.reduceEqDiff]
          go_simp
          exact hK _ _ ⟨_, rfl, rfl, B2.set HBX.out (by decide) (by decide)⟩
        · obtain rfl := Option.some.inj hoo
          obtain ⟨e15, d15⟩ := hpre ⟨15, .data⟩ (by simp) rfl
          obtain ⟨e17, d17⟩ := hpre ⟨17, .data⟩ (by simp) rfl
          obtain ⟨e19, d19⟩ := hpre ⟨19, .data⟩ (by simp) rfl
          obtain ⟨e21, d21⟩ := hpre ⟨21, .data⟩ (by simp) rfl
          obtain ⟨e6, d6⟩ := hpre ⟨6, .guard⟩ (by simp) rfl
          clear hpre hoo
          rw [upd_of e15]
          rw [upd_of e17]
          rw [upd_of e19]
          rw [upd_of e21]
          rw [upd_of e6]
          clear e15 e17 e19 e21 e6
          have HBX := Lib.hid hbx
          clear hbx
          refine wpOp_step rfl (fun K hK => ?_)
          simp only [upd, reduceIte, Nat.reduceEqDiff]
          have lno : l.getD 22 false = false := lst_no hli
          have CAL := Lib.hid (show Pr S w5 wx (3 + r) X2 X (if l.getD 14 false then F' else onlyK k L) L from by have := HBX.out; unfold B2 at this; rw [lno] at this; exact this)
          go_simp
          go_wp2_with (go_at_call 16; refine (DB.out _ _ CAL.out).mono ?_; rintro e w7 ⟨rfl, hd⟩)
          exact ⟨_, rfl, rfl, B2.s2 (by omega) (by decide) hd⟩
        · obtain rfl := Option.some.inj hoo
          obtain ⟨e14, d14⟩ := hpre ⟨14, .data⟩ (by simp) rfl
          obtain ⟨e22, d22⟩ := hpre ⟨22, .data⟩ (by simp) rfl
          obtain ⟨e6, d6⟩ := hpre ⟨6, .guard⟩ (by simp) rfl
          clear hpre hoo
          rw [upd_of e14]
          rw [upd_of e22]
          rw [upd_of e6]
          clear e14 e22 e6
          have HBX := Lib.hid hbx
          clear hbx
          refine wpOp_step rfl (fun K hK => ?_)
          simp only [upd, reduceIte, Nat.reduceEqDiff]
          have NQ := nsame40
          have GU := guard40
          go_simp
          exact hK _ _ ⟨_, rfl, rfl, B2.set HBX.out (by decide) (by decide)⟩
        · obtain rfl := Option.some.inj hoo
          obtain ⟨e6, d6⟩ := hpre ⟨6, .data⟩ (by simp) rfl
          obtain ⟨e23, d23⟩ := hpre ⟨23, .data⟩ (by simp) rfl
          clear hpre hoo
          rw [upd_of e6]
          rw [upd_of e23]
          clear e6 e23
          have HBX := Lib.hid hbx
          clear hbx
          refine wpOp_step rfl (fun K hK => ?_)
          simp only [upd, reduceIte, Nat.reduceEqDiff]
          go_simp
          exact hK _ _ ⟨_, rfl, rfl, B2.set HBX.out (by decide) (by decide)⟩
      · intro l y wx hbx hall
        have e24 := (hall 24 (by decide)).1
        have d14 := (hall 14 (by decide)).2
        have d22 := (hall 22 (by decide)).2
        rw [upd_of e24]
        clear e24 hall
        simp only [upd, reduceIte, Nat.reduceEqDiff]
        have HF := Lib.hid (show Pr S w5 wx (3 + r) X2 X F' L' from by unfold B2 at hbx; rw [d14, d22] at hbx; exact hbx)
        clear hbx d14 d22
        
        clear DA DB H0
        go_wp2_with fail
        go_loopw [18] (fun v18 wr => ∃ j : Nat, v18 = i64 j ∧ j ≤ i ∧ Pr S w5 wr (3 + r) X2 X F' L') (fun v18 _ => i - (intOf v18).toNat)
        case atStart => exact ⟨0, rfl, by omega, HF.out⟩
        case round =>
          rename World => wm
          obtain ⟨j, rfl, hj, hP⟩ := hrel
          have HP := Lib.hid hP
          clear hP HF
          by_cases hltj : j < i
          · have hlt' : (j : Int) < (i : Int) := by omega
            obtain ⟨t, ht⟩ : ∃ t, L[j]? = some t := ⟨_, List.getElem?_eq_getElem (by have := HO5.out.1; omega)⟩
            obtain ⟨b, off, rfl, hcells⟩ := THS.out j t ht
            have HCE := Lib.hid hcells
            have HMEM := Lib.hid (List.mem_of_getElem? ht)
            clear hcells ht
            obtain ⟨tk, tv⟩ := t
            by_cases hke : tk = k
            · subst hke
              have hke2 : (tk != tk) = false := by simp
              go_wp2_with fail
              refine wp_region_state (by kernel_rfl) (fun yy => ⟨#[i64 n, Value.slice ad n1 cap, Value.slice ad2 n2 cap2, Value.agg #[Value.int IntKind.i64 o, Value.int IntKind.u64 tk, Value.int IntKind.u64 x], undef, undef, undef, Value.pointer (some ⟨w.heap.size, 0, none⟩), _, Value.int IntKind.i64 (3 + r), P X, P Y, Value.bool true, Value.slice ad4 k4 cap4, Value.slice (some ⟨b, off, none⟩) i c5, i64 (i : Int), P X2, i64 0, i64 (j : Int), i64 n, Value.int IntKind.u64 (IntKind.u64.wrap n), Value.int IntKind.u64 r, Value.int IntKind.i64 r, Value.int IntKind.i64 (3 + r), Value.slice ad n1 cap, Value.slice ad2 n2 cap2, Value.bool true, Value.bool false, undef, Value.tuple #[P X, P Y, Value.bool true], Value.int IntKind.i64 (3 + r), Value.slice ad n1 cap, Value.slice ad2 n2 cap2, Value.tuple #[P X, P Y, Value.bool true], P X, P Y, Value.bool true, Value.bool true, Value.bool false, P Y, Value.slice (some ⟨b, off, none⟩) i c5, i64 (i : Int), Value.slice (some ⟨b, off, none⟩) i c5, Value.int IntKind.i64 (i : Int), Value.bool false, _, _, _, _, _, _, _, _, _, _, _, _, _, _, _, _, _, Value.tuple #[P X2, i64 0], Value.int IntKind.i64 (3 + r), Value.slice ad4 k4 cap4, Value.tuple #[P X2, i64 0], P X2, i64 0, y 0, y 1, y 2, y 3, y 4, y 5, y 6, y 7, y 8, y 9, y 10, y 11, y 12, y 13, y 14, y 15, y 16, y 17, y 18, y 19, y 20, y 21, y 22, y 23, Value.bool false, i64 (j : Int), Value.slice (some ⟨b, off, none⟩) i c5, Value.int IntKind.i64 (i : Int), Value.bool true, _, _, yy 0, yy 1, yy 2, yy 3, yy 4, yy 5, yy 6, yy 7, yy 8, yy 9, yy 10, yy 11, yy 12, yy 13, yy 14, yy 15, yy 16, yy 17, yy 18, yy 19, yy 20, yy 21, yy 22, yy 23, undef], []⟩) (VK2 X w.heap.size b off i j c5 tk tv tk) (fun _ W => Pr S w5 W (3 + r) X2 X F' L') (fun j => ([u99, u100, u101, u102, u103, u104, u105, u106, u107, u108, u109, u110, u111, u112, u113, u114, u115, u116, u117, u118, u119, u120, u121, u122] : List Value).getD j undef) (back_of (by kernel_rfl)) (HP.out.grow (below_drewN _ _ 1)) ?_ ?_
              · intro iz oo hoo l y wx hl hli hbx hpre
                have hiz : iz < 24 := (Array.getElem?_eq_some_iff.1 hoo).1
                have hsz : l.size = 24 := hl.trans rfl
                clear hl
                rcases (show iz = 0 ∨ iz = 1 ∨ iz = 2 ∨ iz = 3 ∨ iz = 4 ∨ iz = 5 ∨ iz = 6 ∨ iz = 7 ∨ iz = 8 ∨ iz = 9 ∨ iz = 10 ∨ iz = 11 ∨ iz = 12 ∨ iz = 13 ∨ iz = 14 ∨ iz = 15 ∨ iz = 16 ∨ iz = 17 ∨ iz = 18 ∨ iz = 19 ∨ iz = 20 ∨ iz = 21 ∨ iz = 22 ∨ iz = 23 by omega) with rfl | rfl | rfl | rfl | rfl | rfl | rfl | rfl | rfl | rfl | rfl | rfl | rfl | rfl | rfl | rfl | rfl | rfl | rfl | rfl | rfl | rfl | rfl | rfl
                · obtain rfl := Option.some.inj hoo
                  clear hpre hoo
                  have HBX := Lib.hid hbx
                  clear hbx
                  refine wpOp_step rfl (fun K hK => ?_)
                  simp only [upd, reduceIte, Nat.reduceEqDiff]
                  go_simp
                  exact hK _ _ ⟨_, rfl, rfl, HBX.out⟩
                · obtain rfl := Option.some.inj hoo
                  clear hpre hoo
                  have HBX := Lib.hid hbx
                  clear hbx
                  refine wpOp_step rfl (fun K hK => ?_)
                  simp only [upd, reduceIte, Nat.reduceEqDiff]
                  go_simp
                  exact hK _ _ ⟨_, rfl, rfl, HBX.out⟩
                · obtain rfl := Option.some.inj hoo
                  obtain ⟨e0, d0⟩ := hpre ⟨0, .data⟩ (by simp) rfl
                  obtain ⟨e1, d1⟩ := hpre ⟨1, .data⟩ (by simp) rfl
                  clear hpre hoo
                  rw [upd_of e0]
                  rw [upd_of e1]
                  clear e0 e1
                  have HBX := Lib.hid hbx
                  clear hbx
                  refine wpOp_step rfl (fun K hK => ?_)
                  simp only [upd, reduceIte, Nat.reduceEqDiff]
                  go_simp
                  exact hK _ _ ⟨_, rfl, rfl, HBX.out⟩
                · obtain rfl := Option.some.inj hoo
                  obtain ⟨e2, d2⟩ := hpre ⟨2, .data⟩ (by simp) rfl
                  clear hpre hoo
                  rw [upd_of e2]
                  clear e2
                  have HBX := Lib.hid hbx
                  clear hbx
                  refine wpOp_step rfl (fun K hK => ?_)
                  simp only [upd, reduceIte, Nat.reduceEqDiff]
                  go_simp
                  exact hK _ _ ⟨_, rfl, rfl, HBX.out⟩
                · obtain rfl := Option.some.inj hoo
                  obtain ⟨e3, d3⟩ := hpre ⟨3, .data⟩ (by simp) rfl
                  clear hpre hoo
                  rw [upd_of e3]
                  clear e3
                  obtain ⟨z1, z2⟩ := HCE.out wx hbx.stay
                  have HBX := Lib.hid hbx
                  clear hbx
                  refine wpOp_step rfl (fun K hK => ?_)
                  simp only [upd, reduceIte, Nat.reduceEqDiff]
                  go_simp
                  exact hK _ _ ⟨_, rfl, rfl, HBX.out⟩
                · obtain rfl := Option.some.inj hoo
                  clear hpre hoo
                  have HBX := Lib.hid hbx
                  clear hbx
                  refine wpOp_step rfl (fun K hK => ?_)
                  simp only [upd, reduceIte, Nat.reduceEqDiff]
                  go_simp
                  exact hK _ _ ⟨_, rfl, rfl, HBX.out⟩
                · obtain rfl := Option.some.inj hoo
                  obtain ⟨e5, d5⟩ := hpre ⟨5, .data⟩ (by simp) rfl
                  clear hpre hoo
                  rw [upd_of e5]
                  clear e5
                  obtain ⟨b0, b1, b2⟩ := BOX.out wx hbx.stay
                  have HBX := Lib.hid hbx
                  clear hbx
                  refine wpOp_step rfl (fun K hK => ?_)
                  simp only [upd, reduceIte, Nat.reduceEqDiff]
                  go_simp
                  exact hK _ _ ⟨_, rfl, rfl, HBX.out⟩
                · obtain rfl := Option.some.inj hoo
                  obtain ⟨e4, d4⟩ := hpre ⟨4, .data⟩ (by simp) rfl
                  obtain ⟨e6, d6⟩ := hpre ⟨6, .data⟩ (by simp) rfl
                  clear hpre hoo
                  rw [upd_of e4]
                  rw [upd_of e6]
                  clear e4 e6
                  have HBX := Lib.hid hbx
                  clear hbx
                  refine wpOp_step rfl (fun K hK => ?_)
                  simp only [upd, reduceIte, Nat.reduceEqDiff]
                  go_simp
                  exact hK _ _ ⟨_, rfl, rfl, HBX.out⟩
                · obtain rfl := Option.some.inj hoo
                  obtain ⟨e7, d7⟩ := hpre ⟨7, .data⟩ (by simp) rfl
                  clear hpre hoo
                  rw [upd_of e7]
                  clear e7
                  have HBX := Lib.hid hbx
                  clear hbx
                  refine wpOp_step rfl (fun K hK => ?_)
                  simp only [upd, reduceIte, Nat.reduceEqDiff]
                  go_simp
                  exact hK _ _ ⟨_, rfl, rfl, HBX.out⟩
                · obtain rfl := Option.some.inj hoo
                  obtain ⟨e8, d8⟩ := hpre ⟨8, .guard⟩ (by simp) rfl
                  clear hpre hoo
                  rw [upd_of e8]
                  clear e8
                  have HBX := Lib.hid hbx
                  clear hbx
                  refine wpOp_step rfl (fun K hK => ?_)
                  simp only [upd, reduceIte, Nat.reduceEqDiff]
                  go_simp
                  exact hK _ _ ⟨_, rfl, trivial, HBX.out⟩
                · obtain rfl := Option.some.inj hoo
                  obtain ⟨e8, d8⟩ := hpre ⟨8, .guard⟩ (by simp) rfl
                  clear hpre hoo
                  rw [upd_of e8]
                  clear e8
                  have HBX := Lib.hid hbx
                  clear hbx
                  refine wpOp_step rfl (fun K hK => ?_)
                  simp only [upd, reduceIte, Nat.reduceEqDiff]
                  go_simp
                  exact hK _ _ ⟨_, rfl, trivial, HBX.out⟩
                · obtain rfl := Option.some.inj hoo
                  obtain ⟨e8, d8⟩ := hpre ⟨8, .guard⟩ (by simp) rfl
                  clear hpre hoo
                  rw [upd_of e8]
                  clear e8
                  have HBX := Lib.hid hbx
                  clear hbx
                  refine wpOp_step rfl (fun K hK => ?_)
                  simp only [upd, reduceIte, Nat.reduceEqDiff]
                  go_simp
                  exact hK _ _ ⟨_, rfl, trivial, HBX.out⟩
                · obtain rfl := Option.some.inj hoo
                  obtain ⟨e8, d8⟩ := hpre ⟨8, .guard⟩ (by simp) rfl
                  clear hpre hoo
                  rw [upd_of e8]
                  clear e8
                  have HBX := Lib.hid hbx
                  clear hbx
                  refine wpOp_step rfl (fun K hK => ?_)
                  simp only [upd, reduceIte, Nat.reduceEqDiff]
                  go_simp
                  exact hK _ _ ⟨_, rfl, trivial, HBX.out⟩
                · obtain rfl := Option.some.inj hoo
                  obtain ⟨e8, d8⟩ := hpre ⟨8, .guard⟩ (by simp) rfl
                  clear hpre hoo
                  rw [upd_of e8]
                  clear e8
                  have HBX := Lib.hid hbx
                  clear hbx
                  refine wpOp_step rfl (fun K hK => ?_)
                  simp only [upd, reduceIte, Nat.reduceEqDiff]
                  go_simp
                  exact hK _ _ ⟨_, rfl, trivial, HBX.out⟩
                · obtain rfl := Option.some.inj hoo
                  obtain ⟨e8, d8⟩ := hpre ⟨8, .guard⟩ (by simp) rfl
                  clear hpre hoo
                  rw [upd_of e8]
                  clear e8
                  have HBX := Lib.hid hbx
                  clear hbx
                  refine wpOp_step rfl (fun K hK => ?_)
                  simp only [upd, reduceIte, Nat.reduceEqDiff]
                  go_simp
                  exact hK _ _ ⟨_, rfl, trivial, HBX.out⟩
                · obtain rfl := Option.some.inj hoo
                  obtain ⟨e8, d8⟩ := hpre ⟨8, .guard⟩ (by simp) rfl
                  clear hpre hoo
                  rw [upd_of e8]
                  clear e8
                  have HBX := Lib.hid hbx
                  clear hbx
                  refine wpOp_step rfl (fun K hK => ?_)
                  simp only [upd, reduceIte, Nat.reduceEqDiff]
                  go_simp
                  exact hK _ _ ⟨_, rfl, trivial, HBX.out⟩
                · obtain rfl := Option.some.inj hoo
                  obtain ⟨e8, d8⟩ := hpre ⟨8, .guard⟩ (by simp) rfl
                  clear hpre hoo
                  rw [upd_of e8]
                  clear e8
                  have HBX := Lib.hid hbx
                  clear hbx
                  refine wpOp_step rfl (fun K hK => ?_)
                  simp only [upd, reduceIte, Nat.reduceEqDiff]
                  go_simp
                  exact hK _ _ ⟨_, rfl, trivial, HBX.out⟩
                · obtain rfl := Option.some.inj hoo
                  obtain ⟨e8, d8⟩ := hpre ⟨8, .guard⟩ (by simp) rfl
                  clear hpre hoo
                  rw [upd_of e8]
                  clear e8
                  have HBX := Lib.hid hbx
                  clear hbx
                  refine wpOp_step rfl (fun K hK => ?_)
                  simp only [upd, reduceIte, Nat.reduceEqDiff]
                  go_simp
                  exact hK _ _ ⟨_, rfl, trivial, HBX.out⟩
                · obtain rfl := Option.some.inj hoo
                  obtain ⟨e8, d8⟩ := hpre ⟨8, .guard⟩ (by simp) rfl
                  clear hpre hoo
                  rw [upd_of e8]
                  clear e8
                  have HBX := Lib.hid hbx
                  clear hbx
                  refine wpOp_step rfl (fun K hK => ?_)
                  simp only [upd, reduceIte, Nat.reduceEqDiff]
                  go_simp
                  exact hK _ _ ⟨_, rfl, trivial, HBX.out⟩
                · obtain rfl := Option.some.inj hoo
                  obtain ⟨e8, d8⟩ := hpre ⟨8, .guard⟩ (by simp) rfl
                  clear hpre hoo
                  rw [upd_of e8]
                  clear e8
                  have HBX := Lib.hid hbx
                  clear hbx
                  refine wpOp_step rfl (fun K hK => ?_)
                  simp only [upd, reduceIte, Nat.reduceEqDiff]
                  go_simp
                  exact hK _ _ ⟨_, rfl, trivial, HBX.out⟩
                · obtain rfl := Option.some.inj hoo
                  obtain ⟨e8, d8⟩ := hpre ⟨8, .guard⟩ (by simp) rfl
                  clear hpre hoo
                  rw [upd_of e8]
                  clear e8
                  have HBX := Lib.hid hbx
                  clear hbx
                  refine wpOp_step rfl (fun K hK => ?_)
                  simp only [upd, reduceIte, Nat.reduceEqDiff]
                  go_simp
                  exact hK _ _ ⟨_, rfl, trivial, HBX.out⟩
                · obtain rfl := Option.some.inj hoo
                  obtain ⟨e8, d8⟩ := hpre ⟨8, .guard⟩ (by simp) rfl
                  clear hpre hoo
                  rw [upd_of e8]
                  clear e8
                  have HBX := Lib.hid hbx
                  clear hbx
                  refine wpOp_step rfl (fun K hK => ?_)
                  simp only [upd, reduceIte, Nat.reduceEqDiff]
                  go_simp
                  exact hK _ _ ⟨_, rfl, trivial, HBX.out⟩
                · obtain rfl := Option.some.inj hoo
                  obtain ⟨e8, d8⟩ := hpre ⟨8, .guard⟩ (by simp) rfl
                  clear hpre hoo
                  rw [upd_of e8]
                  clear e8
                  have HBX := Lib.hid hbx
                  clear hbx
                  refine wpOp_step rfl (fun K hK => ?_)
                  simp only [upd, reduceIte, Nat.reduceEqDiff]
                  go_simp
                  exact hK _ _ ⟨_, rfl, trivial, HBX.out⟩
                · obtain rfl := Option.some.inj hoo
                  obtain ⟨e8, d8⟩ := hpre ⟨8, .data⟩ (by simp) rfl
                  clear hpre hoo
                  rw [upd_of e8]
                  clear e8
                  have HBX := Lib.hid hbx
                  clear hbx
                  refine wpOp_step rfl (fun K hK => ?_)
                  simp only [upd, reduceIte, Nat.reduceEqDiff]
                  go_simp
                  exact hK _ _ ⟨_, rfl, rfl, HBX.out⟩
              · intro l y wx hbx hall
                have e23 := (hall 23 (by decide)).1
                rw [upd_of e23]
                clear e23 hall
                simp only [upd, reduceIte, Nat.reduceEqDiff]
                have HF := Lib.hid hbx
                clear hbx
                go_wp2
                go_roundw
                case rel => exact ⟨j + 1, by first | rfl | simp, by omega, HF.out⟩
                case measure => simp [intOf]; omega
            · have hke2 : (tk != k) = true := by simp [hke]
              have hget := doI_get HM.out NEXT.out.2.1 ((NEXT.out.1 (tk, tv) hke).2 HMEM.out)
              have DG := Lib.hid (fun (W : World) (h : Pr S w5 W (3 + r) X2 X F' L') => hget ▸ h.two HC.out.1 HC.out.2 7 tk 0 (by decide) NEXT.out.2.2 (fun _ => NEXT.out.2.1))
              clear hget
              go_wp2_with fail
              refine wp_region_state (by kernel_rfl) (fun yy => ⟨#[i64 n, Value.slice ad n1 cap, Value.slice ad2 n2 cap2, Value.agg #[Value.int IntKind.i64 o, Value.int IntKind.u64 k, Value.int IntKind.u64 x], undef, undef, undef, Value.pointer (some ⟨w.heap.size, 0, none⟩), _, Value.int IntKind.i64 (3 + r), P X, P Y, Value.bool true, Value.slice ad4 k4 cap4, Value.slice (some ⟨b, off, none⟩) i c5, i64 (i : Int), P X2, i64 0, i64 (j : Int), i64 n, Value.int IntKind.u64 (IntKind.u64.wrap n), Value.int IntKind.u64 r, Value.int IntKind.i64 r, Value.int IntKind.i64 (3 + r), Value.slice ad n1 cap, Value.slice ad2 n2 cap2, Value.bool true, Value.bool false, undef, Value.tuple #[P X, P Y, Value.bool true], Value.int IntKind.i64 (3 + r), Value.slice ad n1 cap, Value.slice ad2 n2 cap2, Value.tuple #[P X, P Y, Value.bool true], P X, P Y, Value.bool true, Value.bool true, Value.bool false, P Y, Value.slice (some ⟨b, off, none⟩) i c5, i64 (i : Int), Value.slice (some ⟨b, off, none⟩) i c5, Value.int IntKind.i64 (i : Int), Value.bool false, _, _, _, _, _, _, _, _, _, _, _, _, _, _, _, _, _, Value.tuple #[P X2, i64 0], Value.int IntKind.i64 (3 + r), Value.slice ad4 k4 cap4, Value.tuple #[P X2, i64 0], P X2, i64 0, y 0, y 1, y 2, y 3, y 4, y 5, y 6, y 7, y 8, y 9, y 10, y 11, y 12, y 13, y 14, y 15, y 16, y 17, y 18, y 19, y 20, y 21, y 22, y 23, Value.bool false, i64 (j : Int), Value.slice (some ⟨b, off, none⟩) i c5, Value.int IntKind.i64 (i : Int), Value.bool true, _, _, yy 0, yy 1, yy 2, yy 3, yy 4, yy 5, yy 6, yy 7, yy 8, yy 9, yy 10, yy 11, yy 12, yy 13, yy 14, yy 15, yy 16, yy 17, yy 18, yy 19, yy 20, yy 21, yy 22, yy 23, undef], []⟩) (VK3 X w.heap.size b off i j c5 tk tv k) (fun _ W => Pr S w5 W (3 + r) X2 X F' L') (fun j => ([u99, u100, u101, u102, u103, u104, u105, u106, u107, u108, u109, u110, u111, u112, u113, u114, u115, u116, u117, u118, u119, u120, u121, u122] : List Value).getD j undef) (back_of (by kernel_rfl)) (HP.out.grow (below_drewN _ _ 1)) ?_ ?_
              · intro iz oo hoo l y wx hl hli hbx hpre
                have hiz : iz < 24 := (Array.getElem?_eq_some_iff.1 hoo).1
                have hsz : l.size = 24 := hl.trans rfl
                clear hl
                rcases (show iz = 0 ∨ iz = 1 ∨ iz = 2 ∨ iz = 3 ∨ iz = 4 ∨ iz = 5 ∨ iz = 6 ∨ iz = 7 ∨ iz = 8 ∨ iz = 9 ∨ iz = 10 ∨ iz = 11 ∨ iz = 12 ∨ iz = 13 ∨ iz = 14 ∨ iz = 15 ∨ iz = 16 ∨ iz = 17 ∨ iz = 18 ∨ iz = 19 ∨ iz = 20 ∨ iz = 21 ∨ iz = 22 ∨ iz = 23 by omega) with rfl | rfl | rfl | rfl | rfl | rfl | rfl | rfl | rfl | rfl | rfl | rfl | rfl | rfl | rfl | rfl | rfl | rfl | rfl | rfl | rfl | rfl | rfl | rfl
                · obtain rfl := Option.some.inj hoo
                  clear hpre hoo
                  have HBX := Lib.hid hbx
                  clear hbx
                  refine wpOp_step rfl (fun K hK => ?_)
                  simp only [upd, reduceIte, Nat.reduceEqDiff]
                  go_simp
                  exact hK _ _ ⟨_, rfl, rfl, HBX.out⟩
                · obtain rfl := Option.some.inj hoo
                  clear hpre hoo
                  have HBX := Lib.hid hbx
                  clear hbx
                  refine wpOp_step rfl (fun K hK => ?_)
                  simp only [upd, reduceIte, Nat.reduceEqDiff]
                  go_simp
                  exact hK _ _ ⟨_, rfl, rfl, HBX.out⟩
                · obtain rfl := Option.some.inj hoo
                  obtain ⟨e0, d0⟩ := hpre ⟨0, .data⟩ (by simp) rfl
                  obtain ⟨e1, d1⟩ := hpre ⟨1, .data⟩ (by simp) rfl
                  clear hpre hoo
                  rw [upd_of e0]
                  rw [upd_of e1]
                  clear e0 e1
                  have HBX := Lib.hid hbx
                  clear hbx
                  refine wpOp_step rfl (fun K hK => ?_)
                  simp only [upd, reduceIte, Nat.reduceEqDiff]
                  go_simp
                  exact hK _ _ ⟨_, rfl, rfl, HBX.out⟩
                · obtain rfl := Option.some.inj hoo
                  obtain ⟨e2, d2⟩ := hpre ⟨2, .data⟩ (by simp) rfl
                  clear hpre hoo
                  rw [upd_of e2]
                  clear e2
                  have HBX := Lib.hid hbx
                  clear hbx
                  refine wpOp_step rfl (fun K hK => ?_)
                  simp only [upd, reduceIte, Nat.reduceEqDiff]
                  go_simp
                  exact hK _ _ ⟨_, rfl, rfl, HBX.out⟩
                · obtain rfl := Option.some.inj hoo
                  obtain ⟨e3, d3⟩ := hpre ⟨3, .data⟩ (by simp) rfl
                  clear hpre hoo
                  rw [upd_of e3]
                  clear e3
                  obtain ⟨z1, z2⟩ := HCE.out wx hbx.stay
                  have HBX := Lib.hid hbx
                  clear hbx
                  refine wpOp_step rfl (fun K hK => ?_)
                  simp only [upd, reduceIte, Nat.reduceEqDiff]
                  go_simp
                  exact hK _ _ ⟨_, rfl, rfl, HBX.out⟩
                · obtain rfl := Option.some.inj hoo
                  clear hpre hoo
                  have HBX := Lib.hid hbx
                  clear hbx
                  refine wpOp_step rfl (fun K hK => ?_)
                  simp only [upd, reduceIte, Nat.reduceEqDiff]
                  go_simp
                  exact hK _ _ ⟨_, rfl, rfl, HBX.out⟩
                · obtain rfl := Option.some.inj hoo
                  obtain ⟨e5, d5⟩ := hpre ⟨5, .data⟩ (by simp) rfl
                  clear hpre hoo
                  rw [upd_of e5]
                  clear e5
                  obtain ⟨b0, b1, b2⟩ := BOX.out wx hbx.stay
                  have HBX := Lib.hid hbx
                  clear hbx
                  refine wpOp_step rfl (fun K hK => ?_)
                  simp only [upd, reduceIte, Nat.reduceEqDiff]
                  go_simp
                  exact hK _ _ ⟨_, rfl, rfl, HBX.out⟩
                · obtain rfl := Option.some.inj hoo
                  obtain ⟨e4, d4⟩ := hpre ⟨4, .data⟩ (by simp) rfl
                  obtain ⟨e6, d6⟩ := hpre ⟨6, .data⟩ (by simp) rfl
                  clear hpre hoo
                  rw [upd_of e4]
                  rw [upd_of e6]
                  clear e4 e6
                  have HBX := Lib.hid hbx
                  clear hbx
                  refine wpOp_step rfl (fun K hK => ?_)
                  simp only [upd, reduceIte, Nat.reduceEqDiff]
                  go_simp
                  exact hK _ _ ⟨_, rfl, rfl, HBX.out⟩
                · obtain rfl := Option.some.inj hoo
                  obtain ⟨e7, d7⟩ := hpre ⟨7, .data⟩ (by simp) rfl
                  clear hpre hoo
                  rw [upd_of e7]
                  clear e7
                  have HBX := Lib.hid hbx
                  clear hbx
                  refine wpOp_step rfl (fun K hK => ?_)
                  simp only [upd, reduceIte, Nat.reduceEqDiff]
                  go_simp
                  exact hK _ _ ⟨_, rfl, rfl, HBX.out⟩
                · obtain rfl := Option.some.inj hoo
                  obtain ⟨e8, d8⟩ := hpre ⟨8, .guard⟩ (by simp) rfl
                  clear hpre hoo
                  rw [upd_of e8]
                  clear e8
                  have HBX := Lib.hid hbx
                  clear hbx
                  refine wpOp_step rfl (fun K hK => ?_)
                  simp only [upd, reduceIte, Nat.reduceEqDiff]
                  go_simp
                  exact hK _ _ ⟨_, rfl, rfl, HBX.out⟩
                · obtain rfl := Option.some.inj hoo
                  obtain ⟨e8, d8⟩ := hpre ⟨8, .guard⟩ (by simp) rfl
                  clear hpre hoo
                  rw [upd_of e8]
                  clear e8
                  have HBX := Lib.hid hbx
                  clear hbx
                  refine wpOp_step rfl (fun K hK => ?_)
                  simp only [upd, reduceIte, Nat.reduceEqDiff]
                  go_simp
                  exact hK _ _ ⟨_, rfl, rfl, HBX.out⟩
                · obtain rfl := Option.some.inj hoo
                  obtain ⟨e8, d8⟩ := hpre ⟨8, .guard⟩ (by simp) rfl
                  clear hpre hoo
                  rw [upd_of e8]
                  clear e8
                  have HBX := Lib.hid hbx
                  clear hbx
                  refine wpOp_step rfl (fun K hK => ?_)
                  simp only [upd, reduceIte, Nat.reduceEqDiff]
                  go_simp
                  exact hK _ _ ⟨_, rfl, rfl, HBX.out⟩
                · obtain rfl := Option.some.inj hoo
                  obtain ⟨e10, d10⟩ := hpre ⟨10, .data⟩ (by simp) rfl
                  obtain ⟨e11, d11⟩ := hpre ⟨11, .data⟩ (by simp) rfl
                  obtain ⟨e8, d8⟩ := hpre ⟨8, .guard⟩ (by simp) rfl
                  clear hpre hoo
                  rw [upd_of e10]
                  rw [upd_of e11]
                  rw [upd_of e8]
                  clear e10 e11 e8
                  have HBX := Lib.hid hbx
                  clear hbx
                  refine wpOp_step rfl (fun K hK => ?_)
                  simp only [upd, reduceIte, Nat.reduceEqDiff]
                  go_simp
                  exact hK _ _ ⟨_, rfl, rfl, HBX.out⟩
                · obtain rfl := Option.some.inj hoo
                  obtain ⟨e12, d12⟩ := hpre ⟨12, .data⟩ (by simp) rfl
                  obtain ⟨e8, d8⟩ := hpre ⟨8, .guard⟩ (by simp) rfl
                  clear hpre hoo
                  rw [upd_of e12]
                  rw [upd_of e8]
                  clear e12 e8
                  have HBX := Lib.hid hbx
                  clear hbx
                  refine wpOp_step rfl (fun K hK => ?_)
                  simp only [upd, reduceIte, Nat.reduceEqDiff]
                  go_simp
                  exact hK _ _ ⟨_, rfl, rfl, HBX.out⟩
                · obtain rfl := Option.some.inj hoo
                  obtain ⟨e13, d13⟩ := hpre ⟨13, .data⟩ (by simp) rfl
                  obtain ⟨e8, d8⟩ := hpre ⟨8, .guard⟩ (by simp) rfl
                  clear hpre hoo
                  rw [upd_of e13]
                  rw [upd_of e8]
                  clear e13 e8
                  obtain ⟨z1, z2⟩ := HCE.out wx hbx.stay
                  have HBX := Lib.hid hbx
                  clear hbx
                  refine wpOp_step rfl (fun K hK => ?_)
                  simp only [upd, reduceIte, Nat.reduceEqDiff]
                  go_simp
                  exact hK _ _ ⟨_, rfl, rfl, HBX.out⟩
                · obtain rfl := Option.some.inj hoo
                  obtain ⟨e9, d9⟩ := hpre ⟨9, .data⟩ (by simp) rfl
                  obtain ⟨e14, d14⟩ := hpre ⟨14, .data⟩ (by simp) rfl
                  obtain ⟨e8, d8⟩ := hpre ⟨8, .guard⟩ (by simp) rfl
                  clear hpre hoo
                  rw [upd_of e9]
                  rw [upd_of e14]
                  rw [upd_of e8]
                  clear e9 e14 e8
                  have HBX := Lib.hid hbx
                  clear hbx
                  refine wpOp_step rfl (fun K hK => ?_)
                  simp only [upd, reduceIte, Nat.reduceEqDiff]
                  go_simp
                  go_wp2_with (go_at_call 16; refine (DG.out _ HBX.out).mono ?_; rintro e w7 ⟨rfl, hd⟩)
                  exact ⟨_, rfl, rfl, hd⟩
                · obtain rfl := Option.some.inj hoo
                  obtain ⟨e8, d8⟩ := hpre ⟨8, .guard⟩ (by simp) rfl
                  clear hpre hoo
                  rw [upd_of e8]
                  clear e8
                  have HBX := Lib.hid hbx
                  clear hbx
                  refine wpOp_step rfl (fun K hK => ?_)
                  simp only [upd, reduceIte, Nat.reduceEqDiff]
                  go_simp
                  exact hK _ _ ⟨_, rfl, rfl, HBX.out⟩
                · obtain rfl := Option.some.inj hoo
                  obtain ⟨e8, d8⟩ := hpre ⟨8, .guard⟩ (by simp) rfl
                  clear hpre hoo
                  rw [upd_of e8]
                  clear e8
                  have HBX := Lib.hid hbx
                  clear hbx
                  refine wpOp_step rfl (fun K hK => ?_)
                  simp only [upd, reduceIte, Nat.reduceEqDiff]
                  go_simp
                  exact hK _ _ ⟨_, rfl, rfl, HBX.out⟩
                · obtain rfl := Option.some.inj hoo
                  obtain ⟨e16, d16⟩ := hpre ⟨16, .data⟩ (by simp) rfl
                  obtain ⟨e17, d17⟩ := hpre ⟨17, .data⟩ (by simp) rfl
                  obtain ⟨e8, d8⟩ := hpre ⟨8, .guard⟩ (by simp) rfl
                  clear hpre hoo
                  rw [upd_of e16]
                  rw [upd_of e17]
                  rw [upd_of e8]
                  clear e16 e17 e8
                  have HBX := Lib.hid hbx
                  clear hbx
                  refine wpOp_step rfl (fun K hK => ?_)
                  simp only [upd, reduceIte, Nat.reduceEqDiff]
                  go_simp
                  exact hK _ _ ⟨_, rfl, rfl, HBX.out⟩
                · obtain rfl := Option.some.inj hoo
                  obtain ⟨e18, d18⟩ := hpre ⟨18, .data⟩ (by simp) rfl
                  obtain ⟨e8, d8⟩ := hpre ⟨8, .guard⟩ (by simp) rfl
                  clear hpre hoo
                  rw [upd_of e18]
                  rw [upd_of e8]
                  clear e18 e8
                  have HBX := Lib.hid hbx
                  clear hbx
                  refine wpOp_step rfl (fun K hK => ?_)
                  simp only [upd, reduceIte, Nat.reduceEqDiff]
                  go_simp
                  exact hK _ _ ⟨_, rfl, rfl, HBX.out⟩
                · obtain rfl := Option.some.inj hoo
                  obtain ⟨e19, d19⟩ := hpre ⟨19, .data⟩ (by simp) rfl
                  obtain ⟨e8, d8⟩ := hpre ⟨8, .guard⟩ (by simp) rfl
                  clear hpre hoo
                  rw [upd_of e19]
                  rw [upd_of e8]
                  clear e19 e8
                  obtain ⟨z1, z2⟩ := HCE.out wx hbx.stay
                  have HBX := Lib.hid hbx
                  clear hbx
                  refine wpOp_step rfl (fun K hK => ?_)
                  simp only [upd, reduceIte, Nat.reduceEqDiff]
                  go_simp
                  exact hK _ _ ⟨_, rfl, rfl, HBX.out⟩
                · obtain rfl := Option.some.inj hoo
                  obtain ⟨e20, d20⟩ := hpre ⟨20, .data⟩ (by simp) rfl
                  obtain ⟨e8, d8⟩ := hpre ⟨8, .guard⟩ (by simp) rfl
                  clear hpre hoo
                  rw [upd_of e20]
                  rw [upd_of e8]
                  clear e20 e8
                  have HBX := Lib.hid hbx
                  clear hbx
                  refine wpOp_step rfl (fun K hK => ?_)
                  simp only [upd, reduceIte, Nat.reduceEqDiff]
                  go_simp
                  go_wp2_with (go_at_call 17; refine (yes_any _ _).mono ?_; rintro e w7 ⟨rfl, hb7⟩)
                  exact ⟨_, rfl, rfl, HBX.out.grow hb7⟩
                · obtain rfl := Option.some.inj hoo
                  obtain ⟨e15, d15⟩ := hpre ⟨15, .data⟩ (by simp) rfl
                  obtain ⟨e21, d21⟩ := hpre ⟨21, .data⟩ (by simp) rfl
                  obtain ⟨e8, d8⟩ := hpre ⟨8, .guard⟩ (by simp) rfl
                  clear hpre hoo
                  rw [upd_of e15]
                  rw [upd_of e21]
                  rw [upd_of e8]
                  clear e15 e21 e8
                  have HBX := Lib.hid hbx
                  clear hbx
                  refine wpOp_step rfl (fun K hK => ?_)
                  simp only [upd, reduceIte, Nat.reduceEqDiff]
                  have NQ := nsame40
                  have GU := guard40
                  go_simp
                  exact hK _ _ ⟨_, rfl, rfl, HBX.out⟩
                · obtain rfl := Option.some.inj hoo
                  obtain ⟨e8, d8⟩ := hpre ⟨8, .data⟩ (by simp) rfl
                  obtain ⟨e22, d22⟩ := hpre ⟨22, .data⟩ (by simp) rfl
                  clear hpre hoo
                  rw [upd_of e8]
                  rw [upd_of e22]
                  clear e8 e22
                  have HBX := Lib.hid hbx
                  clear hbx
                  refine wpOp_step rfl (fun K hK => ?_)
                  simp only [upd, reduceIte, Nat.reduceEqDiff]
                  go_simp
                  exact hK _ _ ⟨_, rfl, rfl, HBX.out⟩
              · intro l y wx hbx hall
                have e23 := (hall 23 (by decide)).1
                rw [upd_of e23]
                clear e23 hall
                simp only [upd, reduceIte, Nat.reduceEqDiff]
                have HF := Lib.hid hbx
                clear hbx
                go_wp2
                go_roundw
                case rel => exact ⟨j + 1, by first | rfl | simp, by omega, HF.out⟩
                case measure => simp [intOf]; omega
          · have hgej : (i : Int) ≤ (j : Int) := by omega
            obtain rfl : j = i := by omega
            have HEND := Lib.hid (HP.out.stay.below (w0 := wb) HS.out.2.2 HS.out.1)
            clear HP
            go_wp2_with fail
            refine (known_any _).mono ?_
            rintro e w9 ⟨rfl, hb9⟩
            have hsz0 : w.heap.size ≤ wb.heap.size := by omega
            have hz := HEND.out.trans (hb9.mono HEND.out.size)
            go_wp2
            go_returns
            exact ⟨rfl, hb0.trans (hz.mono hsz0)⟩
end Go.Proofs.Ytphfcfnbefikiaa
