/- The law ModelLooks: the walk. -/
import Derived.Test.YtphfcfnbefikiaaL1d
import Derived.LoopIn
import Derived.Stop.RegionWithIn
namespace Go.Proofs.Ytphfcfnbefikiaa
open Go.RowKit Go.Shelf
set_option linter.unusedVariables false
set_option linter.unusedSimpArgs false
attribute [local go_sem] Oper.semAt_some

theorem Two.base {wb w : World} {j : Nat} {c : Int} {X Y : Nat} {L : List Th} {Q : List Pu} (h : Two (wb.drewN j) w c X Y L Q) : Two wb w c X Y L Q := by
  obtain ⟨H, v, u, hO, hR, hd, l1, l2, hb⟩ := h
  exact ⟨H, v, u, hO, hR, hd, l1, l2, (below_drewN _ wb j).trans hb⟩
theorem CallsIn.take {ad : Option Addr} {n h : Nat} {q : List Cl} {w : World} (hq : CallsIn ad n q w) (hh : h ≤ n) : CallsIn ad h (q.take h) w :=
  ⟨by rw [List.length_take, hq.1]; omega, fun i t ht => hq.2 i t (by
    rw [List.getElem?_take] at ht
    split at ht
    · exact ht
    · cases ht)⟩

def VL (n r : Int) (h n1 cap n2 cap2 : Nat) (ad : Option Addr) (ad2 : Option Addr) : Nat → Value
  | 0 => .int .i64 n
  | 1 => .int .i64 (1 + r)
  | 2 => .slice ad n1 cap
  | 3 => .slice ad2 n2 cap2
  | 4 => .int .i64 (h : Int)
  | 5 => .slice ad2 h cap2
  | _ => undef
def VLX : Nat × Nat → Nat → Value
  | (X, Y), 6 => .tuple #[.pointer (some ⟨X, 0, none⟩), .pointer (some ⟨Y, 0, none⟩), .bool true]
  | (X, Y), 7 => .tuple #[.pointer (some ⟨X, 0, none⟩), .pointer (some ⟨Y, 0, none⟩), .bool true]
  | (X, Y), 8 => P X
  | (X, Y), 11 => P X
  | (X, Y), 9 => P Y
  | (X, Y), 12 => P Y
  | (X, Y), 10 => .bool true
  | (X, Y), 13 => .bool true
  | _, _ => undef

def VQ (X Y b off n2 cap2 k : Nat) (o kk xv p s : Int) (aa : Bool) : Nat → Value → Prop
  | 0, v => v = P X
  | 1, v => v = .slice (some ⟨b, off, none⟩) n2 cap2
  | 2, v => v = .int .i64 (k : Int)
  | 3, v => v = .pointer (some ⟨b, off + k * 3, none⟩)
  | 4, v => v = .pointer (some ⟨b, off + k * 3, none⟩)
  | 5, v => v = .int .i64 o
  | 6, v => v = .slice (some ⟨b, off, none⟩) n2 cap2
  | 7, v => v = .int .i64 (k : Int)
  | 8, v => v = .pointer (some ⟨b, off + k * 3, none⟩)
  | 9, v => v = .pointer (some ⟨b, off + k * 3 + 1, none⟩)
  | 10, v => v = .int .u64 kk
  | 11, v => v = .slice (some ⟨b, off, none⟩) n2 cap2
  | 12, v => v = .int .i64 (k : Int)
  | 13, v => v = .pointer (some ⟨b, off + k * 3, none⟩)
  | 14, v => v = .pointer (some ⟨b, off + k * 3 + 2, none⟩)
  | 15, v => v = .int .u64 xv
  | 16, v => v = .agg #[.int .i64 p, .bool aa, .int .u64 s]
  | 17, v => v = P Y
  | 18, v => v = .slice (some ⟨b, off, none⟩) n2 cap2
  | 19, v => v = .int .i64 (k : Int)
  | 20, v => v = .pointer (some ⟨b, off + k * 3, none⟩)
  | 21, v => v = .pointer (some ⟨b, off + k * 3, none⟩)
  | 22, v => v = .int .i64 o
  | 23, v => v = .slice (some ⟨b, off, none⟩) n2 cap2
  | 24, v => v = .int .i64 (k : Int)
  | 25, v => v = .pointer (some ⟨b, off + k * 3, none⟩)
  | 26, v => v = .pointer (some ⟨b, off + k * 3 + 1, none⟩)
  | 27, v => v = .int .u64 kk
  | 28, v => v = .slice (some ⟨b, off, none⟩) n2 cap2
  | 29, v => v = .int .i64 (k : Int)
  | 30, v => v = .pointer (some ⟨b, off + k * 3, none⟩)
  | 31, v => v = .pointer (some ⟨b, off + k * 3 + 2, none⟩)
  | 32, v => v = .int .u64 xv
  | 33, v => v = .agg #[.int .i64 p, .bool aa, .int .u64 s]
  | 34, v => v = .bool false
  | _, v => True

set_option maxRecDepth 100000 in
set_option maxHeartbeats 8000000 in
theorem looks_main {n1 cap n2 cap2 : Nat} {ad : Option Addr} {ad2 : Option Addr} {l : List Th} {q : List Cl} (n f2 : Int) (w : World) (hl : ThsIn ad n1 l w) (hq : CallsIn ad2 n2 q w) (hcap : n2 ≤ cap2) (hf : n1 ≤ 30 ∧ n2 ≤ 80) :
    Calls Try.prog 7 #[i64 n, .slice ad n1 cap, .slice ad2 n2 cap2, i64 f2] w fun e w' => e = .returned (.bool true) ∧ Below w.heap.size w w' := by
  refine (callsIn_wide (n := 6)).1 ?_
  have f9 : Fence.wide.fn 9 := trivial
  have f10 : Fence.wide.fn 10 := trivial
  have f11 : Fence.wide.fn 11 := trivial
  have f12 : Fence.wide.fn 12 := trivial
  have f19 : Fence.wide.fn 19 := trivial
  have f20 : Fence.wide.fn 20 := trivial
  have f21 : Fence.wide.fn 21 := trivial
  have f22 : Fence.wide.fn 22 := trivial
  have f23 : Fence.wide.fn 23 := trivial
  have f24 : Fence.wide.fn 24 := trivial
  have f25 : Fence.wide.fn 25 := trivial
  have hb : (decide (n1 ≤ 30) && decide (n2 ≤ 80)) = true := by simp [hf]
  have hb0 : Below w.heap.size w (w.alloc (.cells #[.int .i64 f2] 3)) := by go_grown
  have t0 : (w.alloc (.cells #[.int .i64 f2] 3)).cell? ⟨w.heap.size, 0, none⟩ = some (.int .i64 f2) := by simp [go_sem]
  have hbs : w.heap.size < (w.alloc (.cells #[.int .i64 f2] 3)).heap.size := by simp
  have hl0 := hl.below hb0
  have hq0 := hq.below hb0
  have hcl := urem n 6 (by decide) (by decide)
  have CLI := Lib.hid (fun W => client_is n W)
  generalize hx : (IntKind.u64.wrap n).tmod 6 = r at hcl CLI
  have hdiv : (n2 : Int) / 2 = ((n2 / 2 : Nat) : Int) := by omega
  have hhn : n2 / 2 ≤ n2 := Nat.div_le_self ..
  generalize n2 / 2 = h at hdiv hhn
  refine callsIn_of_wp_marks Try.func7 rfl trivial ?_ rfl
  simp only [Try.ntmps7, List.size_toArray, List.length_cons, List.length_nil, Nat.reduceAdd, Nat.reduceSub, Array.replicate_succ, Array.replicate_zero, List.push_toArray, List.append_toArray, List.nil_append, List.cons_append]
  gi_wp2_with (gi_at_call 9; refine (callsIn_wide.2 (few_any _)).mono ?_; rintro e w1 ⟨rfl, rfl⟩; rw [hb])
  generalize w.alloc (.cells #[.int .i64 f2] 3) = wb at *
  have HQ := Lib.hid hq0
  have BH := Lib.hid (fun (W : World) (hb : Below wb.heap.size wb W) (cp : Nat) => behind_any (cap := cap) (cap2 := cp) (1 + r) (by omega) (by omega) (by omega) (by omega) W (hl0.below hb) ((hq0.below hb).take hhn))
  have hlb := newI_len (1 + r) l []
  have hlr := runI_len (1 + r) (q.take h) (newI (1 + r) l [])
  have hqb := newR_len (1 + r) l []
  have hqr := runR_len (1 + r) (q.take h) (newR (1 + r) l [])
  have hl1 := hl.1
  have hq1 := hq.1
  simp only [List.length_nil, List.length_take] at hlb hqb hlr hqr
  have SIM := Lib.hid (run_sim (1 + r) (q.take h) _ _ (sim_new (1 + r) l [] [] (sim_nil _)))
  have HC := Lib.hid (show 1 ≤ 1 + r ∧ 1 + r ≤ 6 from by omega)
  have LEN := Lib.hid (show (runI (1 + r) (q.take h) (newI (1 + r) l [])).length ≤ 200 ∧ (runR (1 + r) (q.take h) (newR (1 + r) l [])).length ≤ 200 from by omega)
  generalize runI (1 + r) (q.take h) (newI (1 + r) l []) = LL at *
  generalize runR (1 + r) (q.take h) (newR (1 + r) l []) = QQ at *
  clear hlb hlr hqb hqr hl1 hq1
  have hhc : h ≤ cap2 := by omega
  have hhc' : (h : Int) ≤ (cap2 : Int) := by omega
  have hsl : Int.toNat (h : Int) = h := Int.toNat_natCast h
  have hh0 : (0 : Int) ≤ (h : Int) := by omega
  clear hl hq hl0 hq0 hb hx
  refine wpIn_wide.2 (wp_region_full (by kernel_rfl) (fun yy => ⟨#[i64 n, Value.slice ad n1 cap, Value.slice ad2 n2 cap2, i64 f2, undef, undef, undef, Value.pointer (some ⟨w.heap.size, 0, none⟩), Value.bool false, Value.int IntKind.i64 (h : Int), yy 11, yy 12, yy 13, undef, undef, undef, undef, undef, undef, undef, undef, undef, undef, Value.slice ad n1 cap, Value.slice ad2 n2 cap2, Value.bool true, Value.bool false, undef, Value.slice ad2 n2 cap2, Value.int IntKind.i64 (n2 : Int), Value.int IntKind.i64 (h : Int), yy 7, yy 0, yy 1, yy 2, yy 3, yy 4, yy 5, yy 6, yy 8, yy 9, yy 10, undef, undef, undef, undef, undef, undef, undef, undef, undef, undef, undef, undef, undef, undef, undef, undef, undef, undef, undef, undef, undef, undef, undef, undef, undef, undef, undef, undef, undef, undef, undef, undef, undef, undef, undef, undef, undef, undef, undef, undef, undef, undef, undef, undef, undef, undef, undef, undef, undef, undef, undef, undef, undef, undef, undef, undef, undef, undef, undef, undef, undef, undef, undef, undef, undef, undef, undef, undef, undef, undef, undef, undef, undef, undef, undef, undef, undef, undef, undef, undef, undef, undef, undef, undef, undef, undef, undef, undef, undef, undef, undef, undef, undef, undef, undef, undef, undef, undef, undef, undef, undef, undef, undef, undef, undef, undef, undef, undef, undef, undef, undef, undef, undef, undef, undef, undef, undef, undef, undef, undef, undef, undef, undef, undef, undef, undef, undef, undef, undef, undef, undef], []⟩) (Big (α := Nat × Nat) 6 (VL n r h n1 cap n2 cap2 ad ad2) (Below wb.heap.size wb) VLX (fun xy W => Two wb W (1 + r) xy.1 xy.2 LL QQ)) (fun j => ([undef, undef, undef, undef, undef, undef, undef, undef, undef, undef, undef, undef, undef, undef] : List Value).getD j undef) (back_of (by kernel_rfl)) (Big.start (below_drewN _ _ 1) _) ?_ ?_)
  · intro iz oo hoo lz x wx hl hli hst hpre
    have hiz : iz < 14 := (Array.getElem?_eq_some_iff.1 hoo).1
    have hsz : lz.size = 14 := hl.trans rfl
    clear hl
    rcases (show iz = 0 ∨ iz = 1 ∨ iz = 2 ∨ iz = 3 ∨ iz = 4 ∨ iz = 5 ∨ iz = 6 ∨ iz = 7 ∨ iz = 8 ∨ iz = 9 ∨ iz = 10 ∨ iz = 11 ∨ iz = 12 ∨ iz = 13 by omega) with rfl | rfl | rfl | rfl | rfl | rfl | rfl | rfl | rfl | rfl | rfl | rfl | rfl | rfl
    · obtain rfl := Option.some.inj hoo
      clear hpre hoo
      have HST := Lib.hid hst
      clear hst
      refine wpOp_step rfl (fun K hK2 => ?_)
      simp only [upd, reduceIte, Nat.reduceEqDiff]
      go_simp
      exact hK2 _ _ ⟨_, rfl, HST.out.lo (by decide) rfl⟩
    · obtain rfl := Option.some.inj hoo
      have d0 := hpre ⟨0, .data⟩ (by simp) rfl
      clear hpre hoo
      have e0 : x 0 = .int .i64 n := hst.1 0 (by decide) d0
      rw [upd_of e0] at hst ⊢
      clear e0
      have HST := Lib.hid hst
      clear hst
      refine wpOp_step rfl (fun K hK2 => ?_)
      simp only [upd, reduceIte, Nat.reduceEqDiff]
      go_simp
      go_wp2_with (go_at_call 12; refine (CLI.out _).mono ?_; rintro e w7 ⟨rfl, rfl⟩)
      exact ⟨_, rfl, HST.out.lo (by decide) rfl⟩
    · obtain rfl := Option.some.inj hoo
      clear hpre hoo
      have HST := Lib.hid hst
      clear hst
      refine wpOp_step rfl (fun K hK2 => ?_)
      simp only [upd, reduceIte, Nat.reduceEqDiff]
      go_simp
      exact hK2 _ _ ⟨_, rfl, HST.out.lo (by decide) rfl⟩
    · obtain rfl := Option.some.inj hoo
      clear hpre hoo
      have HST := Lib.hid hst
      clear hst
      refine wpOp_step rfl (fun K hK2 => ?_)
      simp only [upd, reduceIte, Nat.reduceEqDiff]
      go_simp
      exact hK2 _ _ ⟨_, rfl, HST.out.lo (by decide) rfl⟩
    · obtain rfl := Option.some.inj hoo
      clear hpre hoo
      have HST := Lib.hid hst
      clear hst
      refine wpOp_step rfl (fun K hK2 => ?_)
      simp only [upd, reduceIte, Nat.reduceEqDiff]
      go_simp
      exact hK2 _ _ ⟨_, rfl, HST.out.lo (by decide) rfl⟩
    · obtain rfl := Option.some.inj hoo
      have d3 := hpre ⟨3, .data⟩ (by simp) rfl
      have d4 := hpre ⟨4, .data⟩ (by simp) rfl
      clear hpre hoo
      have e3 : x 3 = .slice ad2 n2 cap2 := hst.1 3 (by decide) d3
      have e4 : x 4 = .int .i64 (h : Int) := hst.1 4 (by decide) d4
      rw [upd_of e3] at hst ⊢
      rw [upd_of e4] at hst ⊢
      clear e3 e4
      have HST := Lib.hid hst
      clear hst
      refine wpOp_step rfl (fun K hK2 => ?_)
      simp only [upd, reduceIte, Nat.reduceEqDiff]
      go_simp
      exact hK2 _ _ ⟨_, rfl, HST.out.lo (by decide) rfl⟩
    · obtain rfl := Option.some.inj hoo
      have d1 := hpre ⟨1, .data⟩ (by simp) rfl
      have d2 := hpre ⟨2, .data⟩ (by simp) rfl
      have d5 := hpre ⟨5, .data⟩ (by simp) rfl
      clear hpre hoo
      have e1 : x 1 = .int .i64 (1 + r) := hst.1 1 (by decide) d1
      have e2 : x 2 = .slice ad n1 cap := hst.1 2 (by decide) d2
      have e5 : x 5 = .slice ad2 h cap2 := hst.1 5 (by decide) d5
      rw [upd_of e1] at hst ⊢
      rw [upd_of e2] at hst ⊢
      rw [upd_of e5] at hst ⊢
      clear e1 e2 e5
      have l6 : lz.getD 6 false = false := lst_no hli
      have hW := (hst.2.1 l6).1
      have CALL := Lib.hid (BH.out wx hW)
      have HST := Lib.hid hst
      clear hst
      refine wpOp_step rfl (fun K hK2 => ?_)
      simp only [upd, reduceIte, Nat.reduceEqDiff]
      go_simp
      go_wp2_with (go_at_call 11; refine (CALL.out _).mono ?_; rintro e w7 ⟨X, Y, rfl, hT⟩)
      exact ⟨_, rfl, HST.out.mid (a := (X, Y)) (by omega) l6 (hT.from hW) rfl⟩
    · obtain rfl := Option.some.inj hoo
      have d6 := hpre ⟨6, .data⟩ (by simp) rfl
      clear hpre hoo
      have hK := hst.got (by decide) d6
      obtain ⟨⟨X, Y⟩, hT, hv⟩ := hst.2.2 hK
      have e6 : x 6 = .tuple #[.pointer (some ⟨X, 0, none⟩), .pointer (some ⟨Y, 0, none⟩), .bool true] := hv 6 (by decide) d6
      rw [upd_of e6] at hst hv ⊢
      clear e6
      have HST := Lib.hid hst
      have HV := Lib.hid hv
      clear hv
      clear hst
      refine wpOp_step rfl (fun K hK2 => ?_)
      simp only [upd, reduceIte, Nat.reduceEqDiff]
      go_simp
      exact hK2 _ _ ⟨_, rfl, HST.out.hi (a := (X, Y)) (by decide) hK hT HV.out rfl⟩
    · obtain rfl := Option.some.inj hoo
      have d7 := hpre ⟨7, .data⟩ (by simp) rfl
      clear hpre hoo
      have hK := hst.got (by decide) d7
      obtain ⟨⟨X, Y⟩, hT, hv⟩ := hst.2.2 hK
      have e7 : x 7 = .tuple #[.pointer (some ⟨X, 0, none⟩), .pointer (some ⟨Y, 0, none⟩), .bool true] := hv 7 (by decide) d7
      rw [upd_of e7] at hst hv ⊢
      clear e7
      have HST := Lib.hid hst
      have HV := Lib.hid hv
      clear hv
      clear hst
      refine wpOp_step rfl (fun K hK2 => ?_)
      simp only [upd, reduceIte, Nat.reduceEqDiff]
      go_simp
      exact hK2 _ _ ⟨_, rfl, HST.out.hi (a := (X, Y)) (by decide) hK hT HV.out rfl⟩
    · obtain rfl := Option.some.inj hoo
      have d7 := hpre ⟨7, .data⟩ (by simp) rfl
      clear hpre hoo
      have hK := hst.got (by decide) d7
      obtain ⟨⟨X, Y⟩, hT, hv⟩ := hst.2.2 hK
      have e7 : x 7 = .tuple #[.pointer (some ⟨X, 0, none⟩), .pointer (some ⟨Y, 0, none⟩), .bool true] := hv 7 (by decide) d7
      rw [upd_of e7] at hst hv ⊢
      clear e7
      have HST := Lib.hid hst
      have HV := Lib.hid hv
      clear hv
      clear hst
      refine wpOp_step rfl (fun K hK2 => ?_)
      simp only [upd, reduceIte, Nat.reduceEqDiff]
      go_simp
      exact hK2 _ _ ⟨_, rfl, HST.out.hi (a := (X, Y)) (by decide) hK hT HV.out rfl⟩
    · obtain rfl := Option.some.inj hoo
      have d7 := hpre ⟨7, .data⟩ (by simp) rfl
      clear hpre hoo
      have hK := hst.got (by decide) d7
      obtain ⟨⟨X, Y⟩, hT, hv⟩ := hst.2.2 hK
      have e7 : x 7 = .tuple #[.pointer (some ⟨X, 0, none⟩), .pointer (some ⟨Y, 0, none⟩), .bool true] := hv 7 (by decide) d7
      rw [upd_of e7] at hst hv ⊢
      clear e7
      have HST := Lib.hid hst
      have HV := Lib.hid hv
      clear hv
      clear hst
      refine wpOp_step rfl (fun K hK2 => ?_)
      simp only [upd, reduceIte, Nat.reduceEqDiff]
      go_simp
      exact hK2 _ _ ⟨_, rfl, HST.out.hi (a := (X, Y)) (by decide) hK hT HV.out rfl⟩
    · obtain rfl := Option.some.inj hoo
      have d8 := hpre ⟨8, .data⟩ (by simp) rfl
      clear hpre hoo
      have hK := hst.got (by decide) d8
      obtain ⟨⟨X, Y⟩, hT, hv⟩ := hst.2.2 hK
      have e8 : x 8 = P X := hv 8 (by decide) d8
      rw [upd_of e8] at hst hv ⊢
      clear e8
      have HST := Lib.hid hst
      have HV := Lib.hid hv
      clear hv
      clear hst
      refine wpOp_step rfl (fun K hK2 => ?_)
      simp only [upd, reduceIte, Nat.reduceEqDiff]
      go_simp
      exact hK2 _ _ ⟨_, rfl, HST.out.hi (a := (X, Y)) (by decide) hK hT HV.out rfl⟩
    · obtain rfl := Option.some.inj hoo
      have d9 := hpre ⟨9, .data⟩ (by simp) rfl
      clear hpre hoo
      have hK := hst.got (by decide) d9
      obtain ⟨⟨X, Y⟩, hT, hv⟩ := hst.2.2 hK
      have e9 : x 9 = P Y := hv 9 (by decide) d9
      rw [upd_of e9] at hst hv ⊢
      clear e9
      have HST := Lib.hid hst
      have HV := Lib.hid hv
      clear hv
      clear hst
      refine wpOp_step rfl (fun K hK2 => ?_)
      simp only [upd, reduceIte, Nat.reduceEqDiff]
      go_simp
      exact hK2 _ _ ⟨_, rfl, HST.out.hi (a := (X, Y)) (by decide) hK hT HV.out rfl⟩
    · obtain rfl := Option.some.inj hoo
      have d10 := hpre ⟨10, .data⟩ (by simp) rfl
      clear hpre hoo
      have hK := hst.got (by decide) d10
      obtain ⟨⟨X, Y⟩, hT, hv⟩ := hst.2.2 hK
      have e10 : x 10 = .bool true := hv 10 (by decide) d10
      rw [upd_of e10] at hst hv ⊢
      clear e10
      have HST := Lib.hid hst
      have HV := Lib.hid hv
      clear hv
      clear hst
      refine wpOp_step rfl (fun K hK2 => ?_)
      simp only [upd, reduceIte, Nat.reduceEqDiff]
      go_simp
      exact hK2 _ _ ⟨_, rfl, HST.out.hi (a := (X, Y)) (by decide) hK hT HV.out rfl⟩
  · intro lz x wx hst hall
    obtain ⟨⟨X, Y⟩, hT, hv⟩ := hst.2.2 (hall 6 (by decide))
    have e11 : x 11 = P X := hv 11 (by decide) (hall 11 (by decide))
    have e12 : x 12 = P Y := hv 12 (by decide) (hall 12 (by decide))
    have e13 : x 13 = .bool true := hv 13 (by decide) (hall 13 (by decide))
    rw [upd_of e11]
    rw [upd_of e12]
    rw [upd_of e13]
    clear e11 e12 e13 hall hv hst
    simp only [upd, reduceIte, Nat.reduceEqDiff]
    have HT := Lib.hid hT
    clear hT
    gi_wp2
    refine (callsIn_wide.2 (HT.out.copy (by have := LEN.out.1; omega))).mono ?_
    rintro e w3 ⟨X2, rfl, m3⟩
    have M3 := Lib.hid m3
    clear m3
    gi_wp2
    refine (callsIn_wide.2 ((HT.out.grow M3.out.below).rcopy (by have := LEN.out.2; omega))).mono ?_
    rintro e w4 ⟨Y2, rfl, m4⟩
    obtain ⟨S, H, v, H2, v2, u, u2, o1, r1, o2, r2, hTS, hSTAY, hSB, hBW⟩ := quad' HT.out M3.out m4
    have TS := Lib.hid hTS
    have STAY := Lib.hid hSTAY
    have SB := Lib.hid (And.intro hSB hBW)
    have O1 := Lib.hid o1
    have R1 := Lib.hid r1
    have O2 := Lib.hid o2
    clear m4 hTS hSTAY hSB hBW o1 r1 o2 r2 M3 HT BH
    gi_wp2
    refine (callsIn_wide.2 (same_any w4 O2.out O1.out (by have := LEN.out.1; omega) (by have := LEN.out.1; omega))).mono ?_
    rintro e w5 ⟨rfl, hb5⟩
    rw [show ((1 + r == 1 + r) && decide (tell (1 + r) LL = tell (1 + r) LL)) = true from by simp]
    have HB5 := Lib.hid hb5
    clear hb5
    have FN := eqlF
    gi_wp2
    refine (callsIn_wide.2 (all_any _ _)).mono ?_
    rintro e w6 ⟨rfl, rfl⟩
    gi_wp2
    refine (callsIn_wide.2 (all_any _ _)).mono ?_
    rintro e w6 ⟨rfl, rfl⟩
    gi_wp2
    rename_i KK hKK
    have hg0 : Below w5.heap.size w5 (((w5.alloc (.cells #[P X] 26)).alloc (.cells #[.int .i64 0] 3)).alloc (.cells #[P X] 26)) := by go_grown
    have hg1 : (((w5.alloc (.cells #[P X] 26)).alloc (.cells #[.int .i64 0] 3)).alloc (.cells #[P X] 26)).heap[w5.heap.size + 1]? = some (.cells #[.int .i64 0] 3 (0, 0)) := by simpa using alloc1_heap (w5.alloc (.cells #[P X] 26)) (.cells #[.int .i64 0] 3) (.cells #[P X] 26)
    have hg2 : (((w5.alloc (.cells #[P X] 26)).alloc (.cells #[.int .i64 0] 3)).alloc (.cells #[P X] 26)).heap[w5.heap.size + 1 + 1]? = some (.cells #[P X] 26 (0, 0)) := by simpa using heap_alloc_new ((w5.alloc (.cells #[P X] 26)).alloc (.cells #[.int .i64 0] 3)) (.cells #[P X] 26)
    have hgs : (((w5.alloc (.cells #[P X] 26)).alloc (.cells #[.int .i64 0] 3)).alloc (.cells #[P X] 26)).heap.size = w5.heap.size + 3 := by simp
    have hg3 : (((w5.alloc (.cells #[P X] 26)).alloc (.cells #[.int .i64 0] 3)).alloc (.cells #[P X] 26)).cell? ⟨w5.heap.size + 1 + 1, 0, none⟩ = some (P X) := by simp [go_sem]
    have hg4 : (((w5.alloc (.cells #[P X] 26)).alloc (.cells #[.int .i64 0] 3)).alloc (.cells #[P X] 26)).cell? ⟨w5.heap.size + 1, 0, none⟩ = some (.int .i64 0) := by simp [go_sem]
    have hw5 : Below wb.heap.size wb w5 := SB.out.2.trans (HB5.out.mono SB.out.2.size)
    have t5 : w5.cell? ⟨w.heap.size, 0, none⟩ = some (.int .i64 f2) := keep hw5 t0
    have T5 := Lib.hid t5
    generalize ((w5.alloc (.cells #[P X] 26)).alloc (.cells #[.int .i64 0] 3)).alloc (.cells #[P X] 26) = W0 at *
    have REST : ∀ (D : Nat) (W : World), w5.heap.size ≤ D → W.heap[D]? = some (.deferred (some [])) → IC w5.heap.size (w5.heap.size + 1) (w5.heap.size + 1 + 1) (.cells #[P X] 26) w5 [] W → KK { tmps := #[i64 n, Value.slice ad n1 cap, Value.slice ad2 n2 cap2, i64 f2, undef, undef, undef, Value.pointer (some ⟨w.heap.size, 0, none⟩), Value.bool false, Value.int IntKind.i64 (h : Int), P X, P Y, Value.bool true, P X2, P Y2, Value.pointer (some ⟨w5.heap.size + 1, 0, none⟩), Value.func (Fn.func 35) #[] #[P (w5.heap.size + 1 + 1)], undef, undef, undef, undef, undef, undef, Value.slice ad n1 cap, Value.slice ad2 n2 cap2, Value.bool true, Value.bool false, undef, Value.slice ad2 n2 cap2, Value.int IntKind.i64 (n2 : Int), Value.int IntKind.i64 (h : Int), x 7, x 0, x 1, x 2, x 3, x 4, x 5, x 6, x 8, x 9, x 10, Value.bool true, Value.bool false, P X, P X2, P Y, P Y2, P X2, Value.bool false, Value.bool false, P X2, P X, Value.bool true, Value.bool false, Value.bool false, Value.bool false, P X, Value.func (Fn.func 35) #[] #[P w5.heap.size], Value.bool false, Value.bool false, P X, Value.func (Fn.func 35) #[] #[P (w5.heap.size + 1 + 1)], Value.func (Fn.func 35) #[] #[P (w5.heap.size + 1 + 1)], undef, undef, undef, undef, undef, undef, undef, undef, undef, undef, undef, undef, undef, undef, undef, undef, undef, undef, undef, undef, undef, undef, undef, undef, undef, undef, undef, undef, undef, undef, undef, undef, undef, undef, undef, undef, undef, undef, undef, undef, undef, undef, undef, undef, undef, undef, undef, undef, undef, undef, undef, undef, undef, undef, undef, undef, undef, undef, undef, undef, undef, undef, undef, undef, undef, undef, undef, undef, undef, undef, undef, undef, undef, undef, undef, undef, undef, undef, undef, undef, undef, undef, undef, undef, undef, undef, undef, undef, undef, undef, undef, undef, undef, undef, undef, undef, undef, undef, undef, undef, undef, undef, undef, undef, undef, undef, undef, undef, undef], defers := [{ target := .collected D, args := #[] }] } W := by
      intro D W hD hK hI
      obtain ⟨-, hI2, hI3⟩ := hI
      have HK := Lib.hid hKK
      clear hKK
      refine HK.out _ _ ?_
      gi_wp2
      have hBl := hI3.size
      have hB0 : Below W.heap.size W (W.alloc (.cells #[.slice none 0 0] 22)) := by go_grown
      have g4 : (W.alloc (.cells #[.slice none 0 0] 22)).cell? ⟨w5.heap.size + 1 + 1, 0, none⟩ = some (P X) := keep hB0 (by simp [World.cell?, hI2])
      have g5 : (W.alloc (.cells #[.slice none 0 0] 22)).heap[W.heap.size]? = some (.cells #[.slice none 0 0] 22 (0, 0)) := heap_alloc_new W _
      have g3 : (W.alloc (.cells #[.slice none 0 0] 22)).cell? ⟨W.heap.size, 0, none⟩ = some (.slice none 0 0) := by simp [go_sem]
      have hsz1 : (W.alloc (.cells #[.slice none 0 0] 22)).heap.size = W.heap.size + 1 := by simp
      have hOb : Ob (W.alloc (.cells #[.slice none 0 0] 22)) X H v (1 + r) LL := ((O1.out.below HB5.out).below hI3).below hB0
      have hK1 := (hB0.block _ (Array.getElem?_eq_some_iff.1 hK).1).trans hK
      have HD1 := Lib.hid (And.intro hD (And.intro hK hI3))
      obtain ⟨W1, hW1⟩ : ∃ W1, W.alloc (.cells #[.slice none 0 0] 22) = W1 := ⟨_, rfl⟩
      rw [hW1] at hB0 g3 g4 g5 hsz1 hOb hK1 ⊢
      clear hW1 hI2 hI3 hK
      refine wpIn_rangeFunc_ownH rfl (by omega) (gf := 35) (lb := #[P (w5.heap.size + 1 + 1)]) rfl trivial (enters_of Try.func35 (by kernel_rfl) rfl)
        (all_stops 5 (by omega) (w5.heap.size + 1 + 1) X H W.heap.size v (1 + r) LL W1 g4 hOb (by have := LEN.out.1; omega) (by rw [g3]; rfl) (fun k ⟨u, u1, u2⟩ => by rw [g3] at u1; obtain rfl := Option.some.inj u1; cases u2)) (fun h k => kb_t h k) (fun W l o o' hl h ho hw => kb_b W l o o' hl h ho hw) (Below.refl _ _) (fun _ => rfl)
        (TI W.heap.size W.heap.size W) (fun _ _ _ => False) (ti_own _ _ _ _ (by omega)) (fun _ _ _ _ _ hs _ _ => hs)
        ⟨none, 0, g5, Sl.nil _ _ _, (fun b hb => by cases hb), hB0, Nat.le_refl _, Nat.le_refl _⟩
        (fun x' a' V => ∃ Bv, V.heap[Bv]? = some (.cells #[.int .u64 x'.1, .int .u64 x'.2] 51 (0, 0)) ∧ a' = { tmps := #[i64 n, Value.slice ad n1 cap, Value.slice ad2 n2 cap2, i64 f2, undef, undef, undef, Value.pointer (some ⟨w.heap.size, 0, none⟩), Value.bool false, Value.int IntKind.i64 (h : Int), P X, P Y, Value.bool true, P X2, P Y2, Value.pointer (some ⟨w5.heap.size + 1, 0, none⟩), Value.func (Fn.func 35) #[] #[P (w5.heap.size + 1 + 1)], Value.pointer (some ⟨W.heap.size, 0, none⟩), P Bv, undef, undef, undef, undef, Value.slice ad n1 cap, Value.slice ad2 n2 cap2, Value.bool true, Value.bool false, undef, Value.slice ad2 n2 cap2, Value.int IntKind.i64 (n2 : Int), Value.int IntKind.i64 (h : Int), x 7, x 0, x 1, x 2, x 3, x 4, x 5, x 6, x 8, x 9, x 10, Value.bool true, Value.bool false, P X, P X2, P Y, P Y2, P X2, Value.bool false, Value.bool false, P X2, P X, Value.bool true, Value.bool false, Value.bool false, Value.bool false, P X, Value.func (Fn.func 35) #[] #[P w5.heap.size], Value.bool false, Value.bool false, P X, Value.func (Fn.func 35) #[] #[P (w5.heap.size + 1 + 1)], Value.func (Fn.func 35) #[] #[P (w5.heap.size + 1 + 1)], undef, undef, undef, undef, undef, undef, Value.func (Fn.func 35) #[] #[P (w5.heap.size + 1 + 1)], thV x', undef, undef, undef, undef, undef, undef, undef, undef, undef, undef, undef, undef, undef, undef, undef, undef, undef, undef, undef, undef, undef, undef, undef, undef, undef, undef, undef, undef, undef, undef, undef, undef, undef, undef, undef, undef, undef, undef, undef, undef, undef, undef, undef, undef, undef, undef, undef, undef, undef, undef, undef, undef, undef, undef, undef, undef, undef, undef, undef, undef, undef, undef, undef, undef, undef, undef, undef, undef, undef, undef, undef, undef, undef, undef, undef, undef, undef, undef, undef, undef, undef, undef, undef, undef, undef, undef, undef, undef, undef, undef, undef, undef, undef, undef, undef, undef, undef, undef, undef, undef, undef], defers := [] })
        ?ax ?assign ?body ?done ?stop
      case ax =>
        rintro x' a' s V V' row ⟨Bv, h1, h2⟩ hg hr
        refine ⟨Bv, ?_, h2⟩
        rw [hg.block Bv (Array.getElem?_eq_some_iff.1 h1).1 (fun e => by
          obtain ⟨_, o', ho', hc'⟩ := hr Bv e.symm
          rw [h1] at ho'; obtain rfl := Option.some.inj ho'; cases hc')]
        exact h1
      case assign =>
        intro l' pre x' V K hI' hK'
        unfold thV
        gi_wp2
        exact hK' _ _ ((KeepsOthers.alloc _ _).from _) (kb_alloc _ _ _) (ti_alloc hI' _) ⟨V.heap.size, heap_alloc_new V _, rfl⟩
      case body =>
        rintro l' pre x' a' V hl' - ⟨ad4, cap4, h1, h2, h3, h4, h5, h6⟩ ⟨Bv, hBv, rfl⟩ hlt
        have RUN := Lib.hid (ti_run (n0 := W.heap.size) (B3 := W.heap.size) (w := W) h2 (by have := LEN.out.1; omega) x')
        have k1 : V.cell? ⟨W.heap.size, 0, none⟩ = some (.slice ad4 pre.length cap4) := by simp [World.cell?, h1]
        have k2 : V.cell? ⟨Bv, 0, none⟩ = some (.int .u64 x'.1) := by simp [World.cell?, hBv]
        have k3 : V.cell? ⟨Bv, 1, none⟩ = some (.int .u64 x'.2) := by simp [World.cell?, hBv]
        have k4 : W.heap.size < V.heap.size := World.block_lt_of_cell? _ _ k1
        have k5 : Bv < V.heap.size := World.block_lt_of_cell? _ _ k2
        have ST := Lib.hid (fun ad5 cap5 w7 => ti_step (B := W1.heap.size) (ad4 := ad5) (cap4 := cap5) (w4 := w7) (x := x') (o := .cells #[.int .u64 x'.1, .int .u64 x'.2] 51) h1 h2 h3 h4 h5 h6)
        clear h1 h2 h3 h4 hBv
        unfold thV
        gi_wp2_with (first
          | ((with_reducible show wpListIn _ _ _ _ _ (Oper.mk _ (Op.call { callee := Callee.builtin Builtin.append, args := _, argTypes := _ }) _ _ _ _ :: _) _ _)
             refine wpListIn_app rfl (.tmp 72) (.tmp 74) 22 22 rfl rfl rfl (RUN.out _) ?_
             rintro ad5 cap5 w7 ⟨s4, g4, m4⟩
             obtain ⟨⟨z1, z2, z3⟩, z4⟩ := ST.out ad5 cap5 w7 s4 g4 m4
             have Z4 := Lib.hid z4
             clear s4 g4 m4 z4))
        exact Z4.out
      case stop =>
        rintro D' c' pre V _ _ h _
        exact h.elim
      case done =>
        rintro D2 ys V hD2 rfl ⟨ad4, cap4, h1, h2, h3, h4, h5, h6⟩ hK2
        have TOLD := Lib.hid (show OwnSl W.heap.size V (.slice ad4 (tell (1 + r) LL).length cap4) (tell (1 + r) LL).length (tell (1 + r) LL) from ⟨rfl, h2, fun b hb => (h3 b hb).1⟩)
        have k1 : V.cell? ⟨W.heap.size, 0, none⟩ = some (.slice ad4 (tell (1 + r) LL).length cap4) := by simp [World.cell?, h1]
        have HW := Lib.hid (show Below w5.heap.size w5 V from HD1.out.2.2.trans (h4.mono hBl))
        have HE := Lib.hid (show V.heap[D]? = some (.deferred (some [])) ∧ V.heap[D2]? = some (.deferred (some [])) ∧ D ≠ D2 ∧ w5.heap.size ≤ D ∧ w5.heap.size ≤ D2 from ⟨(h4.block _ (Array.getElem?_eq_some_iff.1 HD1.out.2.1).1).trans HD1.out.2.1, hK2, by have := (Array.getElem?_eq_some_iff.1 hK1).1; omega, HD1.out.1, by omega⟩)
        clear h1 h2 h3 h4 h5 h6 hK2 hK1 HD1 hB0 g3 g4 g5 hOb hD hD2
        gi_wp2
        obtain ⟨mm, hmm⟩ : ∃ mm, (things (1 + r) QQ).length = mm := ⟨_, rfl⟩
        have HMM := Lib.hid hmm
        have RTH := Lib.hid (fun (W : World) (hb : Below V.heap.size V W) => rthings_any HC.out.1 HC.out.2 W (((R1.out.below HB5.out).below HW.out).below hb) (by have := LEN.out.2; omega))
        have TT := Lib.hid (things_tell SIM.out)
        clear hmm
        refine wpIn_wide.2 (wp_region_full (by kernel_rfl) (fun yy => ⟨#[i64 n, Value.slice ad n1 cap, Value.slice ad2 n2 cap2, i64 f2, undef, undef, undef, Value.pointer (some ⟨w.heap.size, 0, none⟩), Value.bool false, Value.int IntKind.i64 (h : Int), P X, P Y, Value.bool true, P X2, P Y2, Value.pointer (some ⟨w5.heap.size + 1, 0, none⟩), Value.func (Fn.func 35) #[] #[P (w5.heap.size + 1 + 1)], Value.pointer (some ⟨W.heap.size, 0, none⟩), undef, undef, undef, undef, undef, Value.slice ad n1 cap, Value.slice ad2 n2 cap2, Value.bool true, Value.bool false, undef, Value.slice ad2 n2 cap2, Value.int IntKind.i64 (n2 : Int), Value.int IntKind.i64 (h : Int), x 7, x 0, x 1, x 2, x 3, x 4, x 5, x 6, x 8, x 9, x 10, Value.bool true, Value.bool false, P X, P X2, P Y, P Y2, P X2, Value.bool false, Value.bool false, P X2, P X, Value.bool true, Value.bool false, Value.bool false, Value.bool false, P X, Value.func (Fn.func 35) #[] #[P w5.heap.size], Value.bool false, Value.bool false, P X, Value.func (Fn.func 35) #[] #[P (w5.heap.size + 1 + 1)], Value.func (Fn.func 35) #[] #[P (w5.heap.size + 1 + 1)], undef, undef, undef, undef, undef, undef, Value.func (Fn.func 35) #[] #[P (w5.heap.size + 1 + 1)], undef, undef, undef, undef, undef, yy 0, yy 1, yy 2, yy 3, yy 4, undef, undef, undef, undef, undef, undef, undef, undef, undef, undef, undef, undef, undef, undef, undef, undef, undef, undef, undef, undef, undef, undef, undef, undef, undef, undef, undef, undef, undef, undef, undef, undef, undef, undef, undef, undef, undef, undef, undef, undef, undef, undef, undef, undef, undef, undef, undef, undef, undef, undef, undef, undef, undef, undef, undef, undef, undef, undef, undef, undef, undef, undef, undef, undef, undef, undef, undef, undef, undef, undef, undef, undef, undef, undef, undef, undef, undef, undef, undef, undef, undef, undef, undef, undef, undef, undef, undef, undef, undef, undef, undef, undef], [{ target := Target.collected D2, args := #[] }, { target := Target.collected D, args := #[] }]⟩) (Big (α := Option Addr × Nat) 2 (fun | 0 => .slice ad4 (tell (1 + r) LL).length cap4 | 1 => P Y | _ => undef) (Below V.heap.size V) (fun ac => fun | 2 => .slice ac.1 mm ac.2 | 3 => .bool true | 4 => .bool false | _ => undef) (fun ac W => OwnSl V.heap.size W (.slice ac.1 mm ac.2) mm (things (1 + r) QQ) ∧ Below V.heap.size V W)) (fun j => ([undef, undef, undef, undef, undef] : List Value).getD j undef) (back_of (by kernel_rfl)) (Big.start (below_drewN _ _ 1) _) ?_ ?_)
        · intro iz oo hoo lz x7 wx hl hli hst hpre
          have hiz : iz < 5 := (Array.getElem?_eq_some_iff.1 hoo).1
          have hsz : lz.size = 5 := hl.trans rfl
          clear hl
          rcases (show iz = 0 ∨ iz = 1 ∨ iz = 2 ∨ iz = 3 ∨ iz = 4 by omega) with rfl | rfl | rfl | rfl | rfl
          · obtain rfl := Option.some.inj hoo
            clear hpre hoo
            have hB9 : Below V.heap.size V wx := by
              cases h2 : lz.getD 2 false with
              | false => exact (hst.2.1 h2).1
              | true => obtain ⟨ac, hT, -⟩ := hst.2.2 h2; exact hT.2
            have HST := Lib.hid hst
            clear hst
            refine wpOp_step rfl (fun K hK2 => ?_)
            simp only [upd, reduceIte, Nat.reduceEqDiff]
            have k9 : wx.cell? ⟨W.heap.size, 0, none⟩ = some (.slice ad4 (tell (1 + r) LL).length cap4) := keep hB9 k1
            go_simp
            exact hK2 _ _ ⟨_, rfl, HST.out.lo (by decide) rfl⟩
          · obtain rfl := Option.some.inj hoo
            clear hpre hoo
            have HST := Lib.hid hst
            clear hst
            refine wpOp_step rfl (fun K hK2 => ?_)
            simp only [upd, reduceIte, Nat.reduceEqDiff]
            go_simp
            exact hK2 _ _ ⟨_, rfl, HST.out.lo (by decide) rfl⟩
          · obtain rfl := Option.some.inj hoo
            have d1 := hpre ⟨1, .data⟩ (by simp) rfl
            clear hpre hoo
            have e1 : x7 1 = P Y := hst.1 1 (by decide) d1
            rw [upd_of e1] at hst ⊢
            clear e1
            have l2 : lz.getD 2 false = false := lst_no hli
            have hW := (hst.2.1 l2).1
            have CALL := Lib.hid (RTH.out wx hW)
            have HST := Lib.hid hst
            clear hst
            refine wpOp_step rfl (fun K hK2 => ?_)
            simp only [upd, reduceIte, Nat.reduceEqDiff]
            go_simp
            go_wp2_with (go_at_call 19; refine CALL.out.mono ?_; rintro e w7 ⟨a9, c9, m9, rfl, ho9, hb9⟩)
            obtain rfl : mm = m9 := HMM.out.symm.trans ho9.1
            exact ⟨_, rfl, HST.out.mid (a := (a9, c9)) (by omega) l2 ⟨⟨ho9.1, ho9.2.1, fun b hb => Nat.le_trans hW.size (ho9.2.2 b hb)⟩, hW.trans (hb9.mono hW.size)⟩ rfl⟩
          · obtain rfl := Option.some.inj hoo
            have d0 := hpre ⟨0, .data⟩ (by simp) rfl
            have d2 := hpre ⟨2, .data⟩ (by simp) rfl
            clear hpre hoo
            have hK := hst.got (by decide) d2
            obtain ⟨ac, hT, hv⟩ := hst.2.2 hK
            have e0 : x7 0 = .slice ad4 (tell (1 + r) LL).length cap4 := hst.1 0 (by decide) d0
            have e2 : x7 2 = .slice ac.1 mm ac.2 := hv 2 (by decide) d2
            rw [upd_of e0] at hst hv ⊢
            rw [upd_of e2] at hst hv ⊢
            clear e0 e2
            have HST := Lib.hid hst
            have HV := Lib.hid hv
            clear hv
            have CALL := Lib.hid (rsame_any (cap1 := cap4) (cap2 := ac.2) wx (thsIn_own (TOLD.out.below hT.2)) (thsIn_own hT.1) (by rw [tell_len]; have := LEN.out.1; omega))
            clear hst
            refine wpOp_step rfl (fun K hK2 => ?_)
            simp only [upd, reduceIte, Nat.reduceEqDiff]
            go_simp
            go_wp2_with (go_at_call 24; refine CALL.out.mono ?_; rintro e w7 ⟨rfl, hb9⟩)
            rw [show decide (tell (1 + r) LL = things (1 + r) QQ) = true from by simp [TT.out]]
            exact ⟨_, rfl, HST.out.hi (a := ac) (by decide) hK ⟨hT.1.below hb9, hT.2.trans (hb9.mono hT.2.size)⟩ HV.out rfl⟩
          · obtain rfl := Option.some.inj hoo
            have d3 := hpre ⟨3, .data⟩ (by simp) rfl
            clear hpre hoo
            have hK := hst.got (by decide) d3
            obtain ⟨ac, hT, hv⟩ := hst.2.2 hK
            have e3 : x7 3 = .bool true := hv 3 (by decide) d3
            rw [upd_of e3] at hst hv ⊢
            clear e3
            have HST := Lib.hid hst
            have HV := Lib.hid hv
            clear hv
            clear hst
            refine wpOp_step rfl (fun K hK2 => ?_)
            simp only [upd, reduceIte, Nat.reduceEqDiff]
            go_simp
            exact hK2 _ _ ⟨_, rfl, HST.out.hi (a := ac) (by decide) hK hT HV.out rfl⟩
        · intro lz x7 wx hst hall
          obtain ⟨ac, hT, hv⟩ := hst.2.2 (hall 2 (by decide))
          have e4 : x7 4 = .bool false := hv 4 (by decide) (hall 4 (by decide))
          rw [upd_of e4]
          clear e4 hall hv hst
          simp only [upd, reduceIte, Nat.reduceEqDiff]
          have HWx := Lib.hid (show Below w5.heap.size w5 wx from HW.out.trans (hT.2.mono HW.out.size))
          have HEx := Lib.hid (show wx.heap[D]? = some (.deferred (some [])) ∧ wx.heap[D2]? = some (.deferred (some [])) ∧ D ≠ D2 ∧ w5.heap.size ≤ D ∧ w5.heap.size ≤ D2 from ⟨(hT.2.block _ (Array.getElem?_eq_some_iff.1 HE.out.1).1).trans HE.out.1, (hT.2.block _ (Array.getElem?_eq_some_iff.1 HE.out.2.1).1).trans HE.out.2.1, HE.out.2.2⟩)
          clear hT HW HE TOLD k1 RTH
          gi_wp2
          refine (callsIn_wide.2 (things_any wx (((O1.out.below HB5.out).below HWx.out)) (by have := LEN.out.1; omega))).mono ?_
          rintro e w8 ⟨ad8, cap8, m8, rfl, ho8, hb8⟩
          have OWN0 := Lib.hid ho8.own2
          have HM8 := Lib.hid (show m8 ≤ 1000 from by have := ho8.1; rw [tell_len] at this; have := LEN.out.1; omega)
          have HB8 := Lib.hid hb8
          clear ho8 hb8
          gi_wp2
          gi_loopw [20] (fun a wr => ∃ i : Nat, a = i64 i ∧ i ≤ m8 ∧ Own2 wx.heap.size ad8 cap8 m8 wr ∧ Below wx.heap.size wx wr) (fun a _ => m8 - (intOf a).toNat)
          case atStart => exact ⟨0, rfl, by omega, OWN0.out, HB8.out⟩
          case round =>
            rename World => wl
            obtain ⟨ki, rfl, hk, hO, hBl⟩ := hrel
            clear OWN0 HB8
            have HBL := Lib.hid hBl
            by_cases hlt : ki < m8
            · have hlt' : (ki : Int) < (m8 : Int) := by omega
              obtain ⟨b8, off8, z8, rfl, hb8, c8, fz8, hset⟩ := hO.at hlt
              have SET := Lib.hid hset
              have HB8 := Lib.hid hb8
              have hm := HM8.out
              clear hset hb8 hO hBl
              gi_wp2
              go_roundw
              case rel => exact ⟨ki + 1, by first | rfl | simp, by omega, SET.out _, HBL.out.setCell (p := ⟨b8, off8 + ki * 2 + 1, none⟩) HB8.out _⟩
              case measure => simp [intOf]; omega
            · have hge : (m8 : Int) ≤ (ki : Int) := by omega
              clear hO hBl
              have hw5l : Below w5.heap.size w5 wl := HWx.out.trans (HBL.out.mono HWx.out.size)
              have hw4l : Below w4.heap.size w4 wl := HB5.out.trans (hw5l.mono HB5.out.size)
              have hwbl : Below wb.heap.size wb wl := SB.out.2.trans (hw4l.mono SB.out.2.size)
              have E1 : wl.heap[D]? = some (.deferred (some [])) := (HBL.out.block _ (Array.getElem?_eq_some_iff.1 HEx.out.1).1).trans HEx.out.1
              have E2 : wl.heap[D2]? = some (.deferred (some [])) := (HBL.out.block _ (Array.getElem?_eq_some_iff.1 HEx.out.2.1).1).trans HEx.out.2.1
              have hE := HEx.out.2.2
              have h45 := HB5.out.size
              obtain ⟨SD, hSD⟩ : ∃ SD : Nat → Prop, SD = fun k => S k ∨ (k = D ∨ k = D2) := ⟨_, rfl⟩
              have T0 := Lib.hid (show Ts SD wl wl (1 + r) X Y LL QQ from hSD ▸ TS.out wl hw4l (fun k => k = D ∨ k = D2) (fun k hk => by
                rcases hk with rfl | rfl
                · exact ⟨by omega, (Array.getElem?_eq_some_iff.1 E1).1⟩
                · exact ⟨by omega, (Array.getElem?_eq_some_iff.1 E2).1⟩))
              have KK1 := Lib.hid (show (∀ k, k < wb.heap.size → SD k) ∧ SD D ∧ SD D2 ∧ ∀ W, Stay SD wl W → Stay S wl W from ⟨fun k hk => by rw [hSD]; exact .inl (SB.out.1 k hk), by rw [hSD]; exact .inr (.inl rfl), by rw [hSD]; exact .inr (.inr rfl), fun W hW => by rw [hSD] at hW; exact hW.less⟩)
              have WL := Lib.hid (And.intro hw4l (And.intro hwbl (And.intro E1 E2)))
              clear hw5l hw4l hwbl E1 E2 hE h45 hSD TS HBL HWx HB5
              gi_wp2
              gi_loopw [21] (fun a wr => ∃ k : Nat, a = i64 k ∧ h ≤ k ∧ k ≤ n2 ∧ Ts SD wl wr (1 + r) X Y (runI (1 + r) ((q.drop h).take (k - h)) LL) (runR (1 + r) ((q.drop h).take (k - h)) QQ)) (fun a _ => n2 - (intOf a).toNat)
              case atStart => exact ⟨h, rfl, Nat.le_refl _, hhn, by simpa [runI, runR] using T0.out⟩
              case round =>
                rename World => wq
                obtain ⟨k, rfl, hhk, hkn, hT⟩ := hrel
                have HT := Lib.hid hT
                clear hT T0
                by_cases hltk : k < n2
                · have hltk' : (k : Int) < (n2 : Int) := by omega
                  obtain ⟨t, ht⟩ : ∃ t, q[k]? = some t := ⟨_, List.getElem?_eq_getElem (by rw [HQ.out.1]; exact hltk)⟩
                  obtain ⟨two, b, off, e2, x1, x2, x3⟩ := HQ.out.2 k t ht
                  cases e2
                  obtain ⟨o, kk, xv⟩ := t
                  have hsb : SD b := KK1.out.1 b (World.block_lt_of_cell? _ _ x1)
                  have CEL := Lib.hid (fun (W : World) (hW : Stay SD wl W) => And.intro (hW.cell hsb (keep WL.out.2.1 x1)) (And.intro (hW.cell hsb (keep WL.out.2.1 x2)) (hW.cell hsb (keep WL.out.2.1 x3))))
                  have hTK : (q.drop h).take (k + 1 - h) = (q.drop h).take (k - h) ++ [(o, kk, xv)] := by
                    rw [show k + 1 - h = (k - h) + 1 by omega]
                    exact take_snoc' (by rw [List.getElem?_drop, show h + (k - h) = k by omega]; exact ht)
                  have hSk := run_sim (1 + r) ((q.drop h).take (k - h)) LL QQ SIM.out
                  have hLk := runI_len (1 + r) ((q.drop h).take (k - h)) LL
                  have hQk := runR_len (1 + r) ((q.drop h).take (k - h)) QQ
                  have hlq := HQ.out.1
                  have hL2 := LEN.out
                  simp only [List.length_take, List.length_drop] at hLk hQk
                  have hfI : runI (1 + r) ((q.drop h).take (k + 1 - h)) LL = (doI (1 + r) o kk xv (runI (1 + r) ((q.drop h).take (k - h)) LL)).2 := by rw [hTK, runI_snoc]
                  have hfR : runR (1 + r) ((q.drop h).take (k + 1 - h)) QQ = (doR (1 + r) o kk xv (runR (1 + r) ((q.drop h).take (k - h)) QQ)).2 := by rw [hTK, runR_snoc]
                  have FIN := Lib.hid (And.intro hfI hfR)
                  have HT3 := Lib.hid HT.out
                  clear hfI hfR HT hTK ht x1 x2 x3 hsb
                  generalize runI (1 + r) ((q.drop h).take (k - h)) LL = L3 at *
                  generalize runR (1 + r) ((q.drop h).take (k - h)) QQ = Q3 at *
                  have hstep := sim_do o kk xv hSk
                  obtain ⟨⟨p, aa, s⟩, L1, hdI⟩ : ∃ a L1, doI (1 + r) o kk xv L3 = (a, L1) := ⟨_, _, rfl⟩
                  obtain ⟨aR, Q1, hdR⟩ : ∃ a Q1, doR (1 + r) o kk xv Q3 = (a, Q1) := ⟨_, _, rfl⟩
                  rw [hdI, hdR] at hstep FIN
                  obtain ⟨hst1, hst2⟩ := hstep
                  obtain rfl : (p, aa, s) = aR := hst1
                  have DI := Lib.hid (fun (W : World) (Q : List Pu) (h : Ts SD wl W (1 + r) X Y L3 Q) => hdI ▸ h.doI HC.out.1 HC.out.2 o kk xv two (by omega) (sim_srt hSk))
                  have DR := Lib.hid (fun (W : World) (L : List Th) (h : Ts SD wl W (1 + r) X Y L Q3) => hdR ▸ h.doR o kk xv (by omega))
                  clear hdI hdR hst2 hSk hLk hQk hL2 hlq
                  gi_wp2
                  refine wpIn_wide.2 (wp_region_state (by kernel_rfl) (fun yy => ⟨#[i64 n, Value.slice ad n1 cap, Value.slice (some ⟨b, off, none⟩) n2 cap2, i64 f2, undef, undef, undef, Value.pointer (some ⟨w.heap.size, 0, none⟩), _, Value.int IntKind.i64 (h : Int), P X, P Y, Value.bool true, P X2, P Y2, Value.pointer (some ⟨w5.heap.size + 1, 0, none⟩), Value.func (Fn.func 35) #[] #[P (w5.heap.size + 1 + 1)], Value.pointer (some ⟨W.heap.size, 0, none⟩), undef, Value.slice ad8 m8 cap8, i64 (ki : Int), i64 (k : Int), undef, Value.slice ad n1 cap, Value.slice (some ⟨b, off, none⟩) n2 cap2, Value.bool true, Value.bool false, undef, Value.slice (some ⟨b, off, none⟩) n2 cap2, Value.int IntKind.i64 (n2 : Int), Value.int IntKind.i64 (h : Int), x 7, x 0, x 1, x 2, x 3, x 4, x 5, x 6, x 8, x 9, x 10, Value.bool true, Value.bool false, P X, P X2, P Y, P Y2, P X2, Value.bool false, Value.bool false, P X2, P X, Value.bool true, Value.bool false, Value.bool false, Value.bool false, P X, Value.func (Fn.func 35) #[] #[P w5.heap.size], Value.bool false, Value.bool false, P X, Value.func (Fn.func 35) #[] #[P (w5.heap.size + 1 + 1)], Value.func (Fn.func 35) #[] #[P (w5.heap.size + 1 + 1)], undef, undef, undef, undef, undef, undef, Value.func (Fn.func 35) #[] #[P (w5.heap.size + 1 + 1)], undef, undef, undef, undef, undef, x7 0, x7 1, x7 2, x7 3, Value.bool false, P X, Value.slice ad8 m8 cap8, i64 (ki : Int), Value.slice ad8 m8 cap8, Value.int IntKind.i64 (m8 : Int), Value.bool false, _, _, _, _, _, _, _, _, _, _, Value.int IntKind.i64 (h : Int), i64 (k : Int), Value.slice (some ⟨b, off, none⟩) n2 cap2, Value.int IntKind.i64 (n2 : Int), Value.bool true, _, _, yy 0, yy 1, yy 2, yy 3, yy 4, yy 5, yy 6, yy 7, yy 8, yy 9, yy 10, yy 11, yy 12, yy 13, yy 14, yy 15, yy 16, yy 17, yy 18, yy 19, yy 20, yy 21, yy 22, yy 23, yy 24, yy 25, yy 26, yy 27, yy 28, yy 29, yy 30, yy 31, yy 32, yy 33, yy 34, undef, undef, undef, undef, undef, undef, undef, undef, undef, undef, undef, undef, undef, undef, undef, undef, undef, undef, undef, undef, undef, undef, undef, undef, undef, undef, undef, undef, undef, undef, undef, undef, undef, undef], [{ target := Target.collected D2, args := #[] }, { target := Target.collected D, args := #[] }]⟩) (VQ X Y b off n2 cap2 k o kk xv p s aa) (B2 16 33 (fun b1 b2 W => Ts SD wl W (1 + r) X Y (if b1 then L1 else L3) (if b2 then Q1 else Q3))) (fun j => ([u104, u105, u106, u107, u108, u109, u110, u111, u112, u113, u114, u115, u116, u117, u118, u119, u120, u121, u122, u123, u124, u125, u126, u127, u128, u129, u130, u131, u132, u133, u134, u135, u136, u137, u138] : List Value).getD j undef) (back_of (by kernel_rfl)) (by simpa [B2] using (show Ts SD wl wq.drew (1 + r) X Y L3 Q3 from HT3.out.grow (below_drewN _ _ 1))) ?_ ?_)
                  · intro iz oo hoo l y wx hl hli hbx hpre
                    have hiz : iz < 35 := (Array.getElem?_eq_some_iff.1 hoo).1
                    have hsz : l.size = 35 := hl.trans rfl
                    clear hl
                    rcases (show iz = 0 ∨ iz = 1 ∨ iz = 2 ∨ iz = 3 ∨ iz = 4 ∨ iz = 5 ∨ iz = 6 ∨ iz = 7 ∨ iz = 8 ∨ iz = 9 ∨ iz = 10 ∨ iz = 11 ∨ iz = 12 ∨ iz = 13 ∨ iz = 14 ∨ iz = 15 ∨ iz = 16 ∨ iz = 17 ∨ iz = 18 ∨ iz = 19 ∨ iz = 20 ∨ iz = 21 ∨ iz = 22 ∨ iz = 23 ∨ iz = 24 ∨ iz = 25 ∨ iz = 26 ∨ iz = 27 ∨ iz = 28 ∨ iz = 29 ∨ iz = 30 ∨ iz = 31 ∨ iz = 32 ∨ iz = 33 ∨ iz = 34 by omega) with rfl | rfl | rfl | rfl | rfl | rfl | rfl | rfl | rfl | rfl | rfl | rfl | rfl | rfl | rfl | rfl | rfl | rfl | rfl | rfl | rfl | rfl | rfl | rfl | rfl | rfl | rfl | rfl | rfl | rfl | rfl | rfl | rfl | rfl | rfl
                    · obtain rfl := Option.some.inj hoo
                      clear hpre hoo
                      have HBX := Lib.hid hbx
                      clear hbx
                      refine wpOp_step rfl (fun K hK => ?_)
                      simp only [upd, reduceIte, Nat.reduceEqDiff]
                      go_simp
                      exact hK _ _ ⟨_, rfl, rfl, B2.set HBX.out (by decide) (by decide)⟩
                    · obtain rfl := Option.some.inj hoo
                      clear hpre hoo
                      have HBX := Lib.hid hbx
                      clear hbx
                      refine wpOp_step rfl (fun K hK => ?_)
                      simp only [upd, reduceIte, Nat.reduceEqDiff]
                      go_simp
                      exact hK _ _ ⟨_, rfl, rfl, B2.set HBX.out (by decide) (by decide)⟩
                    · obtain rfl := Option.some.inj hoo
                      clear hpre hoo
                      have HBX := Lib.hid hbx
                      clear hbx
                      refine wpOp_step rfl (fun K hK => ?_)
                      simp only [upd, reduceIte, Nat.reduceEqDiff]
                      go_simp
                      exact hK _ _ ⟨_, rfl, rfl, B2.set HBX.out (by decide) (by decide)⟩
                    · obtain rfl := Option.some.inj hoo
                      obtain ⟨e1, d1⟩ := hpre ⟨1, .data⟩ (by simp) rfl
                      obtain ⟨e2, d2⟩ := hpre ⟨2, .data⟩ (by simp) rfl
                      clear hpre hoo
                      rw [upd_of e1]
                      rw [upd_of e2]
                      clear e1 e2
                      have HBX := Lib.hid hbx
                      clear hbx
                      refine wpOp_step rfl (fun K hK => ?_)
                      simp only [upd, reduceIte, Nat.reduceEqDiff]
                      go_simp
                      exact hK _ _ ⟨_, rfl, rfl, B2.set HBX.out (by decide) (by decide)⟩
                    · obtain rfl := Option.some.inj hoo
                      obtain ⟨e3, d3⟩ := hpre ⟨3, .data⟩ (by simp) rfl
                      clear hpre hoo
                      rw [upd_of e3]
                      clear e3
                      have HBX := Lib.hid hbx
                      clear hbx
                      refine wpOp_step rfl (fun K hK => ?_)
                      simp only [upd, reduceIte, Nat.reduceEqDiff]
                      go_simp
                      exact hK _ _ ⟨_, rfl, rfl, B2.set HBX.out (by decide) (by decide)⟩
                    · obtain rfl := Option.some.inj hoo
                      obtain ⟨e4, d4⟩ := hpre ⟨4, .data⟩ (by simp) rfl
                      clear hpre hoo
                      rw [upd_of e4]
                      clear e4
                      obtain ⟨y1, y2, y3⟩ := CEL.out wx (show Ts SD wl wx _ _ _ _ _ from hbx).stay
                      have HBX := Lib.hid hbx
                      clear hbx
                      refine wpOp_step rfl (fun K hK => ?_)
                      simp only [upd, reduceIte, Nat.reduceEqDiff]
                      go_simp
                      exact hK _ _ ⟨_, rfl, rfl, B2.set HBX.out (by decide) (by decide)⟩
                    · obtain rfl := Option.some.inj hoo
                      clear hpre hoo
                      have HBX := Lib.hid hbx
                      clear hbx
                      refine wpOp_step rfl (fun K hK => ?_)
                      simp only [upd, reduceIte, Nat.reduceEqDiff]
                      go_simp
                      exact hK _ _ ⟨_, rfl, rfl, B2.set HBX.out (by decide) (by decide)⟩
                    · obtain rfl := Option.some.inj hoo
                      clear hpre hoo
                      have HBX := Lib.hid hbx
                      clear hbx
                      refine wpOp_step rfl (fun K hK => ?_)
                      simp only [upd, reduceIte, Nat.reduceEqDiff]
                      go_simp
                      exact hK _ _ ⟨_, rfl, rfl, B2.set HBX.out (by decide) (by decide)⟩
                    · obtain rfl := Option.some.inj hoo
                      obtain ⟨e6, d6⟩ := hpre ⟨6, .data⟩ (by simp) rfl
                      obtain ⟨e7, d7⟩ := hpre ⟨7, .data⟩ (by simp) rfl
                      clear hpre hoo
                      rw [upd_of e6]
                      rw [upd_of e7]
                      clear e6 e7
                      have HBX := Lib.hid hbx
                      clear hbx
                      refine wpOp_step rfl (fun K hK => ?_)
                      simp only [upd, reduceIte, Nat.reduceEqDiff]
                      go_simp
                      exact hK _ _ ⟨_, rfl, rfl, B2.set HBX.out (by decide) (by decide)⟩
                    · obtain rfl := Option.some.inj hoo
                      obtain ⟨e8, d8⟩ := hpre ⟨8, .data⟩ (by simp) rfl
                      clear hpre hoo
                      rw [upd_of e8]
                      clear e8
                      have HBX := Lib.hid hbx
                      clear hbx
                      refine wpOp_step rfl (fun K hK => ?_)
                      simp only [upd, reduceIte, Nat.reduceEqDiff]
                      go_simp
                      exact hK _ _ ⟨_, rfl, rfl, B2.set HBX.out (by decide) (by decide)⟩
                    · obtain rfl := Option.some.inj hoo
                      obtain ⟨e9, d9⟩ := hpre ⟨9, .data⟩ (by simp) rfl
                      clear hpre hoo
                      rw [upd_of e9]
                      clear e9
                      obtain ⟨y1, y2, y3⟩ := CEL.out wx (show Ts SD wl wx _ _ _ _ _ from hbx).stay
                      have HBX := Lib.hid hbx
                      clear hbx
                      refine wpOp_step rfl (fun K hK => ?_)
                      simp only [upd, reduceIte, Nat.reduceEqDiff]
                      go_simp
                      exact hK _ _ ⟨_, rfl, rfl, B2.set HBX.out (by decide) (by decide)⟩
                    · obtain rfl := Option.some.inj hoo
                      clear hpre hoo
                      have HBX := Lib.hid hbx
                      clear hbx
                      refine wpOp_step rfl (fun K hK => ?_)
                      simp only [upd, reduceIte, Nat.reduceEqDiff]
                      go_simp
                      exact hK _ _ ⟨_, rfl, rfl, B2.set HBX.out (by decide) (by decide)⟩
                    · obtain rfl := Option.some.inj hoo
                      clear hpre hoo
                      have HBX := Lib.hid hbx
                      clear hbx
                      refine wpOp_step rfl (fun K hK => ?_)
                      simp only [upd, reduceIte, Nat.reduceEqDiff]
                      go_simp
                      exact hK _ _ ⟨_, rfl, rfl, B2.set HBX.out (by decide) (by decide)⟩
                    · obtain rfl := Option.some.inj hoo
                      obtain ⟨e11, d11⟩ := hpre ⟨11, .data⟩ (by simp) rfl
                      obtain ⟨e12, d12⟩ := hpre ⟨12, .data⟩ (by simp) rfl
                      clear hpre hoo
                      rw [upd_of e11]
                      rw [upd_of e12]
                      clear e11 e12
                      have HBX := Lib.hid hbx
                      clear hbx
                      refine wpOp_step rfl (fun K hK => ?_)
                      simp only [upd, reduceIte, Nat.reduceEqDiff]
                      go_simp
                      exact hK _ _ ⟨_, rfl, rfl, B2.set HBX.out (by decide) (by decide)⟩
                    · obtain rfl := Option.some.inj hoo
                      obtain ⟨e13, d13⟩ := hpre ⟨13, .data⟩ (by simp) rfl
                      clear hpre hoo
                      rw [upd_of e13]
                      clear e13
                      have HBX := Lib.hid hbx
                      clear hbx
                      refine wpOp_step rfl (fun K hK => ?_)
                      simp only [upd, reduceIte, Nat.reduceEqDiff]
                      go_simp
                      exact hK _ _ ⟨_, rfl, rfl, B2.set HBX.out (by decide) (by decide)⟩
                    · obtain rfl := Option.some.inj hoo
                      obtain ⟨e14, d14⟩ := hpre ⟨14, .data⟩ (by simp) rfl
                      clear hpre hoo
                      rw [upd_of e14]
                      clear e14
                      obtain ⟨y1, y2, y3⟩ := CEL.out wx (show Ts SD wl wx _ _ _ _ _ from hbx).stay
                      have HBX := Lib.hid hbx
                      clear hbx
                      refine wpOp_step rfl (fun K hK => ?_)
                      simp only [upd, reduceIte, Nat.reduceEqDiff]
                      go_simp
                      exact hK _ _ ⟨_, rfl, rfl, B2.set HBX.out (by decide) (by decide)⟩
                    · obtain rfl := Option.some.inj hoo
                      obtain ⟨e0, d0⟩ := hpre ⟨0, .data⟩ (by simp) rfl
                      obtain ⟨e5, d5⟩ := hpre ⟨5, .data⟩ (by simp) rfl
                      obtain ⟨e10, d10⟩ := hpre ⟨10, .data⟩ (by simp) rfl
                      obtain ⟨e15, d15⟩ := hpre ⟨15, .data⟩ (by simp) rfl
                      clear hpre hoo
                      rw [upd_of e0]
                      rw [upd_of e5]
                      rw [upd_of e10]
                      rw [upd_of e15]
                      clear e0 e5 e10 e15
                      have HBX := Lib.hid hbx
                      clear hbx
                      refine wpOp_step rfl (fun K hK => ?_)
                      simp only [upd, reduceIte, Nat.reduceEqDiff]
                      have lno : l.getD 16 false = false := lst_no hli
                      have CAL := Lib.hid (show Ts SD wl wx (1 + r) X Y L3 (if l.getD 33 false then Q1 else Q3) from by have := HBX.out; unfold B2 at this; rw [lno] at this; exact this)
                      go_simp
                      go_wp2_with (go_at_call 16; refine (DI.out _ _ CAL.out).mono ?_; rintro e w7 ⟨rfl, hd⟩)
                      exact ⟨_, rfl, rfl, B2.s1 (by omega) (by decide) hd⟩
                    · obtain rfl := Option.some.inj hoo
                      clear hpre hoo
                      have HBX := Lib.hid hbx
                      clear hbx
                      refine wpOp_step rfl (fun K hK => ?_)
                      simp only [upd, reduceIte, Nat.reduceEqDiff]
                      go_simp
                      exact hK _ _ ⟨_, rfl, rfl, B2.set HBX.out (by decide) (by decide)⟩
                    · obtain rfl := Option.some.inj hoo
                      clear hpre hoo
                      have HBX := Lib.hid hbx
                      clear hbx
                      refine wpOp_step rfl (fun K hK => ?_)
                      simp only [upd, reduceIte, Nat.reduceEqDiff]
                      go_simp
                      exact hK _ _ ⟨_, rfl, rfl, B2.set HBX.out (by decide) (by decide)⟩
                    · obtain rfl := Option.some.inj hoo
                      clear hpre hoo
                      have HBX := Lib.hid hbx
                      clear hbx
                      refine wpOp_step rfl (fun K hK => ?_)
                      simp only [upd, reduceIte, Nat.reduceEqDiff]
                      go_simp
                      exact hK _ _ ⟨_, rfl, rfl, B2.set HBX.out (by decide) (by decide)⟩
                    · obtain rfl := Option.some.inj hoo
                      obtain ⟨e18, d18⟩ := hpre ⟨18, .data⟩ (by simp) rfl
                      obtain ⟨e19, d19⟩ := hpre ⟨19, .data⟩ (by simp) rfl
                      clear hpre hoo
                      rw [upd_of e18]
                      rw [upd_of e19]
                      clear e18 e19
                      have HBX := Lib.hid hbx
                      clear hbx
                      refine wpOp_step rfl (fun K hK => ?_)
                      simp only [upd, reduceIte, Nat.reduceEqDiff]
                      go_simp
                      exact hK _ _ ⟨_, rfl, rfl, B2.set HBX.out (by decide) (by decide)⟩
                    · obtain rfl := Option.some.inj hoo
                      obtain ⟨e20, d20⟩ := hpre ⟨20, .data⟩ (by simp) rfl
                      clear hpre hoo
                      rw [upd_of e20]
                      clear e20
                      have HBX := Lib.hid hbx
                      clear hbx
                      refine wpOp_step rfl (fun K hK => ?_)
                      simp only [upd, reduceIte, Nat.reduceEqDiff]
                      go_simp
                      exact hK _ _ ⟨_, rfl, rfl, B2.set HBX.out (by decide) (by decide)⟩
                    · obtain rfl := Option.some.inj hoo
                      obtain ⟨e21, d21⟩ := hpre ⟨21, .data⟩ (by simp) rfl
                      clear hpre hoo
                      rw [upd_of e21]
                      clear e21
                      obtain ⟨y1, y2, y3⟩ := CEL.out wx (show Ts SD wl wx _ _ _ _ _ from hbx).stay
                      have HBX := Lib.hid hbx
                      clear hbx
                      refine wpOp_step rfl (fun K hK => ?_)
                      simp only [upd, reduceIte, Nat.reduceEqDiff]
                      go_simp
                      exact hK _ _ ⟨_, rfl, rfl, B2.set HBX.out (by decide) (by decide)⟩
                    · obtain rfl := Option.some.inj hoo
                      clear hpre hoo
                      have HBX := Lib.hid hbx
                      clear hbx
                      refine wpOp_step rfl (fun K hK => ?_)
                      simp only [upd, reduceIte, Nat.reduceEqDiff]
                      go_simp
                      exact hK _ _ ⟨_, rfl, rfl, B2.set HBX.out (by decide) (by decide)⟩
                    · obtain rfl := Option.some.inj hoo
                      clear hpre hoo
                      have HBX := Lib.hid hbx
                      clear hbx
                      refine wpOp_step rfl (fun K hK => ?_)
                      simp only [upd, reduceIte, Nat.reduceEqDiff]
                      go_simp
                      exact hK _ _ ⟨_, rfl, rfl, B2.set HBX.out (by decide) (by decide)⟩
                    · obtain rfl := Option.some.inj hoo
                      obtain ⟨e23, d23⟩ := hpre ⟨23, .data⟩ (by simp) rfl
                      obtain ⟨e24, d24⟩ := hpre ⟨24, .data⟩ (by simp) rfl
                      clear hpre hoo
                      rw [upd_of e23]
                      rw [upd_of e24]
                      clear e23 e24
                      have HBX := Lib.hid hbx
                      clear hbx
                      refine wpOp_step rfl (fun K hK => ?_)
                      simp only [upd, reduceIte, Nat.reduceEqDiff]
                      go_simp
                      exact hK _ _ ⟨_, rfl, rfl, B2.set HBX.out (by decide) (by decide)⟩
                    · obtain rfl := Option.some.inj hoo
                      obtain ⟨e25, d25⟩ := hpre ⟨25, .data⟩ (by simp) rfl
                      clear hpre hoo
                      rw [upd_of e25]
                      clear e25
                      have HBX := Lib.hid hbx
                      clear hbx
                      refine wpOp_step rfl (fun K hK => ?_)
                      simp only [upd, reduceIte, Nat.reduceEqDiff]
                      go_simp
                      exact hK _ _ ⟨_, rfl, rfl, B2.set HBX.out (by decide) (by decide)⟩
                    · obtain rfl := Option.some.inj hoo
                      obtain ⟨e26, d26⟩ := hpre ⟨26, .data⟩ (by simp) rfl
                      clear hpre hoo
                      rw [upd_of e26]
                      clear e26
                      obtain ⟨y1, y2, y3⟩ := CEL.out wx (show Ts SD wl wx _ _ _ _ _ from hbx).stay
                      have HBX := Lib.hid hbx
                      clear hbx
                      refine wpOp_step rfl (fun K hK => ?_)
                      simp only [upd, reduceIte, Nat.reduceEqDiff]
                      go_simp
                      exact hK _ _ ⟨_, rfl, rfl, B2.set HBX.out (by decide) (by decide)⟩
                    · obtain rfl := Option.some.inj hoo
                      clear hpre hoo
                      have HBX := Lib.hid hbx
                      clear hbx
                      refine wpOp_step rfl (fun K hK => ?_)
                      simp only [upd, reduceIte, Nat.reduceEqDiff]
                      go_simp
                      exact hK _ _ ⟨_, rfl, rfl, B2.set HBX.out (by decide) (by decide)⟩
                    · obtain rfl := Option.some.inj hoo
                      clear hpre hoo
                      have HBX := Lib.hid hbx
                      clear hbx
                      refine wpOp_step rfl (fun K hK => ?_)
                      simp only [upd, reduceIte, Nat.reduceEqDiff]
                      go_simp
                      exact hK _ _ ⟨_, rfl, rfl, B2.set HBX.out (by decide) (by decide)⟩
                    · obtain rfl := Option.some.inj hoo
                      obtain ⟨e28, d28⟩ := hpre ⟨28, .data⟩ (by simp) rfl
                      obtain ⟨e29, d29⟩ := hpre ⟨29, .data⟩ (by simp) rfl
                      clear hpre hoo
                      rw [upd_of e28]
                      rw [upd_of e29]
                      clear e28 e29
                      have HBX := Lib.hid hbx
                      clear hbx
                      refine wpOp_step rfl (fun K hK => ?_)
                      simp only [upd, reduceIte, Nat.reduceEqDiff]
                      go_simp
                      exact hK _ _ ⟨_, rfl, rfl, B2.set HBX.out (by decide) (by decide)⟩
                    · obtain rfl := Option.some.inj hoo
                      obtain ⟨e30, d30⟩ := hpre ⟨30, .data⟩ (by simp) rfl
                      clear hpre hoo
                      rw [upd_of e30]
                      clear e30
                      have HBX := Lib.hid hbx
                      clear hbx
                      refine wpOp_step rfl (fun K hK => ?_)
                      simp only [upd, reduceIte, Nat.reduceEqDiff]
                      go_simp
                      exact hK _ _ ⟨_, rfl, rfl, B2.set HBX.out (by decide) (by decide)⟩
                    · obtain rfl := Option.some.inj hoo
                      obtain ⟨e31, d31⟩ := hpre ⟨31, .data⟩ (by simp) rfl
                      clear hpre hoo
                      rw [upd_of e31]
                      clear e31
                      obtain ⟨y1, y2, y3⟩ := CEL.out wx (show Ts SD wl wx _ _ _ _ _ from hbx).stay
                      have HBX := Lib.hid hbx
                      clear hbx
                      refine wpOp_step rfl (fun K hK => ?_)
                      simp only [upd, reduceIte, Nat.reduceEqDiff]
                      go_simp
                      exact hK _ _ ⟨_, rfl, rfl, B2.set HBX.out (by decide) (by decide)⟩
                    · obtain rfl := Option.some.inj hoo
                      obtain ⟨e17, d17⟩ := hpre ⟨17, .data⟩ (by simp) rfl
                      obtain ⟨e22, d22⟩ := hpre ⟨22, .data⟩ (by simp) rfl
                      obtain ⟨e27, d27⟩ := hpre ⟨27, .data⟩ (by simp) rfl
                      obtain ⟨e32, d32⟩ := hpre ⟨32, .data⟩ (by simp) rfl
                      clear hpre hoo
                      rw [upd_of e17]
                      rw [upd_of e22]
                      rw [upd_of e27]
                      rw [upd_of e32]
                      clear e17 e22 e27 e32
                      have HBX := Lib.hid hbx
                      clear hbx
                      refine wpOp_step rfl (fun K hK => ?_)
                      simp only [upd, reduceIte, Nat.reduceEqDiff]
                      have lno : l.getD 33 false = false := lst_no hli
                      have CAL := Lib.hid (show Ts SD wl wx (1 + r) X Y (if l.getD 16 false then L1 else L3) Q3 from by have := HBX.out; unfold B2 at this; rw [lno] at this; exact this)
                      go_simp
                      go_wp2_with (go_at_call 26; refine (DR.out _ _ CAL.out).mono ?_; rintro e w7 ⟨rfl, hd⟩)
                      exact ⟨_, rfl, rfl, B2.s2 (by omega) (by decide) hd⟩
                    · obtain rfl := Option.some.inj hoo
                      obtain ⟨e16, d16⟩ := hpre ⟨16, .data⟩ (by simp) rfl
                      obtain ⟨e33, d33⟩ := hpre ⟨33, .data⟩ (by simp) rfl
                      clear hpre hoo
                      rw [upd_of e16]
                      rw [upd_of e33]
                      clear e16 e33
                      have HBX := Lib.hid hbx
                      clear hbx
                      refine wpOp_step rfl (fun K hK => ?_)
                      simp only [upd, reduceIte, Nat.reduceEqDiff]
                      have NQ := nsame40
                      have GU := guard40
                      go_simp
                      exact hK _ _ ⟨_, rfl, rfl, B2.set HBX.out (by decide) (by decide)⟩
                  · intro l y wx hbx hall
                    have e34 := (hall 34 (by decide)).1
                    have d16 := (hall 16 (by decide)).2
                    have d33 := (hall 33 (by decide)).2
                    rw [upd_of e34]
                    clear e34 hall
                    simp only [upd, reduceIte, Nat.reduceEqDiff]
                    have HF := Lib.hid (show Ts SD wl wx (1 + r) X Y L1 Q1 from by unfold B2 at hbx; rw [d16, d33] at hbx; exact hbx)
                    clear hbx d16 d33
                    gi_wp2
                    go_roundw
                    case rel => exact ⟨k + 1, by first | rfl | simp, by omega, by omega, by rw [FIN.out.1, FIN.out.2]; exact HF.out⟩
                    case measure => simp [intOf]; omega
                · have hgek : (n2 : Int) ≤ (k : Int) := by omega
                  obtain rfl : k = n2 := by omega
                  have hdr : (q.drop h).take (k - h) = q.drop h := List.take_of_length_le (by rw [List.length_drop, HQ.out.1]; omega)
                  have hSk := run_sim (1 + r) (q.drop h) LL QQ SIM.out
                  have hLk := runI_len (1 + r) (q.drop h) LL
                  have hQk := runR_len (1 + r) (q.drop h) QQ
                  have hlq := HQ.out.1
                  have hL2 := LEN.out
                  simp only [List.length_drop] at hLk hQk
                  have hT := HT.out
                  rw [hdr] at hT
                  have t1 := things_tell hSk
                  have t2 := things_tell SIM.out
                  generalize runI (1 + r) (q.drop h) LL = L3 at *
                  generalize runR (1 + r) (q.drop h) QQ = Q3 at *
                  have hl3 : L3.length ≤ 1000 := by omega
                  have hq3 : Q3.length ≤ 1000 := by omega
                  have hl4 : LL.length ≤ 1000 := by omega
                  have hq4 : QQ.length ≤ 1000 := by omega
                  obtain ⟨H', v', u', oa, ra, -, -, -, hst⟩ := hT
                  obtain ⟨ob, rb⟩ := STAY.out wl wq WL.out.1 (KK1.out.2.2.2 wq hst)
                  have OA := Lib.hid (And.intro oa (And.intro ra (And.intro ob rb)))
                  have HST := Lib.hid hst
                  have TT := Lib.hid (And.intro t1 t2)
                  have LN := Lib.hid (And.intro (And.intro hl3 hq3) (And.intro hl4 hq4))
                  clear oa ra ob rb hst t1 t2 hdr hSk hLk hQk hlq hL2 HT hl3 hq3 hl4 hq4
                  gi_wp2
                  refine (callsIn_wide.2 (rthings_any HC.out.1 HC.out.2 wq OA.out.2.1 LN.out.1.2)).mono ?_
                  rintro e v1 ⟨a1, c1, m1, rfl, ho1, hb1⟩
                  have HO1 := Lib.hid ho1
                  have HB1 := Lib.hid hb1
                  clear ho1 hb1
                  gi_wp2
                  refine (callsIn_wide.2 (rthings_any HC.out.1 HC.out.2 v1 (OA.out.2.2.2.below HB1.out) LN.out.2.2)).mono ?_
                  rintro e v2 ⟨a2', c2, m2, rfl, ho2, hb2⟩
                  have HO2 := Lib.hid ho2
                  have HB2 := Lib.hid (HB1.out.trans (hb2.mono HB1.out.size))
                  have HB12 := Lib.hid hb2
                  clear ho2 hb2
                  gi_wp2
                  refine (callsIn_wide.2 (rsame_any v2 (thsIn_own (HO1.out.below HB12.out)) (thsIn_own HO2.out) (by have := HO1.out.1; have := tell_len (1 + r) L3; rw [TT.out.1] at *; have := LN.out; omega))).mono ?_
                  rintro e v3 ⟨rfl, hb3⟩
                  rw [TT.out.1, TT.out.2]
                  have HB3 := Lib.hid (HB2.out.trans (hb3.mono HB2.out.size))
                  clear hb3 HO1 HO2 HB1 HB12 HB2
                  obtain ⟨d, hd⟩ : ∃ d, decide (tell (1 + r) L3 = tell (1 + r) LL) = d := ⟨_, rfl⟩
                  have hd2 : decide (tell (1 + r) LL = tell (1 + r) L3) = d := by rw [← hd]; exact decide_eq_decide.2 ⟨Eq.symm, Eq.symm⟩
                  rw [hd]
                  have HD := Lib.hid (And.intro hd hd2)
                  clear hd hd2
                  gi_wp2
                  refine (callsIn_wide.2 (things_any v3 (OA.out.2.2.1.below HB3.out) LN.out.2.1)).mono ?_
                  rintro e v4 ⟨a4, c4, m4, rfl, ho4, hb4⟩
                  have HO4 := Lib.hid ho4
                  have HB4 := Lib.hid (HB3.out.trans (hb4.mono HB3.out.size))
                  clear ho4 hb4 HB3
                  gi_wp2
                  refine (callsIn_wide.2 (rthings_any HC.out.1 HC.out.2 v4 (OA.out.2.2.2.below HB4.out) LN.out.2.2)).mono ?_
                  rintro e v5 ⟨a5, c5, m5, rfl, ho5, hb5⟩
                  have HO4' := Lib.hid (HO4.out.below hb5)
                  have HO5 := Lib.hid ho5
                  have HB5 := Lib.hid (HB4.out.trans (hb5.mono HB4.out.size))
                  clear ho5 hb5 HB4 HO4
                  gi_wp2
                  refine (callsIn_wide.2 (rsame_any v5 (thsIn_own HO4'.out) (thsIn_own HO5.out) (by have := HO4'.out.1; rw [tell_len] at this; have := LN.out; omega))).mono ?_
                  rintro e v6 ⟨rfl, hb6⟩
                  rw [show decide (tell (1 + r) LL = things (1 + r) QQ) = true from by simp [TT.out.2]]
                  have HB6 := Lib.hid (HB5.out.trans (hb6.mono HB5.out.size))
                  clear hb6 HB5 HO4' HO5
                  gi_wp2
                  refine (callsIn_wide.2 (things_any v6 (OA.out.1.below HB6.out) LN.out.1.1)).mono ?_
                  rintro e v7 ⟨a7, c7, m7, rfl, ho7, hb7⟩
                  have HO7 := Lib.hid ho7
                  have HB7 := Lib.hid (HB6.out.trans (hb7.mono HB6.out.size))
                  clear ho7 hb7 HB6
                  gi_wp2
                  refine (callsIn_wide.2 (rthings_any HC.out.1 HC.out.2 v7 (OA.out.2.1.below HB7.out) LN.out.1.2)).mono ?_
                  rintro e v8 ⟨a8, c8, m9, rfl, ho8, hb8⟩
                  have HO7' := Lib.hid (HO7.out.below hb8)
                  have HO8 := Lib.hid ho8
                  have HB8 := Lib.hid (HB7.out.trans (hb8.mono HB7.out.size))
                  clear ho8 hb8 HB7 HO7
                  gi_wp2
                  refine (callsIn_wide.2 (rsame_any v8 (thsIn_own HO7'.out) (thsIn_own HO8.out) (by have := HO7'.out.1; rw [tell_len] at this; have := LN.out; omega))).mono ?_
                  rintro e v9 ⟨rfl, hb9⟩
                  rw [show decide (tell (1 + r) L3 = things (1 + r) Q3) = true from by simp [TT.out.1]]
                  have HB9 := Lib.hid (HB8.out.trans (hb9.mono HB8.out.size))
                  clear hb9 HB8 HO7' HO8
                  gi_wp2
                  refine (callsIn_wide.2 (same_any v9 (OA.out.1.below HB9.out) (OA.out.2.2.1.below HB9.out) LN.out.1.1 LN.out.2.1)).mono ?_
                  rintro e v10 ⟨rfl, hb10⟩
                  rw [show ((1 + r == 1 + r) && decide (tell (1 + r) L3 = tell (1 + r) LL)) = d from by simp [HD.out.1]]
                  have HB10 := Lib.hid (HB9.out.trans (hb10.mono HB9.out.size))
                  clear hb10 HB9
                  have NDD : (d == d) = true := by simp
                  gi_wp2
                  refine (callsIn_wide.2 (same_any v10 (OA.out.2.2.1.below HB10.out) (OA.out.1.below HB10.out) LN.out.2.1 LN.out.1.1)).mono ?_
                  rintro e v11 ⟨rfl, hb11⟩
                  rw [show ((1 + r == 1 + r) && decide (tell (1 + r) LL = tell (1 + r) L3)) = d from by simp [HD.out.2]]
                  have HB11 := Lib.hid (HB10.out.trans (hb11.mono HB10.out.size))
                  clear hb11 HB10
                  gi_wp2
                  refine (callsIn_wide.2 (known_any v11)).mono ?_
                  rintro e v12 ⟨rfl, hb12⟩
                  have hB12 : Below wq.heap.size wq v12 := HB11.out.trans (hb12.mono HB11.out.size)
                  have j1 : wq.heap[D]? = some (.deferred (some [])) := (HST.out.block D KK1.out.2.1).trans WL.out.2.2.1
                  have j2 : wq.heap[D2]? = some (.deferred (some [])) := (HST.out.block D2 KK1.out.2.2.1).trans WL.out.2.2.2
                  have k1 := (hB12.block _ (Array.getElem?_eq_some_iff.1 j1).1).trans j1
                  have k2 := (hB12.block _ (Array.getElem?_eq_some_iff.1 j2).1).trans j2
                  have hBb : Below wb.heap.size wb wq := HST.out.below WL.out.2.1 KK1.out.1
                  have hA4 : Below wb.heap.size wb v12 := hBb.trans (hB12.mono hBb.size)
                  obtain ⟨x3, x4, x5⟩ := HEx.out.2.2
                  have x6 : wb.heap.size ≤ w5.heap.size := hw5.size
                  have k3 : (v12.putObj D2 (.deferred none)).heap[D]? = some (.deferred (some [])) := by rw [(grownBy_putObj' v12 D2 _).block D (Array.getElem?_eq_some_iff.1 k1).1 (by simpa using x3)]; exact k1
                  gi_wp2
                  refine ⟨by simp, .inl ⟨_, _, rfl, run_takeDeferred k2, by simp, .inl ⟨_, _, rfl, run_takeDeferred k3, ?_⟩⟩⟩
                  refine ⟨_, results_tmp rfl _ _ _, rfl, ?_⟩
                  refine hb0.trans ((Below.grown (Below.grown hA4 (grownBy_putObj' v12 D2 _) (by have := hA4.size; omega) (fun k e => by cases e; omega)) (grownBy_putObj' _ D _) (by have := hA4.size; simp; omega) (fun k e => by cases e; omega)).mono (by have := hb0.size; omega))


    have HREST := Lib.hid REST
    clear REST hKK
    refine wpIn_rangeFunc_ownH rfl (by omega) (gf := 35) (lb := #[P (w5.heap.size + 1 + 1)]) rfl trivial (enters_of Try.func35 (by kernel_rfl) rfl)
      (all_stops 5 (by omega) (w5.heap.size + 1 + 1) X H (w5.heap.size + 1) v (1 + r) LL W0 hg3 ((O1.out.below HB5.out).below hg0) (by have := LEN.out.1; omega) (by rw [hg4]; rfl) (fun k ⟨u, u1, u2⟩ => by rw [hg4] at u1; obtain rfl := Option.some.inj u1; cases u2)) (fun h k => kb_t h k) (fun W l o o' hl h ho hw => kb_b W l o o' hl h ho hw) (Below.refl _ _) (fun _ => rfl)
      (IC w5.heap.size (w5.heap.size + 1) (w5.heap.size + 1 + 1) (.cells #[P X] 26) w5) (fun c pre W => c = .exit 0 ∧ IC w5.heap.size (w5.heap.size + 1) (w5.heap.size + 1 + 1) (.cells #[P X] 26) w5 pre W) (ic_own rfl (by omega) (Nat.le_refl _)) (fun c s W W' row hs hg hr => ⟨hs.1, ic_own rfl (by omega) (Nat.le_refl _) s W W' row hs.2 hg hr⟩)
      ⟨⟨0, hg1⟩, hg2, hg0⟩ (fun x' a' W => a' = { tmps := #[i64 n, Value.slice ad n1 cap, Value.slice ad2 n2 cap2, i64 f2, undef, undef, undef, Value.pointer (some ⟨w.heap.size, 0, none⟩), Value.bool false, Value.int IntKind.i64 (h : Int), P X, P Y, Value.bool true, P X2, P Y2, Value.pointer (some ⟨w5.heap.size + 1, 0, none⟩), Value.func (Fn.func 35) #[] #[P (w5.heap.size + 1 + 1)], undef, undef, undef, undef, undef, undef, Value.slice ad n1 cap, Value.slice ad2 n2 cap2, Value.bool true, Value.bool false, undef, Value.slice ad2 n2 cap2, Value.int IntKind.i64 (n2 : Int), Value.int IntKind.i64 (h : Int), x 7, x 0, x 1, x 2, x 3, x 4, x 5, x 6, x 8, x 9, x 10, Value.bool true, Value.bool false, P X, P X2, P Y, P Y2, P X2, Value.bool false, Value.bool false, P X2, P X, Value.bool true, Value.bool false, Value.bool false, Value.bool false, P X, Value.func (Fn.func 35) #[] #[P w5.heap.size], Value.bool false, Value.bool false, P X, Value.func (Fn.func 35) #[] #[P (w5.heap.size + 1 + 1)], Value.func (Fn.func 35) #[] #[P (w5.heap.size + 1 + 1)], thV x', undef, undef, undef, undef, undef, undef, undef, undef, undef, undef, undef, undef, undef, undef, undef, undef, undef, undef, undef, undef, undef, undef, undef, undef, undef, undef, undef, undef, undef, undef, undef, undef, undef, undef, undef, undef, undef, undef, undef, undef, undef, undef, undef, undef, undef, undef, undef, undef, undef, undef, undef, undef, undef, undef, undef, undef, undef, undef, undef, undef, undef, undef, undef, undef, undef, undef, undef, undef, undef, undef, undef, undef, undef, undef, undef, undef, undef, undef, undef, undef, undef, undef, undef, undef, undef, undef, undef, undef, undef, undef, undef, undef, undef, undef, undef, undef, undef, undef, undef, undef, undef, undef, undef, undef, undef, undef, undef, undef], defers := [] }) (fun _ _ _ _ _ _ h _ _ => h)
      ?assign ?body ?done ?stop
    case assign =>
      intro l pre x' W K hI hK
      gi_wp2
      exact hK _ _ ((KeepsOthers.refl _).from _) (kb_refl _ _) hI rfl
    case body =>
      rintro l pre x' a' W hl hr hI rfl hlt
      obtain ⟨⟨z, h1⟩, h2, h3⟩ := id hI
      have k1 : W.cell? ⟨w5.heap.size + 1, 0, none⟩ = some (.int .i64 z) := by simp [World.cell?, h1]
      have k3 : W.frozen? ⟨w5.heap.size + 1, 0, none⟩ = false := by simp [World.frozen?, h1]
      have k2 : W.cell? ⟨w.heap.size, 0, none⟩ = some (.int .i64 f2) := keep h3 T5.out
      have SET := Lib.hid (fun z' => ic_set (pre' := pre ++ [x']) hI (by omega) (by omega) z')
      have HI := Lib.hid (show IC w5.heap.size (w5.heap.size + 1) (w5.heap.size + 1 + 1) (.cells #[P X] 26) w5 (pre ++ [x']) W from hI)
      clear h1 h2 h3 hI hr
      unfold thV
      by_cases hz : z = f2
      · subst hz
        gi_wp2
        exact ⟨(KeepsOthers.refl _).from _, rfl, HI.out⟩
      · have hz' : (z == f2) = false := by simp [hz]
        have hz2 : decide (z = f2) = false := by simp [hz]
        gi_wp2
        exact ⟨(KeepsOthers.setCell _ _ _).from _, (SET.out _).1, (SET.out _).2⟩
    case done =>
      rintro D ys W hD rfl hI hK
      exact HREST.out D W (by omega) hK hI
    case stop =>
      rintro D c' pre W hD - ⟨rfl, hI⟩ hK
      gi_wp2
      exact HREST.out D W (by omega) hK hI

end Go.Proofs.Ytphfcfnbefikiaa
