/- The contracts of hasRight and anyRight: who has a right on a slot. -/
import Derived.Test.YtejfcmgnacimgaaDoorM1
import Derived.LoopTactic
namespace Go.Proofs.YtejfcmgnacimgaaDoor
open Go.RowKit
set_option linter.unusedVariables false
set_option linter.unusedSimpArgs false

theorem idx93_0 (g : Nat → Int × Int) (w : World) : (Instr.index 93 (gagg g) (.int .i64 0)).run Tryd.prog w = .ok (.agg #[.int .i64 (g 0).1, .int .i64 (g 0).2]) w := by kernel_rfl
theorem idx93_1 (g : Nat → Int × Int) (w : World) : (Instr.index 93 (gagg g) (.int .i64 1)).run Tryd.prog w = .ok (.agg #[.int .i64 (g 1).1, .int .i64 (g 1).2]) w := by kernel_rfl
theorem idx93_2 (g : Nat → Int × Int) (w : World) : (Instr.index 93 (gagg g) (.int .i64 2)).run Tryd.prog w = .ok (.agg #[.int .i64 (g 2).1, .int .i64 (g 2).2]) w := by kernel_rfl
theorem idx93_3 (g : Nat → Int × Int) (w : World) : (Instr.index 93 (gagg g) (.int .i64 3)).run Tryd.prog w = .ok (.agg #[.int .i64 (g 3).1, .int .i64 (g 3).2]) w := by kernel_rfl
theorem idx93_4 (g : Nat → Int × Int) (w : World) : (Instr.index 93 (gagg g) (.int .i64 4)).run Tryd.prog w = .ok (.agg #[.int .i64 (g 4).1, .int .i64 (g 4).2]) w := by kernel_rfl
theorem idx93_5 (g : Nat → Int × Int) (w : World) : (Instr.index 93 (gagg g) (.int .i64 5)).run Tryd.prog w = .ok (.agg #[.int .i64 (g 5).1, .int .i64 (g 5).2]) w := by kernel_rfl
theorem idx93_6 (g : Nat → Int × Int) (w : World) : (Instr.index 93 (gagg g) (.int .i64 6)).run Tryd.prog w = .ok (.agg #[.int .i64 (g 6).1, .int .i64 (g 6).2]) w := by kernel_rfl
theorem idx93_7 (g : Nat → Int × Int) (w : World) : (Instr.index 93 (gagg g) (.int .i64 7)).run Tryd.prog w = .ok (.agg #[.int .i64 (g 7).1, .int .i64 (g 7).2]) w := by kernel_rfl
theorem idx93_8 (g : Nat → Int × Int) (w : World) : (Instr.index 93 (gagg g) (.int .i64 8)).run Tryd.prog w = .ok (.agg #[.int .i64 (g 8).1, .int .i64 (g 8).2]) w := by kernel_rfl
theorem idx93_9 (g : Nat → Int × Int) (w : World) : (Instr.index 93 (gagg g) (.int .i64 9)).run Tryd.prog w = .ok (.agg #[.int .i64 (g 9).1, .int .i64 (g 9).2]) w := by kernel_rfl
theorem idx93_10 (g : Nat → Int × Int) (w : World) : (Instr.index 93 (gagg g) (.int .i64 10)).run Tryd.prog w = .ok (.agg #[.int .i64 (g 10).1, .int .i64 (g 10).2]) w := by kernel_rfl
theorem idx93_11 (g : Nat → Int × Int) (w : World) : (Instr.index 93 (gagg g) (.int .i64 11)).run Tryd.prog w = .ok (.agg #[.int .i64 (g 11).1, .int .i64 (g 11).2]) w := by kernel_rfl
theorem idx93 (g : Nat → Int × Int) (k : Nat) (hk : k < 12) (w : World) : (Instr.index 93 (gagg g) (.int .i64 k)).run Tryd.prog w = .ok (.agg #[.int .i64 (g k).1, .int .i64 (g k).2]) w := by
  match k, hk with
  | 0, _ => exact idx93_0 g w
  | 1, _ => exact idx93_1 g w
  | 2, _ => exact idx93_2 g w
  | 3, _ => exact idx93_3 g w
  | 4, _ => exact idx93_4 g w
  | 5, _ => exact idx93_5 g w
  | 6, _ => exact idx93_6 g w
  | 7, _ => exact idx93_7 g w
  | 8, _ => exact idx93_8 g w
  | 9, _ => exact idx93_9 g w
  | 10, _ => exact idx93_10 g w
  | 11, _ => exact idx93_11 g w
  | n + 12, h => omega

/-- Does one of the first guards name this? -/
def gHas (g : Nat → Int × Int) (x : Int × Int) (n : Nat) : Bool := (List.range n).any fun k => (g k).1 == x.1 && (g k).2 == x.2
theorem gHas_succ (g : Nat → Int × Int) (x : Int × Int) (n : Nat) : gHas g x (n + 1) = (gHas g x n || ((g n).1 == x.1 && (g n).2 == x.2)) := by
  simp [gHas, List.range_succ]
theorem gHas_up {g : Nat → Int × Int} {x : Int × Int} {n m : Nat} (h : n ≤ m) (hg : gHas g x n = true) : gHas g x m = true := by
  unfold gHas at *
  rw [List.any_eq_true] at *
  obtain ⟨k, h1, h2⟩ := hg
  exact ⟨k, by simp at *; omega, h2⟩

def rightB (s : RS) (t i : Int) : Bool := hasB s i && (gHas (s.G t) (i, (s.sl i.toNat).ends) 12 || ownB s t i)

set_option maxHeartbeats 4000000 in
set_option maxRecDepth 100000 in
theorem hasRight_any {R S M : Nat} {s : RS} (t i : Int) (ht : (Lit.int .i64 t).wf = true) (w : World) (h : RepAt R S M s w) :
    Calls Tryd.prog 31 #[.pointer (some ⟨R, 0, none⟩), .int .i64 t, .int .i64 i] w fun e w' => e = .returned (.bool (rightB s t i)) ∧ Below w.heap.size w w' := by
  unfold rightB
  have HH := Lib.hid h
  have c4 := h.r4
  have c5 := h.r5
  cases hb : hasB s i
  · have HB := Lib.hid hb
    clear hb h
    go_enter Tryd.func31, Tryd.ntmps31
    go_wp2_with fail
    refine (hasSlot_any i _ HH.out).mono ?_
    rintro e w' ⟨rfl, rfl⟩
    rw [HB.out]
    go_wp2
    go_returns
    exact ⟨rfl, Below.refl _ _⟩
  · obtain ⟨n, rfl, hn, hm⟩ := hasB_yes hb
    obtain ⟨d0, d1, d2, d3, d4, d5⟩ := h.slot hm
    have HB := Lib.hid hb
    have hR : R < w.heap.size := World.block_lt_of_cell? _ _ h.r5
    have hl := look_run (h.map.below (w' := (w.alloc (.cells #[.int .i64 n, .int .i64 (s.sl n).ends] 92))) (by go_grown) h.lt.2) t ht
    clear hb h
    simp only [Int.toNat_natCast, Bool.true_and]
    generalize hx : s.sl n = x at *
    clear hx
    generalize hg : s.G t = g at hl ⊢
    clear hg
    go_enter Tryd.func31, Tryd.ntmps31
    go_wp2_with fail
    refine (hasSlot_any n _ HH.out).mono ?_
    rintro e w' ⟨rfl, rfl⟩
    rw [HB.out]
    go_wp2_with fail
    have e0 : (w.alloc (.cells #[.int .i64 n, .int .i64 x.ends] 92)).cell? ⟨w.heap.size, 0, none⟩ = some (.int .i64 n) := by simp [go_sem]
    have e1 : (w.alloc (.cells #[.int .i64 n, .int .i64 x.ends] 92)).cell? ⟨w.heap.size, 1, none⟩ = some (.int .i64 x.ends) := by simp [go_sem]
    have hb1 : Below w.heap.size w (w.alloc (.cells #[.int .i64 n, .int .i64 x.ends] 92)) := by go_grown
    have hz1 : w.heap.size < (w.alloc (.cells #[.int .i64 n, .int .i64 x.ends] 92)).heap.size := by simp
    have HR1 := Lib.hid (HH.out.below hb1)
    have HB1 := Lib.hid hb1
    generalize w.alloc (.cells #[.int .i64 n, .int .i64 x.ends] 92) = w1 at e0 e1 hz1 HR1 HB1 ⊢
    clear hb1 hl c4 c5 d0 d1 d2 d3 d4 d5 HH
    go_loopw [30] (fun v wr => ∃ k : Nat, k ≤ 12 ∧ v = .int .i64 k ∧ gHas g (n, x.ends) k = false ∧ Below w1.heap.size w1 wr) (fun v _ => 12 - (intOf v).toNat)
    case atStart => exact ⟨0, by omega, rfl, rfl, Below.refl _ _⟩
    case round =>
      rename_i wr
      obtain ⟨k, hk, rfl, hg, hbr⟩ := hrel
      have f0 : wr.cell? ⟨w.heap.size, 0, none⟩ = some (.int .i64 n) := keep hbr e0
      have f1 : wr.cell? ⟨w.heap.size, 1, none⟩ = some (.int .i64 x.ends) := keep hbr e1
      have hzr : w.heap.size < wr.heap.size := World.block_lt_of_cell? _ _ f0
      by_cases hlt : k < 12
      · have hi := fun w => idx93 g k hlt w
        have HBR := Lib.hid hbr
        have HG := Lib.hid hg
        clear hbr hg
        by_cases hp : (g k).1 = (n : Int) ∧ (g k).2 = x.ends
        · obtain ⟨p1, p2⟩ := hp
          have HP := Lib.hid (show gHas g (n, x.ends) (k + 1) = true by rw [gHas_succ]; simp [p1, p2])
          have hk1 : k + 1 ≤ 12 := by omega
          go_wp2
          go_returns
          exact ⟨ret_bool (by rw [gHas_up hk1 HP.out]; rfl), HB1.out.trans ((HBR.out.mono HB1.out.size).trans (Below.mono (by go_grown) (Nat.le_of_lt hzr)))⟩
        · have HP := Lib.hid (show gHas g (n, x.ends) (k + 1) = false by rw [gHas_succ, HG.out, Bool.false_or]; simp; omega)
          clear hp
          go_wp2
          · exfalso
            have := HP.out
            rw [gHas_succ] at this
            simp [*] at this
          all_goals
            go_roundw
            case rel => exact ⟨k + 1, by omega, by go_num, HP.out, HBR.out.trans (Below.mono (by go_grown) HBR.out.size)⟩
            case measure => simp [intOf]; omega
      · obtain rfl : k = 12 := by omega
        have HBR := Lib.hid hbr
        have HG := Lib.hid hg
        have HRR := Lib.hid (HR1.out.below hbr)
        clear hbr hg
        go_wp2_with fail
        refine (owns_any t n _ HRR.out).mono ?_
        rintro e w' ⟨rfl, rfl⟩
        go_wp2
        go_returns
        exact ⟨ret_bool (by rw [HG.out]; rfl), HB1.out.trans (HBR.out.mono HB1.out.size)⟩

def anyB (s : RS) (i : Int) (n : Nat) : Bool := (List.range n).any fun t => rightB s t i
theorem anyB_succ (s : RS) (i : Int) (n : Nat) : anyB s i (n + 1) = (anyB s i n || rightB s n i) := by simp [anyB, List.range_succ]
theorem anyB_up {s : RS} {i : Int} {n m : Nat} (h : n ≤ m) (hg : anyB s i n = true) : anyB s i m = true := by
  unfold anyB at *
  rw [List.any_eq_true] at *
  obtain ⟨k, h1, h2⟩ := hg
  exact ⟨k, by simp at *; omega, h2⟩

theorem wf_small {t : Int} (h0 : 0 ≤ t) (h1 : t ≤ 100) : (Lit.int .i64 t).wf = true := by
  have h1' : IntKind.i64.min = -9223372036854775808 := by decide +kernel
  have h2 : IntKind.i64.max = 9223372036854775807 := by decide +kernel
  simp [Lit.wf, h1', h2]
  omega

set_option maxHeartbeats 4000000 in
set_option maxRecDepth 100000 in
theorem anyRight_any {R S M : Nat} {s : RS} (hs : s.Ok) (i : Int) (w : World) (h : RepAt R S M s w) :
    Calls Tryd.prog 34 #[.pointer (some ⟨R, 0, none⟩), .int .i64 i] w fun e w' => e = .returned (.bool (anyB s i (s.T + 1).toNat)) ∧ Below w.heap.size w w' := by
  have HH := Lib.hid h
  have c0 := h.r0
  obtain ⟨t0, t1⟩ := hs.T
  clear h hs
  obtain ⟨T, hT⟩ : ∃ T : Nat, s.T = (T : Int) := ⟨s.T.toNat, by omega⟩
  rw [hT] at c0 t0 t1 ⊢
  clear hT
  have e1 : ((T : Int) + 1).toNat = T + 1 := by omega
  rw [e1]
  clear e1
  go_enter Tryd.func34, Tryd.ntmps34
  go_wp2_with fail
  go_loopw [12] (fun v wr => ∃ k : Nat, k ≤ T + 1 ∧ v = .int .i64 k ∧ anyB s i k = false ∧ Below w.heap.size w wr) (fun v _ => T + 1 - (intOf v).toNat)
  case atStart => exact ⟨0, by omega, rfl, rfl, Below.refl _ _⟩
  case round =>
    rename_i wr
    obtain ⟨k, hk, rfl, hg, hbr⟩ := hrel
    have HBR := Lib.hid hbr
    have HG := Lib.hid hg
    have HRR := Lib.hid (HH.out.below hbr)
    clear hbr hg
    by_cases hlt : k < T + 1
    · have hlt' : (k : Int) < (T : Int) + 1 := by omega
      cases hb : rightB s k i
      · have HP := Lib.hid (show anyB s i (k + 1) = false by rw [anyB_succ, HG.out, hb]; rfl)
        have HB := Lib.hid hb
        clear hb
        go_wp2_with fail
        refine (hasRight_any k i (wf_small (by omega) (by omega)) _ HRR.out).mono ?_
        rintro e w' ⟨rfl, hb'⟩
        rw [HB.out]
        have HB' := Lib.hid hb'
        clear hb'
        go_wp2
        go_roundw
        case rel => exact ⟨k + 1, by omega, by go_num, HP.out, HBR.out.trans (HB'.out.mono HBR.out.size)⟩
        case measure => simp [intOf]; omega
      · have HP := Lib.hid (show anyB s i (k + 1) = true by rw [anyB_succ, hb]; simp)
        have hk1 : k + 1 ≤ T + 1 := by omega
        have HB := Lib.hid hb
        clear hb
        go_wp2_with fail
        refine (hasRight_any k i (wf_small (by omega) (by omega)) _ HRR.out).mono ?_
        rintro e w' ⟨rfl, hb'⟩
        rw [HB.out]
        have HB' := Lib.hid hb'
        clear hb'
        go_wp2
        go_returns
        exact ⟨ret_bool (by rw [anyB_up hk1 HP.out]), HBR.out.trans (HB'.out.mono HBR.out.size)⟩
    · obtain rfl : k = T + 1 := by omega
      have hd : decide (((T + 1 : Nat) : Int) < (T : Int) + 1) = false := by simp
      go_wp2
      go_returns
      exact ⟨ret_bool (by rw [HG.out]), HBR.out⟩
end Go.Proofs.YtejfcmgnacimgaaDoor
