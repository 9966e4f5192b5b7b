/- The contract of the closure that publishes, and calls itself. -/
import Derived.Test.YtejfcmgnacimgaaDoorB4
import Derived.RegionTactic
import Derived.ChangeAlike
namespace Go.Proofs.YtejfcmgnacimgaaDoor
open Go.RowKit
set_option linter.unusedVariables false
set_option linter.unusedSimpArgs false

theorem and22 (h : Int) (h0 : 0 ≤ h) (h1 : h < 18446744073709551616) : bits .and .u64 h 4194303 = h % 4194304 := by
  obtain ⟨n, rfl⟩ := Int.eq_ofNat_of_zero_le h0
  have := u64_and_nat n 4194303 (by omega) (by omega)
  rw [show ((4194303 : Int)) = ((4194303 : Nat) : Int) from rfl, this, show n &&& 4194303 = n % 4194304 from Nat.and_two_pow_sub_one_eq_mod n 22]
  omega
theorem idx59_0 (x : Nat → Int) (w : World) : (Instr.index 59 (.agg #[.int .u64 (x 0), .int .u64 (x 1), .int .u64 (x 2), .int .u64 (x 3), .int .u64 (x 4), .int .u64 (x 5), .int .u64 (x 6), .int .u64 (x 7)]) (.int .i64 0)).run Tryd.prog w = .ok (.int .u64 (x 0)) w := by kernel_rfl
theorem idx59_1 (x : Nat → Int) (w : World) : (Instr.index 59 (.agg #[.int .u64 (x 0), .int .u64 (x 1), .int .u64 (x 2), .int .u64 (x 3), .int .u64 (x 4), .int .u64 (x 5), .int .u64 (x 6), .int .u64 (x 7)]) (.int .i64 1)).run Tryd.prog w = .ok (.int .u64 (x 1)) w := by kernel_rfl
theorem idx59_2 (x : Nat → Int) (w : World) : (Instr.index 59 (.agg #[.int .u64 (x 0), .int .u64 (x 1), .int .u64 (x 2), .int .u64 (x 3), .int .u64 (x 4), .int .u64 (x 5), .int .u64 (x 6), .int .u64 (x 7)]) (.int .i64 2)).run Tryd.prog w = .ok (.int .u64 (x 2)) w := by kernel_rfl
theorem idx59_3 (x : Nat → Int) (w : World) : (Instr.index 59 (.agg #[.int .u64 (x 0), .int .u64 (x 1), .int .u64 (x 2), .int .u64 (x 3), .int .u64 (x 4), .int .u64 (x 5), .int .u64 (x 6), .int .u64 (x 7)]) (.int .i64 3)).run Tryd.prog w = .ok (.int .u64 (x 3)) w := by kernel_rfl
theorem idx59_4 (x : Nat → Int) (w : World) : (Instr.index 59 (.agg #[.int .u64 (x 0), .int .u64 (x 1), .int .u64 (x 2), .int .u64 (x 3), .int .u64 (x 4), .int .u64 (x 5), .int .u64 (x 6), .int .u64 (x 7)]) (.int .i64 4)).run Tryd.prog w = .ok (.int .u64 (x 4)) w := by kernel_rfl
theorem idx59_5 (x : Nat → Int) (w : World) : (Instr.index 59 (.agg #[.int .u64 (x 0), .int .u64 (x 1), .int .u64 (x 2), .int .u64 (x 3), .int .u64 (x 4), .int .u64 (x 5), .int .u64 (x 6), .int .u64 (x 7)]) (.int .i64 5)).run Tryd.prog w = .ok (.int .u64 (x 5)) w := by kernel_rfl
theorem idx59_6 (x : Nat → Int) (w : World) : (Instr.index 59 (.agg #[.int .u64 (x 0), .int .u64 (x 1), .int .u64 (x 2), .int .u64 (x 3), .int .u64 (x 4), .int .u64 (x 5), .int .u64 (x 6), .int .u64 (x 7)]) (.int .i64 6)).run Tryd.prog w = .ok (.int .u64 (x 6)) w := by kernel_rfl
theorem idx59_7 (x : Nat → Int) (w : World) : (Instr.index 59 (.agg #[.int .u64 (x 0), .int .u64 (x 1), .int .u64 (x 2), .int .u64 (x 3), .int .u64 (x 4), .int .u64 (x 5), .int .u64 (x 6), .int .u64 (x 7)]) (.int .i64 7)).run Tryd.prog w = .ok (.int .u64 (x 7)) w := by kernel_rfl
theorem idx59 (x : Nat → Int) (k : Nat) (hk : k < 8) (w : World) : (Instr.index 59 (.agg #[.int .u64 (x 0), .int .u64 (x 1), .int .u64 (x 2), .int .u64 (x 3), .int .u64 (x 4), .int .u64 (x 5), .int .u64 (x 6), .int .u64 (x 7)]) (.int .i64 k)).run Tryd.prog w = .ok (.int .u64 (x k)) w := by
  match k, hk with
  | 0, _ => exact idx59_0 x w
  | 1, _ => exact idx59_1 x w
  | 2, _ => exact idx59_2 x w
  | 3, _ => exact idx59_3 x w
  | 4, _ => exact idx59_4 x w
  | 5, _ => exact idx59_5 x w
  | 6, _ => exact idx59_6 x w
  | 7, _ => exact idx59_7 x w
  | n + 8, h => omega

/-- What the closure holds. -/
structure Cap (S M b1 b2 b3 b4 R : Nat) (e : Ev) (at_ : Int) (w : World) : Prop where
  c1 : w.cell? ⟨b1, 0, none⟩ = some (.pointer (some ⟨R, 0, none⟩))
  c2 : EvAt b2 e w
  c3 : w.cell? ⟨b3, 0, none⟩ = some (.int .i64 at_)
  c4 : w.cell? ⟨b4, 0, none⟩ = some (.func (.func 46) #[] #[.pointer (some ⟨b1, 0, none⟩), .pointer (some ⟨b2, 0, none⟩), .pointer (some ⟨b3, 0, none⟩), .pointer (some ⟨b4, 0, none⟩)])
  s : b1 ≠ S ∧ b2 ≠ S ∧ b3 ≠ S ∧ b4 ≠ S
  m : b1 ≠ M ∧ b2 ≠ M ∧ b3 ≠ M ∧ b4 ≠ M

theorem Kq.keep {S M : Nat} {w w' : World} (h : Kq w.heap.size S M w w') {p : Addr} {v : Value} (hv : w.cell? p = some v) (h1 : p.block ≠ S) (h2 : p.block ≠ M) : w'.cell? p = some v :=
  (h.cell (World.block_lt_of_cell? _ _ hv) h1 h2).trans hv
theorem EvAt.kq {S M E : Nat} {e : Ev} {w w' : World} (h : EvAt E e w) (hb : Kq w.heap.size S M w w') (h1 : E ≠ S) (h2 : E ≠ M) : EvAt E e w' :=
  ⟨hb.keep h.c0 h1 h2, hb.keep h.c1 h1 h2, hb.keep h.c2 h1 h2, hb.keep h.c3 h1 h2, hb.keep h.c4 h1 h2, hb.keep h.c5 h1 h2, hb.keep h.c6 h1 h2, hb.keep h.c7 h1 h2, hb.keep h.c8 h1 h2, hb.keep h.c9 h1 h2, hb.keep h.c10 h1 h2, hb.keep h.c11 h1 h2, hb.keep h.c12 h1 h2, hb.keep h.c13 h1 h2, hb.keep h.c14 h1 h2, hb.keep h.c15 h1 h2⟩
theorem Cap.kq {S M b1 b2 b3 b4 R : Nat} {e : Ev} {at_ : Int} {w w' : World} (h : Cap S M b1 b2 b3 b4 R e at_ w) (hb : Kq w.heap.size S M w w') : Cap S M b1 b2 b3 b4 R e at_ w' :=
  ⟨hb.keep h.c1 h.s.1 h.m.1, h.c2.kq hb h.s.2.1 h.m.2.1, hb.keep h.c3 h.s.2.2.1 h.m.2.2.1, hb.keep h.c4 h.s.2.2.2 h.m.2.2.2, h.s, h.m⟩

/-- Words of slots are words. -/
def RS.Wok (s : RS) : Prop := ∀ i j, 0 ≤ (s.sl i).ws j ∧ (s.sl i).ws j ≤ 18446744073709551615

theorem ownB_yes {s : RS} {t i : Int} (h : ownB s t i = true) : ∃ n : Nat, i = (n : Int) ∧ n < s.m ∧ hasB s i = true := by
  unfold ownB at h
  simp only [Bool.and_eq_true] at h
  obtain ⟨n, h1, h2, h3⟩ := hasB_yes h.1
  exact ⟨n, h1, h3, h.1⟩

theorem pubF_ws (t at_ : Int) : ∀ (f : Nat) (s : RS) (wd : Int) (i : Nat), ((pubF f s t at_ wd).sl i).ws = (s.sl i).ws
  | 0, s, wd, i => rfl
  | f + 1, s, wd, i => by
    unfold pubF
    cases ho : ownB s t (wd % 4194304)
    · rw [if_neg (by simp)]
    · rw [if_pos rfl]
      have : ∀ (l : List Nat) (s1 : RS), ((l.foldl (fun s' j => pubF f s' t at_ ((s.sl (wd % 4194304).toNat).ws j)) s1).sl i).ws = (s1.sl i).ws := by
        intro l
        induction l with
        | nil => exact fun s1 => rfl
        | cons a l ih => exact fun s1 => (ih _).trans (pubF_ws t at_ f s1 _ i)
      rw [this]
      simp only [setSl]
      split
      · rename_i e; subst e; rfl
      · rfl
theorem setSl_wok {s : RS} (h : s.Wok) (n : Nat) (x : Sl) (hx : ∀ j, 0 ≤ x.ws j ∧ x.ws j ≤ 18446744073709551615) : (setSl s n x).Wok := by
  intro i j
  simp only [setSl]
  split
  · exact hx j
  · exact h i j
theorem pubF_wok {s : RS} (h : s.Wok) (t at_ : Int) (f : Nat) (wd : Int) : (pubF f s t at_ wd).Wok := by
  intro i j
  rw [pubF_ws]
  exact h i j

/-- What is published behind so many words. -/
def foldP (f : Nat) (s1 : RS) (t at_ : Int) (ws : Nat → Int) (k : Nat) : RS := (List.range k).foldl (fun s' j => pubF f s' t at_ (ws j)) s1
theorem foldP_succ (f : Nat) (s1 : RS) (t at_ : Int) (ws : Nat → Int) (k : Nat) : foldP f s1 t at_ ws (k + 1) = pubF f (foldP f s1 t at_ ws k) t at_ (ws k) := by
  simp [foldP, List.range_succ]
theorem foldP_inv (f g : Nat) (s1 : RS) (t at_ : Int) (ht : t ≠ -1) (ws : Nat → Int) (h1 : s1.Wok) (h2 : cnt s1 t ≤ g) : ∀ k, (foldP f s1 t at_ ws k).Wok ∧ cnt (foldP f s1 t at_ ws k) t ≤ g
  | 0 => ⟨h1, h2⟩
  | k + 1 => by
    have ih := foldP_inv f g s1 t at_ ht ws h1 h2 k
    rw [foldP_succ]
    exact ⟨pubF_wok ih.1 _ _ _ _, Nat.le_trans (cnt_pub t at_ ht f _ _) ih.2⟩

set_option maxHeartbeats 4000000 in
set_option maxRecDepth 100000 in
theorem pub_no {R S M b1 b2 b3 b4 : Nat} {s : RS} (e : Ev) (at_ : Int) (wd : Int) (hw0 : 0 ≤ wd) (hw1 : wd ≤ 18446744073709551615) (w : World) (h : RepAt R S M s w) (hc : Cap S M b1 b2 b3 b4 R e at_ w) (ho : ownB s e.th (wd % 4194304) = false) :
    Calls Tryd.prog 46 #[.int .u64 wd, .pointer (some ⟨b1, 0, none⟩), .pointer (some ⟨b2, 0, none⟩), .pointer (some ⟨b3, 0, none⟩), .pointer (some ⟨b4, 0, none⟩)] w fun x w' => x = .returned (.tuple #[]) ∧ w = w' := by
  have hb := and22 wd hw0 (by omega)
  have hm0 : 0 ≤ wd % 4194304 := by omega
  have hm1 : wd % 4194304 ≤ 4194303 := by omega
  have HH := Lib.hid h
  have HO := Lib.hid ho
  have c1 := hc.c1
  have c2 := hc.c2.c1
  clear hw0 hw1 ho hc h
  go_enter Tryd.func46, Tryd.ntmps46
  go_wp2_with fail
  refine (owns_any _ _ _ HH.out).mono ?_
  rintro x w' ⟨rfl, rfl⟩
  rw [HO.out]
  go_wp2
  go_returns
  exact ⟨rfl, rfl⟩

set_option maxHeartbeats 4000000 in
set_option maxRecDepth 100000 in
theorem pub_any {R S M b1 b2 b3 b4 : Nat} (hS0 : S ≠ 0) (e : Ev) (he : e.th ≠ -1) (at_ : Int) : ∀ (f : Nat) (s : RS) (hs : s.Wok) (hcn : cnt s e.th ≤ f) (wd : Int) (hw0 : 0 ≤ wd) (hw1 : wd ≤ 18446744073709551615) (w : World) (h : RepAt R S M s w) (hc : Cap S M b1 b2 b3 b4 R e at_ w),
    Calls Tryd.prog 46 #[.int .u64 wd, .pointer (some ⟨b1, 0, none⟩), .pointer (some ⟨b2, 0, none⟩), .pointer (some ⟨b3, 0, none⟩), .pointer (some ⟨b4, 0, none⟩)] w fun x w' => x = .returned (.tuple #[]) ∧ RepAt R S M (pubF (f + 1) s e.th at_ wd) w' ∧ Kq w.heap.size S M w w' := by
  intro f
  induction f with
  | zero =>
    intro s hs hcn wd hw0 hw1 w h hc
    have ho : ownB s e.th (wd % 4194304) = false := by
      cases ho : ownB s e.th (wd % 4194304)
      · rfl
      · obtain ⟨n, h1, h2, -⟩ := ownB_yes ho
        exfalso
        rw [h1] at ho
        have := cnt_set (at_ := at_) he h2 ho
        omega
    refine (pub_no e at_ wd hw0 hw1 w h hc ho).mono ?_
    rintro x w' ⟨rfl, rfl⟩
    have hf : pubF (0 + 1) s e.th at_ wd = s := by unfold pubF; rw [if_neg (by simp [ho])]
    exact ⟨rfl, by rw [hf]; exact h, Kq.refl _ _ _ _⟩
  | succ f ih =>
    intro s hs hcn wd hw0 hw1 w h hc
    cases ho : ownB s e.th (wd % 4194304)
    · refine (pub_no e at_ wd hw0 hw1 w h hc ho).mono ?_
      rintro x w' ⟨rfl, rfl⟩
      have hf : pubF (f + 1 + 1) s e.th at_ wd = s := by unfold pubF; rw [if_neg (by simp [ho])]
      exact ⟨rfl, by rw [hf]; exact h, Kq.refl _ _ _ _⟩
    · obtain ⟨n, h1, h2, h3⟩ := ownB_yes ho
      have hf : pubF (f + 1 + 1) s e.th at_ wd = (List.range 8).foldl (fun s' j => pubF (f + 1) s' e.th at_ ((s.sl n).ws j)) (setSl s n (pubS (s.sl n) at_)) := by
        rw [pubF, if_pos ho, h1, Int.toNat_natCast]
      have hlt : cnt (setSl s n (pubS (s.sl n) at_)) e.th ≤ f := by
        rw [h1] at ho
        have := cnt_set (at_ := at_) he h2 ho
        omega
      rw [hf]
      change Calls Tryd.prog 46 _ w fun x w' => x = .returned (.tuple #[]) ∧ RepAt R S M (foldP (f + 1) (setSl s n (pubS (s.sl n) at_)) e.th at_ (s.sl n).ws 8) w' ∧ Kq w.heap.size S M w w'
      have HI := Lib.hid (foldP_inv (f + 1) f (setSl s n (pubS (s.sl n) at_)) e.th at_ he (s.sl n).ws (setSl_wok hs n _ (hs n)) hlt)
      have HW := Lib.hid (hs n)
      have hb := and22 wd hw0 (by omega)
      have hm0 : 0 ≤ wd % 4194304 := by omega
      have hm1 : wd % 4194304 ≤ 4194303 := by omega
      rw [h1] at hb ho
      have HH := Lib.hid h
      have HO := Lib.hid ho
      have HC := Lib.hid hc
      have HN := Lib.hid h2
      have HF := Lib.hid hlt
      have in0 : (0 : Int) ≤ n := by omega
      have in1 : (n : Int) < s.m := by omega
      have in2 : (n : Int) ≤ 4194303 := by omega
      have r4 := h.r4
      have c1 := hc.c1
      obtain ⟨nb1, nb2, nb3, nb4⟩ := hc.s
      have c2 := hc.c2.c1
      have c3 := hc.c3
      have c4 := hc.c4
      obtain ⟨d0, d1, d2, d3, d4, d5⟩ := h.slot h2
      have sf := h.sf
      clear hw0 hw1 ho hc h hm0 hm1 h1 h3 hlt hcn hf
      go_enter Tryd.func46, Tryd.ntmps46
      go_wp2_with fail
      refine (owns_any _ _ _ HH.out).mono ?_
      rintro x w' ⟨rfl, rfl⟩
      rw [HO.out]
      go_wp2_with fail
      go_region
      have hp := (HH.out.slot3 hS0 n HN.out 0 2 3 (by decide) (by decide) (by decide) (.int .i64 2) (.int .i64 (-1)) (.int .i64 at_) (pubS (s.sl n) at_) (by
        intro j hj
        match j, hj with
        | 0, _ | 1, _ | 2, _ | 3, _ | 4, _ | 5, _ | 6, _ | 7, _ | 8, _ | 9, _ | 10, _ | 11, _ | 12, _ | 13, _ => rfl
        | j + 14, hj => omega)).below (Below.refl _ _).drew
      have hk : Kq w.heap.size S M w (((w.setCell ⟨S, n * 14, none⟩ (.int .i64 2)).setCell ⟨S, n * 14 + 2, none⟩ (.int .i64 (-1))).setCell ⟨S, n * 14 + 3, none⟩ (.int .i64 at_)).drew :=
        ((((Kq.refl _ _ _ _).set_S _ _).set_S _ _).set_S _ _).trans ⟨rfl, rfl, rfl, Nat.le_refl _, fun _ _ _ _ => rfl⟩
      have HP := Lib.hid hp
      have HK := Lib.hid hk
      have HC1 := Lib.hid (HC.out.kq hk)
      clear hp hk c1 c2 c3 c4 d0 d1 d2 d3 d4 d5 sf r4
      change Exit.then _ _ Exit.normal _ (World.drew (((w.setCell ⟨S, n * 14 + 0, none⟩ (.int .i64 2)).setCell ⟨S, n * 14 + 2, none⟩ (.int .i64 (-1))).setCell ⟨S, n * 14 + 3, none⟩ (.int .i64 at_)))
      generalize World.drew (((w.setCell ⟨S, n * 14 + 0, none⟩ (.int .i64 2)).setCell ⟨S, n * 14 + 2, none⟩ (.int .i64 (-1))).setCell ⟨S, n * 14 + 3, none⟩ (.int .i64 at_)) = w3 at HP HK HC1 ⊢
      have q0 := HP.out.sc n HN.out 6 (by decide)
      have q1 := HP.out.sc n HN.out 7 (by decide)
      have q2 := HP.out.sc n HN.out 8 (by decide)
      have q3 := HP.out.sc n HN.out 9 (by decide)
      have q4 := HP.out.sc n HN.out 10 (by decide)
      have q5 := HP.out.sc n HN.out 11 (by decide)
      have q6 := HP.out.sc n HN.out 12 (by decide)
      have q7 := HP.out.sc n HN.out 13 (by decide)
      simp only [setSl, if_pos, pubS, scell] at q0 q1 q2 q3 q4 q5 q6 q7
      have hz3 := HK.out.size
      have c4 := HC1.out.c4
      go_wp2_with fail
      clear q0 q1 q2 q3 q4 q5 q6 q7
      have hx := fun k (hk : k < 8) w => idx59 (s.sl n).ws k hk w
      have HX := Lib.hid hx
      clear hx
      generalize hs1 : setSl s n (pubS (s.sl n) at_) = s1 at *
      have HS1 := Lib.hid hs1
      clear hs1
      generalize hws : (s.sl n).ws = ws at *
      have HWS := Lib.hid hws
      clear hws
      go_loopw [41] (fun v wr => ∃ k : Nat, k ≤ 8 ∧ v = .int .i64 k ∧ RepAt R S M (foldP (f + 1) s1 e.th at_ ws k) wr ∧ Kq w.heap.size S M w wr ∧ Cap S M b1 b2 b3 b4 R e at_ wr) (fun v _ => 8 - (intOf v).toNat)
      case atStart => exact ⟨0, by omega, rfl, HP.out, HK.out, HC1.out⟩
      case round =>
        rename_i wr
        obtain ⟨k, hk, rfl, hr, hkq, hca⟩ := hrel
        have HRR := Lib.hid hr
        have HKK := Lib.hid hkq
        have HCC := Lib.hid hca
        have c4 := hca.c4
        clear hr hkq hca
        by_cases hlt : k < 8
        · have hi := fun w => HX.out k hlt w
          go_wp2_with fail
          refine (ih (foldP (f + 1) s1 e.th at_ ws k) (HI.out k).1 (HI.out k).2 (ws k) (HW.out k).1 (HW.out k).2 _ HRR.out HCC.out).mono ?_
          rintro x w5 ⟨rfl, hr, hkq⟩
          have hca := HCC.out.kq hkq
          have hkw := HKK.out.trans (hkq.mono HKK.out.size)
          rw [← foldP_succ] at hr
          have HF := Lib.hid (And.intro hr (And.intro hkw hca))
          clear hr hkq hca hkw c4
          go_wp2
          go_roundw
          case rel => exact ⟨k + 1, by omega, by go_num, HF.out⟩
          case measure => simp [intOf]; omega
        · obtain rfl : k = 8 := by omega
          go_wp2
          go_returns
          have h1 := HS1.out
          have h2 := HWS.out
          subst h1 h2
          exact ⟨rfl, HRR.out, HKK.out⟩
end Go.Proofs.YtejfcmgnacimgaaDoor
