/- The contract of follow: what an event leaves. -/
import Derived.Test.YtejfcmgnacimgaaDoorB7
namespace Go.Proofs.YtejfcmgnacimgaaDoor
open Go.RowKit
set_option linter.unusedVariables false
set_option linter.unusedSimpArgs false

def followF (s : RS) (at_ : Int) (e : Ev) : RS :=
  if !thB s e.th then s
  else if e.kind == 5 && e.nk == 7 then clearF s e.th e.guard
  else if e.kind == 5 && hasB s e.slot then noteF s at_ e.th e e.slot.toNat
  else if writesB e then writeF s at_ e
  else s

theorem write_any {R S M : Nat} {s : RS} (hS0 : S ≠ 0) (hs : s.Ok) (hwk : s.Wok) (at_ : Int) (e : Ev) (he : e.Ok) (hth : e.th ≠ -1) (w : World) (h : RepAt R S M s w) :
    Calls Tryd.prog 39 #[.pointer (some ⟨R, 0, none⟩), .int .i64 at_, .agg (evCells e)] w fun x w' => x = .returned (.tuple #[]) ∧ RepAt R S M (writeF s at_ e) w' ∧ Kq w.heap.size S M w w' := by
  cases ho : ownB s e.th (fndS s.B s.a s.b e.at_).1
  · exact write_no hS0 hs hwk at_ e he hth w h ho
  · exact write_own hS0 hs hwk at_ e he hth w h ho
theorem thB_yes {s : RS} {t : Int} (h : thB s t = true) : t ≠ -1 := by
  unfold thB at h
  simp at h
  omega

set_option maxHeartbeats 8000000 in
set_option maxRecDepth 100000 in
theorem follow_any {R S M : Nat} {s : RS} (hS0 : S ≠ 0) (hs : s.Ok) (hwk : s.Wok) (at_ : Int) (e : Ev) (he : e.Ok) (w : World) (h : RepAt R S M s w) :
    Calls Tryd.prog 23 #[.pointer (some ⟨R, 0, none⟩), .int .i64 at_, .agg (evCells e)] w fun x w' => x = .returned (.tuple #[]) ∧ RepAt R S M (followF s at_ e) w' ∧ Kq w.heap.size S M w w' := by
  have hb0 : Below w.heap.size w (w.alloc (.cells (evCells e) 54)) := by go_grown
  have hE := EvAt.new e w 54
  have HR := Lib.hid (h.below hb0)
  have HB := Lib.hid hb0
  obtain ⟨q0, q1, q2, q3, q4, q5, q6, q7, q8, q9, q10, q11, q12, q13, q14, q15⟩ := hE
  clear hb0 h
  unfold followF
  cases hT : thB s e.th
  · rw [if_pos (by simp)]
    have HT := Lib.hid hT
    clear hT
    go_enter Tryd.func23, Tryd.ntmps23
    go_wp2_with fail
    refine (hasThread_any _ _ HR.out).mono ?_
    rintro x w' ⟨rfl, rfl⟩
    rw [HT.out]
    go_wp2
    go_returns
    exact ⟨rfl, HR.out, Kq.of_below HB.out (Nat.le_refl _)⟩
  · rw [if_neg (by simp)]
    have hth := thB_yes hT
    have HT := Lib.hid hT
    have HTH := Lib.hid hth
    clear hT hth
    have fin : ∀ (s' : RS) (w2 : World), RepAt R S M s' w2 ∧ Kq (w.alloc (.cells (evCells e) 54)).heap.size S M (w.alloc (.cells (evCells e) 54)) w2 → RepAt R S M s' w2 ∧ Kq w.heap.size S M w w2 :=
      fun _ _ h => ⟨h.1, (Kq.of_below HB.out (Nat.le_refl _)).trans (h.2.mono HB.out.size)⟩
    have FIN := Lib.hid fin
    clear fin
    cases k5 : e.kind == 5
    · cases hw : writesB e
      · simp only [Bool.false_and, Bool.false_eq_true, if_false]
        have HW := Lib.hid hw
        clear hw
        go_enter Tryd.func23, Tryd.ntmps23
        go_wp2_with fail
        refine (hasThread_any _ _ HR.out).mono ?_
        rintro x w' ⟨rfl, rfl⟩
        rw [HT.out]
        go_wp2_with fail
        refine (writes_any e _).mono ?_
        rintro x w2 ⟨rfl, hb2⟩
        rw [HW.out]
        have HR2 := Lib.hid (And.intro (HR.out.below hb2) (Kq.of_below (S := S) (M := M) hb2 (Nat.le_refl _)))
        clear hb2
        go_wp2
        go_returns
        exact ⟨rfl, FIN.out _ _ HR2.out⟩
      · simp only [Bool.false_and, Bool.false_eq_true, if_false, if_true]
        have HW := Lib.hid hw
        clear hw
        go_enter Tryd.func23, Tryd.ntmps23
        go_wp2_with fail
        refine (hasThread_any _ _ HR.out).mono ?_
        rintro x w' ⟨rfl, rfl⟩
        rw [HT.out]
        go_wp2_with fail
        refine (writes_any e _).mono ?_
        rintro x w2 ⟨rfl, hb2⟩
        rw [HW.out]
        have HB2 := Lib.hid hb2
        have p0 := keep hb2 q0
        have p1 := keep hb2 q1
        have p2 := keep hb2 q2
        have p3 := keep hb2 q3
        have p4 := keep hb2 q4
        have p5 := keep hb2 q5
        have p6 := keep hb2 q6
        have p7 := keep hb2 q7
        have p8 := keep hb2 q8
        have p9 := keep hb2 q9
        have p10 := keep hb2 q10
        have p11 := keep hb2 q11
        have p12 := keep hb2 q12
        have p13 := keep hb2 q13
        have p14 := keep hb2 q14
        have p15 := keep hb2 q15
        clear hb2
        go_wp2_with fail
        refine (write_any hS0 hs hwk at_ e he HTH.out _ (HR.out.below HB2.out)).mono ?_
        rintro x w3 ⟨rfl, hr, hk⟩
        have HR3 := Lib.hid (And.intro hr ((Kq.of_below (S := S) (M := M) HB2.out (Nat.le_refl _)).trans (hk.mono HB2.out.size)))
        clear hr hk
        go_wp2
        go_returns
        exact ⟨rfl, FIN.out _ _ HR3.out⟩
    · cases k7 : e.nk == 7
      · cases hh : hasB s e.slot
        · have hwf : writesB e = false := by
            have : e.kind = 5 := by simpa using k5
            unfold writesB
            rw [this]; rfl
          simp only [Bool.true_and, Bool.false_eq_true, if_false, hwf]
          have HW := Lib.hid hwf
          have HH := Lib.hid hh
          clear hwf hh
          go_enter Tryd.func23, Tryd.ntmps23
          go_wp2_with fail
          refine (hasThread_any _ _ HR.out).mono ?_
          rintro x w' ⟨rfl, rfl⟩
          rw [HT.out]
          go_wp2_with fail
          refine (hasSlot_any _ _ HR.out).mono ?_
          rintro x w' ⟨rfl, rfl⟩
          rw [HH.out]
          go_wp2_with fail
          refine (writes_any e _).mono ?_
          rintro x w2 ⟨rfl, hb2⟩
          rw [HW.out]
          have HR2 := Lib.hid (And.intro (HR.out.below hb2) (Kq.of_below (S := S) (M := M) hb2 (Nat.le_refl _)))
          clear hb2
          go_wp2
          go_returns
          exact ⟨rfl, FIN.out _ _ HR2.out⟩
        · obtain ⟨n, hn1, hn2, hn3⟩ := hasB_yes hh
          simp only [Bool.true_and, Bool.false_eq_true, if_false, if_true]
          have hn4 : e.slot.toNat = n := by omega
          rw [hn4]
          have HH := Lib.hid hh
          have HN := Lib.hid hn3
          have HN1 := Lib.hid hn1
          clear hh hn1 hn4
          go_enter Tryd.func23, Tryd.ntmps23
          go_wp2_with fail
          refine (hasThread_any _ _ HR.out).mono ?_
          rintro x w' ⟨rfl, rfl⟩
          rw [HT.out]
          go_wp2_with fail
          refine (hasSlot_any _ _ HR.out).mono ?_
          rintro x w' ⟨rfl, rfl⟩
          rw [HH.out]
          go_wp2_with fail
          refine (note_any hS0 at_ e.th he.th e n HN.out HN1.out _ HR.out).mono ?_
          rintro x w3 ⟨rfl, hr, hk⟩
          have HR3 := Lib.hid (And.intro hr hk)
          clear hr hk
          go_wp2
          go_returns
          exact ⟨rfl, FIN.out _ _ HR3.out⟩
      · simp only [Bool.true_and, if_true]
        go_enter Tryd.func23, Tryd.ntmps23
        go_wp2_with fail
        refine (hasThread_any _ _ HR.out).mono ?_
        rintro x w' ⟨rfl, rfl⟩
        rw [HT.out]
        go_wp2_with fail
        refine (clear_any e.th he.th e.guard _ HR.out).mono ?_
        rintro x w3 ⟨rfl, hr, hk⟩
        have HR3 := Lib.hid (And.intro hr hk)
        clear hr hk
        go_wp2
        go_returns
        exact ⟨rfl, FIN.out _ _ HR3.out⟩
end Go.Proofs.YtejfcmgnacimgaaDoor
