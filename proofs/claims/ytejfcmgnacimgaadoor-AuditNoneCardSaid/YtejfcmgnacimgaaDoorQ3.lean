/- AuditNone answers true, in whatever world: the walk. -/
import Derived.Test.YtejfcmgnacimgaaDoorQ2
import Derived.Test.YtejfcmgnacimgaaDoorK1
namespace Go.Proofs.YtejfcmgnacimgaaDoor
open Go.RowKit Go.ChangeMaps
set_option linter.unusedVariables false
set_option linter.unusedSimpArgs false

theorem bad_yes {e : Ev} (h : badB e = true) : (e.kind == 5) = true ∧ decide (0 ≤ e.th) = true ∧ decide (e.th ≤ 3) = true ∧
    ((e.nk == 3) = true ∨ ((e.nk == 3) = false ∧ (e.nk == 4) = true) ∨ ((e.nk == 3) = false ∧ (e.nk == 4) = false ∧ (e.nk == 8) = true) ∨ ((e.nk == 3) = false ∧ (e.nk == 4) = false ∧ (e.nk == 8) = false ∧ (e.nk == 9) = true)) := by
  unfold badB at h
  revert h
  cases e.kind == 5 <;> cases decide (0 ≤ e.th) <;> cases decide (e.th ≤ 3) <;> cases e.nk == 3 <;> cases e.nk == 4 <;> cases e.nk == 8 <;> cases e.nk == 9 <;> simp
theorem bad_no {e : Ev} (h : badB e = false) : (e.kind == 5) = false ∨ ((e.kind == 5) = true ∧ decide (0 ≤ e.th) = false) ∨ ((e.kind == 5) = true ∧ decide (0 ≤ e.th) = true ∧ decide (e.th ≤ 3) = false) ∨
    ((e.kind == 5) = true ∧ decide (0 ≤ e.th) = true ∧ decide (e.th ≤ 3) = true ∧ (e.nk == 3) = false ∧ (e.nk == 4) = false ∧ (e.nk == 8) = false ∧ (e.nk == 9) = false) := by
  unfold badB at h
  revert h
  cases e.kind == 5 <;> cases decide (0 ≤ e.th) <;> cases decide (e.th ≤ 3) <;> cases e.nk == 3 <;> cases e.nk == 4 <;> cases e.nk == 8 <;> cases e.nk == 9 <;> simp

theorem none_long (ad : Option Addr) (len cap : Nat) (h : 300 < len) (w : World) (hz : Sz w) :
    Calls Tryd.prog 6 #[.slice ad len cap] w fun x w' => x = .returned (.bool true) ∧ Below w.heap.size w w' := by
  have hlen' : (300 : Int) < (len : Int) := by omega
  clear h
  go_enter Tryd.func6, Tryd.ntmps6
  go_wp2_with fail
  refine (known_any _ hz).mono ?_
  rintro x w2 ⟨rfl, hb2⟩
  have HB2 := Lib.hid hb2
  clear hb2
  go_wp2
  go_returns
  exact ⟨rfl, HB2.out⟩

set_option maxHeartbeats 8000000 in
set_option maxRecDepth 100000 in
theorem none_short (ad : Option Addr) (len cap : Nat) (es : List Ev) (hl : es.length = len) (hlen : len ≤ 300) (hes : ∀ e ∈ es, e.Ok) (w : World) (hz : Sz w) (hin : EvsIn ad es w) :
    Calls Tryd.prog 6 #[.slice ad len cap] w fun x w' => x = .returned (.bool true) ∧ Below w.heap.size w w' := by
  obtain ⟨va, vf, vt, vs, hV⟩ : ∃ va vf vt vs, chkF (start 3 0 0 0) 0 es = ⟨va, vf, vt, vs⟩ := ⟨_, _, _, _, rfl⟩
  have HCK := fun w hz hin => check_any 3 0 0 0 (by decide) ad len cap es hl hlen hes w hz hin
  have HAF := fun w hz hin => after_any ad len cap es hl hlen hes w hz hin
  rw [hV] at HCK
  unfold Vd.val at HCK
  have hb0 : Below w.heap.size w (w.alloc (.cells #[.int .i64 3, .int .i64 0, .int .i64 0, .int .i64 0] 24)) := by go_grown
  have g0 : (w.alloc (.cells #[.int .i64 3, .int .i64 0, .int .i64 0, .int .i64 0] 24)).cell? ⟨w.heap.size, 0, none⟩ = some (.int .i64 3) := by simp [go_sem]
  have g1 : (w.alloc (.cells #[.int .i64 3, .int .i64 0, .int .i64 0, .int .i64 0] 24)).cell? ⟨w.heap.size, 1, none⟩ = some (.int .i64 0) := by simp [go_sem]
  have g2 : (w.alloc (.cells #[.int .i64 3, .int .i64 0, .int .i64 0, .int .i64 0] 24)).cell? ⟨w.heap.size, 2, none⟩ = some (.int .i64 0) := by simp [go_sem]
  have g3 : (w.alloc (.cells #[.int .i64 3, .int .i64 0, .int .i64 0, .int .i64 0] 24)).cell? ⟨w.heap.size, 3, none⟩ = some (.int .i64 0) := by simp [go_sem]
  have hl3 : (len : Int) ≤ 300 := by omega
  have HB0 := Lib.hid hb0
  have HZ := Lib.hid hz
  have HIN := Lib.hid hin
  have HV := Lib.hid hV
  have HL := Lib.hid hl
  have HES := Lib.hid hes
  clear hb0 hz hin hV hl hes hlen
  unfold facts at HCK HAF
  go_enter Tryd.func6, Tryd.ntmps6
  go_wp2_with fail
  refine (HCK _ (HZ.out.below HB0.out) (HIN.out.below HB0.out)).mono ?_
  rintro x w1 ⟨rfl, hb1⟩
  have f0 := keep hb1 g0
  have f1 := keep hb1 g1
  have f2 := keep hb1 g2
  have f3 := keep hb1 g3
  have HB1 := Lib.hid (HB0.out.trans (hb1.mono HB0.out.size))
  clear hb1 HCK g0 g1 g2 g3
  go_wp2_with fail
  have g0 := (World.cell?_alloc_lt w1 (.cells #[.int .i64 va, .int .i64 vf, .int .i64 vt, .int .i64 vs] 43) ⟨w.heap.size, 0, none⟩ (World.block_lt_of_cell? _ _ f0)).trans f0
  have g1 := (World.cell?_alloc_lt w1 (.cells #[.int .i64 va, .int .i64 vf, .int .i64 vt, .int .i64 vs] 43) ⟨w.heap.size, 1, none⟩ (World.block_lt_of_cell? _ _ f1)).trans f1
  have g2 := (World.cell?_alloc_lt w1 (.cells #[.int .i64 va, .int .i64 vf, .int .i64 vt, .int .i64 vs] 43) ⟨w.heap.size, 2, none⟩ (World.block_lt_of_cell? _ _ f2)).trans f2
  have g3 := (World.cell?_alloc_lt w1 (.cells #[.int .i64 va, .int .i64 vf, .int .i64 vt, .int .i64 vs] 43) ⟨w.heap.size, 3, none⟩ (World.block_lt_of_cell? _ _ f3)).trans f3
  have v0 : (w1.alloc (.cells #[.int .i64 va, .int .i64 vf, .int .i64 vt, .int .i64 vs] 43)).cell? ⟨w1.heap.size, 0, none⟩ = some (.int .i64 va) := by simp [go_sem]
  have v1 : (w1.alloc (.cells #[.int .i64 va, .int .i64 vf, .int .i64 vt, .int .i64 vs] 43)).cell? ⟨w1.heap.size, 1, none⟩ = some (.int .i64 vf) := by simp [go_sem]
  have v2 : (w1.alloc (.cells #[.int .i64 va, .int .i64 vf, .int .i64 vt, .int .i64 vs] 43)).cell? ⟨w1.heap.size, 2, none⟩ = some (.int .i64 vt) := by simp [go_sem]
  have v3 : (w1.alloc (.cells #[.int .i64 va, .int .i64 vf, .int .i64 vt, .int .i64 vs] 43)).cell? ⟨w1.heap.size, 3, none⟩ = some (.int .i64 vs) := by simp [go_sem]
  have HB2 := Lib.hid (HB1.out.trans (Below.mono (show Below w1.heap.size w1 (w1.alloc (.cells #[.int .i64 va, .int .i64 vf, .int .i64 vt, .int .i64 vs] 43)) by go_grown) HB1.out.size))
  generalize w1.alloc (.cells #[.int .i64 va, .int .i64 vf, .int .i64 vt, .int .i64 vs] 43) = w2 at *
  generalize w1.heap.size = D at *
  have hNz : w.heap.size ≤ w2.heap.size := HB2.out.size
  clear f0 f1 f2 f3 HB1
  go_loopw [5] (fun v wr => ∃ (j : Nat) (s : RS), j ≤ len ∧ v = .int .i64 j ∧ NoneS s ∧ chkF (start 3 0 0 0) 0 es = chkF s j (es.drop j) ∧ Below w2.heap.size w2 wr) (fun v _ => len - (intOf v).toNat)
  case atStart => exact ⟨0, _, by omega, rfl, NoneS.start, rfl, Below.refl _ _⟩
  case round =>
    obtain ⟨j, s, hj, rfl, hns, hchk, hb⟩ := hrel
    have e0 := keep hb g0
    have e1 := keep hb g1
    have e2 := keep hb g2
    have e3 := keep hb g3
    have y0 := keep hb v0
    have y1 := keep hb v1
    have y2 := keep hb v2
    have y3 := keep hb v3
    have HNS := Lib.hid hns
    have HCH := Lib.hid hchk
    have HB := Lib.hid hb
    have HG := Lib.hid (show _ ∧ _ ∧ _ ∧ _ ∧ _ ∧ _ ∧ _ ∧ _ from ⟨g0, g1, g2, g3, v0, v1, v2, v3⟩)
    have hj3 : (j : Int) ≤ 300 := by omega
    clear hns hchk hb g0 g1 g2 g3 v0 v1 v2 v3
    by_cases hlt : j < len
    · have hjl : j < es.length := by rw [HL.out]; exact hlt
      obtain ⟨e, he⟩ : ∃ e, es[j]? = some e := ⟨es[j], List.getElem?_eq_getElem hjl⟩
      have hdrop : es.drop j = e :: es.drop (j + 1) := by
        rw [List.drop_eq_getElem_cons hjl]
        have := List.getElem?_eq_getElem hjl
        rw [he] at this
        rw [Option.some.inj this]
      have HD := Lib.hid hdrop
      obtain ⟨b', off, had, hev0⟩ := HIN.out j e he
      have hbw : Below w.heap.size w wr := HB2.out.trans (HB.out.mono hNz)
      have hev : EvIn b' (off + j * 16) e wr := hev0.below hbw
      have HBW := Lib.hid hbw
      subst had
      have m0 : wr.cell? ⟨b', off + j * 16, none⟩ = some (.int .i64 e.seq) := hev 0 _ rfl
      have m1 : wr.cell? ⟨b', off + j * 16 + 1, none⟩ = some (.int .i64 e.th) := hev 1 _ rfl
      have m2 : wr.cell? ⟨b', off + j * 16 + 2, none⟩ = some (.int .i64 e.by_) := hev 2 _ rfl
      have m3 : wr.cell? ⟨b', off + j * 16 + 3, none⟩ = some (.int .i64 e.kind) := hev 3 _ rfl
      have m4 : wr.cell? ⟨b', off + j * 16 + 4, none⟩ = some (.int .i64 e.at_) := hev 4 _ rfl
      have m5 : wr.cell? ⟨b', off + j * 16 + 5, none⟩ = some (.int .u64 e.old) := hev 5 _ rfl
      have m6 : wr.cell? ⟨b', off + j * 16 + 6, none⟩ = some (.int .u64 e.new) := hev 6 _ rfl
      have m7 : wr.cell? ⟨b', off + j * 16 + 7, none⟩ = some (.bool e.ok) := hev 7 _ rfl
      have m8 : wr.cell? ⟨b', off + j * 16 + 8, none⟩ = some (.int .i64 e.nk) := hev 8 _ rfl
      have m9 : wr.cell? ⟨b', off + j * 16 + 9, none⟩ = some (.int .i64 e.slot) := hev 9 _ rfl
      have m10 : wr.cell? ⟨b', off + j * 16 + 10, none⟩ = some (.int .i64 e.life) := hev 10 _ rfl
      have m11 : wr.cell? ⟨b', off + j * 16 + 11, none⟩ = some (.int .i64 e.guard) := hev 11 _ rfl
      have m12 : wr.cell? ⟨b', off + j * 16 + 12, none⟩ = some (.int .i64 e.read) := hev 12 _ rfl
      have m13 : wr.cell? ⟨b', off + j * 16 + 13, none⟩ = some (.int .i64 e.cls) := hev 13 _ rfl
      have m14 : wr.cell? ⟨b', off + j * 16 + 14, none⟩ = some (.int .u64 e.n) := hev 14 _ rfl
      have m15 : wr.cell? ⟨b', off + j * 16 + 15, none⟩ = some (.int .i64 e.code) := hev 15 _ rfl
      have hlt' : (j : Int) < len := by omega
      have hjn : (0 : Int) ≤ j := by omega
      have hja := NoneS.judge HNS.out e
      have HJ := Lib.hid hja
      have HSJ := Lib.hid (HNS.out.subj e)
      clear hjl he hdrop hev0 hbw hev hja
      cases hbd : badB e
      · have hbd' := HJ.out.1 hbd
        have HF := Lib.hid (show NoneS (followF s j e) ∧ chkF (start 3 0 0 0) 0 es = chkF (followF s j e) (j + 1) (es.drop (j + 1)) from ⟨HNS.out.follow j e, by rw [HCH.out, HD.out]; exact chk_step hbd'⟩)
        have HW := Lib.hid (bad_no hbd)
        clear hbd hbd'
        rcases HW.out with k5 | ⟨k5, t0⟩ | ⟨k5, t0, t3⟩ | ⟨k5, t0, t3, n3, n4, n8, n9⟩
        all_goals
          go_wp2_with
            (with_reducible show wpList _ _ _ (Oper.mk none (Op.store 54 _ _) _ _ _ _ :: _) _ _
             refine wpList_row54 _ rfl _ _ rfl e _ rfl rfl _ (al_heap_new _ _) rfl ?_
             intro w3 hb3 k3 k3s
             have HE3 := Lib.hid (EvAt.row k3)
             have hbr : Below wr.heap.size wr w3 := Below.trans (by go_grown) (hb3.mono (by simp))
             have HB3 := Lib.hid (HB.out.trans (hbr.mono HB.out.size))
             have p1 := HE3.out.c1
             have p3 := HE3.out.c3
             have p8 := HE3.out.c8
             clear hb3 k3 k3s hbr m0 m1 m2 m3 m4 m5 m6 m7 m8 m9 m10 m11 m12 m13 m14 m15)
          first
            | exact ⟨⟨j + 1, _, by omega, by go_num, HF.out.1, HF.out.2, HB3.out⟩, by simp [intOf]; omega⟩
            | (refine ⟨?_, ?_⟩
               · (repeat apply Exists.intro)
                 refine ⟨?_, rfl⟩
                 exact ⟨j + 1, _, by omega, by go_num, HF.out.1, HF.out.2, HB3.out⟩
               · simp [intOf]; omega)
      · have hbd' := HJ.out.2 hbd
        have hvd := HV.out.symm.trans (HCH.out.trans ((congrArg (chkF s j) HD.out).trans (chk_stop hbd')))
        rw [HSJ.out] at hvd
        obtain ⟨q1, -, q3, q4⟩ : va = (j : Int) ∧ vf = judgeF s e ∧ vt = e.th ∧ vs = 0 := by injection hvd with a1 a2 a3 a4; exact ⟨a1, a2, a3, a4⟩
        rw [q1] at y0
        rw [q3] at y2
        rw [q4] at y3
        have HW := Lib.hid (bad_yes hbd)
        clear hbd hbd' hvd q1 q3 q4
        obtain ⟨k5, t0, t3, hnn⟩ := HW.out
        have HNN := Lib.hid hnn
        clear hnn
        rcases HNN.out with n3 | ⟨n3, n4⟩ | ⟨n3, n4, n8⟩ | ⟨n3, n4, n8, n9⟩
        all_goals
          go_wp2_with
            (with_reducible show wpList _ _ _ (Oper.mk none (Op.store 54 _ _) _ _ _ _ :: _) _ _
             refine wpList_row54 _ rfl _ _ rfl e _ rfl rfl _ (al_heap_new _ _) rfl ?_
             intro w3 hb3 k3 k3s
             have HE3 := Lib.hid (EvAt.row k3)
             have hbr : Below wr.heap.size wr w3 := Below.trans (by go_grown) (hb3.mono (by simp))
             have HB3 := Lib.hid (HBW.out.trans (hbr.mono HBW.out.size))
             have p1 := HE3.out.c1
             have p3 := HE3.out.c3
             have p8 := HE3.out.c8
             have t0' := keep hbr e0
             have t1' := keep hbr e1
             have t2' := keep hbr e2
             have t3' := keep hbr e3
             have u0 := keep hbr y0
             have u1 := keep hbr y1
             have u2 := keep hbr y2
             have u3 := keep hbr y3
             clear hb3 k3 k3s hbr m0 m1 m2 m3 m4 m5 m6 m7 m8 m9 m10 m11 m12 m13 m14 m15 e0 e1 e2 e3 y0 y1 y2 y3)
          refine (HAF _ (HZ.out.below HB3.out) (HIN.out.below HB3.out)).mono ?_
          rintro x w4 ⟨rfl, hb4⟩
          have HB4 := Lib.hid (HB3.out.trans (hb4.mono HB3.out.size))
          clear hb4
          go_wp2_with fail
          refine (known_any _ (HZ.out.below HB4.out)).mono ?_
          rintro x w5 ⟨rfl, hb5⟩
          have HB5 := Lib.hid (HB4.out.trans (hb5.mono HB4.out.size))
          clear hb5
          go_wp2
          go_returns
          exact ⟨rfl, HB5.out⟩
    · obtain rfl : j = len := by omega
      have hvd := HV.out.symm.trans (HCH.out.trans (congrArg (chkF s j) (List.drop_of_length_le (by rw [HL.out]; exact Nat.le_refl _))))
      obtain ⟨q1, q2, q3, q4⟩ : va = -1 ∧ vf = 0 ∧ vt = 0 ∧ vs = 0 := by injection hvd with a1 a2 a3 a4; exact ⟨a1, a2, a3, a4⟩
      rw [q1] at y0
      rw [q2] at y1
      rw [q3] at y2
      rw [q4] at y3
      have HBW := Lib.hid (HB2.out.trans (HB.out.mono hNz))
      clear hvd q1 q2 q3 q4
      go_wp2_with fail
      refine (HAF _ (HZ.out.below HBW.out) (HIN.out.below HBW.out)).mono ?_
      rintro x w4 ⟨rfl, hb4⟩
      have HB4 := Lib.hid (HBW.out.trans (hb4.mono HBW.out.size))
      clear hb4
      go_wp2_with fail
      refine (known_any _ (HZ.out.below HB4.out)).mono ?_
      rintro x w5 ⟨rfl, hb5⟩
      have HB5 := Lib.hid (HB4.out.trans (hb5.mono HB4.out.size))
      clear hb5
      go_wp2
      go_returns
      exact ⟨rfl, HB5.out⟩

theorem law_none (ad : Option Addr) (len cap : Nat) (es : List Ev) (hl : es.length = len) (hes : ∀ e ∈ es, e.Ok) (w : World) (hz : Sz w) (hin : EvsIn ad es w) :
    Calls Tryd.prog 6 #[.slice ad len cap] w fun x w' => x = .returned (.bool true) ∧ Below w.heap.size w w' := by
  by_cases h : 300 < len
  · exact none_long ad len cap h w hz
  · exact none_short ad len cap es hl (by omega) hes w hz hin
end Go.Proofs.YtejfcmgnacimgaaDoor
