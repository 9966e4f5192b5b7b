/- The document's own Check, where it is known. -/
import Derived.Test.YtejfcmgnacimgaaDoorT9
namespace Go.Proofs.YtejfcmgnacimgaaDoor
open Go.RowKit
set_option linter.unusedVariables false
set_option linter.unusedSimpArgs false

theorem Kz.below2 {W S G base : Nat} {w w' : World} (h : Kz W S G w w') (hb : base ≤ w.heap.size) (hW : base ≤ W) (hS : base ≤ S) (hG : base ≤ G) : Below base w w' :=
  ⟨h.os, h.tape, h.output, h.size, fun k hk => h.block k (by omega) (by omega) (by omega) (by omega)⟩

theorem chkU_some {B a b : Int} {u : U} {i : Nat} {e : Ev} {l : List Ev} {v : Vd} (h : chkU B a b u i (e :: l) = some v) : ∃ r u', stepU B a b u e = some (r, u') ∧ ((r = 0 ∧ chkU B a b u' (i + 1) l = some v) ∨
    (r ≠ 0 ∧ v = ⟨i, r, e.th, if e.kind = 5 then (if e.slot < 1 then 0 else if 1 < e.slot then 0 else e.slot) else (fndS B a b e.at_).1⟩)) := by
  unfold chkU at h
  cases hs : stepU B a b u e with
  | none => rw [hs] at h; cases h
  | some x =>
    obtain ⟨r, u'⟩ := x
    rw [hs] at h
    simp only at h
    by_cases hr : r = 0
    · rw [if_pos hr] at h
      exact ⟨r, u', rfl, Or.inl ⟨hr, h⟩⟩
    · rw [if_neg hr] at h
      exact ⟨r, u', rfl, Or.inr ⟨hr, (Option.some.inj h).symm⟩⟩

set_option maxHeartbeats 8000000 in
set_option maxRecDepth 100000 in
theorem refCheck_any (a b : Int) (hab : (a = 1 ∧ b = 0) ∨ (a = 0 ∧ b = 1)) (ad : Option Addr) (len cap : Nat) (es : List Ev) (hl : es.length = len) (hlen : len ≤ 300) (hes : ∀ e ∈ es, e.Ok) (v : Vd) (hv : chkU 5 a b u0 0 es = some v) (w : World) (hin : EvsIn ad es w) :
    Calls Tryd.prog 15 #[facts 2 5 a b, .slice ad len cap] w fun x w' => x = .returned v.val ∧ Below w.heap.size w w' := by
  have HNR := fun w => newU_any a b hab w
  have hb0 : Below w.heap.size w ((w.alloc (.cells #[.int .i64 2, .int .i64 5, .int .i64 a, .int .i64 b] 24)).alloc (.cells #[.int .i64 0, .int .i64 0, .int .i64 0, .int .i64 0] 43)) := by go_grown
  have v0 : ((w.alloc (.cells #[.int .i64 2, .int .i64 5, .int .i64 a, .int .i64 b] 24)).alloc (.cells #[.int .i64 0, .int .i64 0, .int .i64 0, .int .i64 0] 43)).heap[w.heap.size + 1]? = some (.cells #[.int .i64 0, .int .i64 0, .int .i64 0, .int .i64 0] 43 (0, 0)) := alloc2_heap _ _ _
  have HB0 := Lib.hid hb0
  have HV0 := Lib.hid v0
  have HIN := Lib.hid hin
  have HV := Lib.hid hv
  have HAB := Lib.hid hab
  have hsz0 : ((w.alloc (.cells #[.int .i64 2, .int .i64 5, .int .i64 a, .int .i64 b] 24)).alloc (.cells #[.int .i64 0, .int .i64 0, .int .i64 0, .int .i64 0] 43)).heap.size = w.heap.size + 2 := by simp
  clear hb0 hin v0 hv hab
  unfold facts at HNR ⊢
  go_enter Tryd.func15, Tryd.ntmps15
  go_wp2_with fail
  generalize (w.alloc (.cells #[.int .i64 2, .int .i64 5, .int .i64 a, .int .i64 b] 24)).alloc (.cells #[.int .i64 0, .int .i64 0, .int .i64 0, .int .i64 0] 43) = w0 at *
  refine (HNR _).mono ?_
  rintro x w1 ⟨W, S, G, cs, cg, rfl, ⟨hu, hW, hS, hG⟩, hb1⟩
  have HU1 := Lib.hid hu
  have HB1 := Lib.hid hb1
  have hWw : w.heap.size + 2 ≤ W := by omega
  have hSw : w.heap.size + 2 ≤ S := by omega
  have hGw : w.heap.size + 2 ≤ G := by omega
  have hl3 : (len : Int) ≤ 300 := by omega
  have HL := Lib.hid hl
  clear hu hb1 hW hS hG HNR hl
  go_wp2_with fail
  go_loopw [6] (fun x wr => ∃ (j : Nat) (u : U), j ≤ len ∧ x = .int .i64 j ∧ UAt W S G 5 a b cs cg u wr ∧ chkU 5 a b u j (es.drop j) = some v ∧ Below (w.heap.size + 2) w0 wr) (fun x _ => len - (intOf x).toNat)
  case atStart => exact ⟨0, u0, by omega, rfl, HU1.out, HV.out, by rw [← hsz0]; exact HB1.out⟩
  case round =>
    obtain ⟨j, u, hj, rfl, hu, hchk, hb⟩ := hrel
    have HU := Lib.hid hu
    have HCH := Lib.hid hchk
    have HB := Lib.hid hb
    have hj3 : (j : Int) ≤ 300 := by omega
    have hzr : w.heap.size + 2 ≤ wr.heap.size := by rw [← hsz0]; exact hb.size
    clear hu hchk hb
    by_cases hlt : j < len
    · have hjl : j < es.length := by rw [HL.out]; exact hlt
      obtain ⟨e, he⟩ : ∃ e, es[j]? = some e := ⟨es[j], List.getElem?_eq_getElem hjl⟩
      have hdrop : es.drop j = e :: es.drop (j + 1) := by
        rw [List.drop_eq_getElem_cons hjl]
        have := List.getElem?_eq_getElem hjl
        rw [he] at this
        rw [Option.some.inj this]
      have HEO := Lib.hid (hes e (List.mem_of_getElem? he))
      have hc := HCH.out
      rw [hdrop] at hc
      obtain ⟨r, u', hst, hrv⟩ := chkU_some hc
      have HST := Lib.hid hst
      have HRV := Lib.hid hrv
      obtain ⟨b', off, had, hev0⟩ := HIN.out j e he
      have hbw : Below w.heap.size w wr := HB0.out.trans (HB.out.mono (by omega))
      have hev : EvIn b' (off + j * 16) e wr := hev0.below hbw
      have HEV := Lib.hid hev0
      subst had
      have m0 : wr.cell? ⟨b', off + j * 16, none⟩ = some (.int .i64 e.seq) := hev 0 _ rfl
      have m1 : wr.cell? ⟨b', off + j * 16 + 1, none⟩ = some (.int .i64 e.th) := hev 1 _ rfl
      have m2 : wr.cell? ⟨b', off + j * 16 + 2, none⟩ = some (.int .i64 e.by_) := hev 2 _ rfl
      have m3 : wr.cell? ⟨b', off + j * 16 + 3, none⟩ = some (.int .i64 e.kind) := hev 3 _ rfl
      have m4 : wr.cell? ⟨b', off + j * 16 + 4, none⟩ = some (.int .i64 e.at_) := hev 4 _ rfl
      have m5 : wr.cell? ⟨b', off + j * 16 + 5, none⟩ = some (.int .u64 e.old) := hev 5 _ rfl
      have m6 : wr.cell? ⟨b', off + j * 16 + 6, none⟩ = some (.int .u64 e.new) := hev 6 _ rfl
      have m7 : wr.cell? ⟨b', off + j * 16 + 7, none⟩ = some (.bool e.ok) := hev 7 _ rfl
      have m8 : wr.cell? ⟨b', off + j * 16 + 8, none⟩ = some (.int .i64 e.nk) := hev 8 _ rfl
      have m9 : wr.cell? ⟨b', off + j * 16 + 9, none⟩ = some (.int .i64 e.slot) := hev 9 _ rfl
      have m10 : wr.cell? ⟨b', off + j * 16 + 10, none⟩ = some (.int .i64 e.life) := hev 10 _ rfl
      have m11 : wr.cell? ⟨b', off + j * 16 + 11, none⟩ = some (.int .i64 e.guard) := hev 11 _ rfl
      have m12 : wr.cell? ⟨b', off + j * 16 + 12, none⟩ = some (.int .i64 e.read) := hev 12 _ rfl
      have m13 : wr.cell? ⟨b', off + j * 16 + 13, none⟩ = some (.int .i64 e.cls) := hev 13 _ rfl
      have m14 : wr.cell? ⟨b', off + j * 16 + 14, none⟩ = some (.int .u64 e.n) := hev 14 _ rfl
      have m15 : wr.cell? ⟨b', off + j * 16 + 15, none⟩ = some (.int .i64 e.code) := hev 15 _ rfl

      have hlt' : (j : Int) < len := by omega
      have hjn : (0 : Int) ≤ j := by omega
      clear hjl he hdrop hev0 hbw hev hc hst hrv
      go_wp2_with fail
      refine (step_u e HEO.out HST.out _ HU.out).mono ?_
      rintro x w3 ⟨rfl, hu3, hk3⟩
      have hb3 := hk3.below2 hzr hWw hSw hGw
      have HB3 := Lib.hid (HB.out.trans hb3)
      have HU3 := Lib.hid hu3
      have hz3 : w.heap.size + 2 ≤ w3.heap.size := Nat.le_trans hzr hk3.size
      have hbw3 : Below w.heap.size w w3 := HB0.out.trans (HB3.out.mono (by omega))
      have HEV3 := Lib.hid (HEV.out.below hbw3)
      clear hu3 hk3 hb3 hbw3 m0 m1 m2 m3 m4 m5 m6 m7 m8 m9 m10 m11 m12 m13 m14 m15
      rcases HRV.out with ⟨rfl, hc2⟩ | ⟨hr0, hvd⟩
      · have HF := Lib.hid hc2
        clear hc2
        go_wp2
        first
          | exact ⟨⟨j + 1, u', by omega, by go_num, HU3.out, HF.out, HB3.out⟩, by simp [intOf]; omega⟩
          | (go_roundw
             case rel => exact ⟨j + 1, u', by omega, by go_num, HU3.out, HF.out, HB3.out⟩
             case measure => simp [intOf]; omega)
      · have hrb : (r != 0) = true := by simpa using hr0
        have HVD := Lib.hid hvd
        have m1 : w3.cell? ⟨b', off + j * 16 + 1, none⟩ = some (.int .i64 e.th) := HEV3.out 1 _ rfl
        have m3 : w3.cell? ⟨b', off + j * 16 + 3, none⟩ = some (.int .i64 e.kind) := HEV3.out 3 _ rfl
        have m4 : w3.cell? ⟨b', off + j * 16 + 4, none⟩ = some (.int .i64 e.at_) := HEV3.out 4 _ rfl
        have m9 : w3.cell? ⟨b', off + j * 16 + 9, none⟩ = some (.int .i64 e.slot) := HEV3.out 9 _ rfl
        have c4 := HU3.out.c4
        clear hr0 hvd
        by_cases hk : e.kind = 5
        · have k5 : (e.kind != 5) = false := by simpa using hk
          have hcs : decide (e.slot < 1) = true ∨ (decide (e.slot < 1) = false ∧ decide (1 < e.slot) = true) ∨ (decide (e.slot < 1) = false ∧ decide (1 < e.slot) = false) := by
            cases decide (e.slot < 1) <;> cases decide (1 < e.slot) <;> simp
          rcases hcs with d1 | ⟨d1, d2⟩ | ⟨d1, d2⟩
          · have HFV := Lib.hid (show v = ⟨j, r, e.th, 0⟩ by rw [HVD.out, if_pos hk, if_pos (by simpa using d1)])
            clear hk
            have hv : w3.heap[w.heap.size + 1]? = some (.cells #[.int .i64 0, .int .i64 0, .int .i64 0, .int .i64 0] 43 (0, 0)) := (HB3.out.block _ (by omega)).trans HV0.out
            have hva : w3.cell? ⟨w.heap.size + 1, 0, none⟩ = some (.int .i64 0) := row_cell hv 0
            have hvb : w3.cell? ⟨w.heap.size + 1, 1, none⟩ = some (.int .i64 0) := row_cell hv 1
            have hvc : w3.cell? ⟨w.heap.size + 1, 2, none⟩ = some (.int .i64 0) := row_cell hv 2
            have hvd : w3.cell? ⟨w.heap.size + 1, 3, none⟩ = some (.int .i64 0) := row_cell hv 3
            have hvf : ∀ o, w3.frozen? ⟨w.heap.size + 1, o, none⟩ = false := fun o => row_frozen hv o
            clear hv
            go_wp2
            have f0 : ∀ u, (w3.setCell ⟨w.heap.size + 1, 0, none⟩ u).cell? ⟨w.heap.size + 1, 0, none⟩ = some u := fun u => cset_same hva
            have f1 : ∀ r u, ((w3.setCell ⟨w.heap.size + 1, 0, none⟩ r).setCell ⟨w.heap.size + 1, 1, none⟩ u).cell? ⟨w.heap.size + 1, 1, none⟩ = some u := fun r u => cset_same ((cset_other (by simp)).trans hvb)
            have f2 : ∀ q r u, (((w3.setCell ⟨w.heap.size + 1, 0, none⟩ q).setCell ⟨w.heap.size + 1, 1, none⟩ r).setCell ⟨w.heap.size + 1, 2, none⟩ u).cell? ⟨w.heap.size + 1, 2, none⟩ = some u := fun q r u => cset_same ((cset_other (by simp)).trans ((cset_other (by simp)).trans hvc))
            have f3 : ∀ p q r u, ((((w3.setCell ⟨w.heap.size + 1, 0, none⟩ p).setCell ⟨w.heap.size + 1, 1, none⟩ q).setCell ⟨w.heap.size + 1, 2, none⟩ r).setCell ⟨w.heap.size + 1, 3, none⟩ u).cell? ⟨w.heap.size + 1, 3, none⟩ = some u := fun p q r u => cset_same ((cset_other (by simp)).trans ((cset_other (by simp)).trans ((cset_other (by simp)).trans hvd)))
            refine bodyPost_ret (v := .agg #[.int .i64 j, .int .i64 r, .int .i64 e.th, .int .i64 0]) (by simp [results, Tryd.results15, go_sem, f0, f1, f2, f3]) rfl ?_
            refine ⟨?_, HB0.out.trans (Below.mono (by
              exact ((((HB3.out.mono (show w.heap.size ≤ w.heap.size + 2 by omega)).setCell (by simp) _).setCell (by simp) _).setCell (by simp) _).setCell (by simp) _) (Nat.le_refl _))⟩
            rw [HFV.out]; rfl

          · have HFV := Lib.hid (show v = ⟨j, r, e.th, 0⟩ by rw [HVD.out, if_pos hk, if_neg (by simpa using d1), if_pos (by simpa using d2)])
            clear hk
            have hv : w3.heap[w.heap.size + 1]? = some (.cells #[.int .i64 0, .int .i64 0, .int .i64 0, .int .i64 0] 43 (0, 0)) := (HB3.out.block _ (by omega)).trans HV0.out
            have hva : w3.cell? ⟨w.heap.size + 1, 0, none⟩ = some (.int .i64 0) := row_cell hv 0
            have hvb : w3.cell? ⟨w.heap.size + 1, 1, none⟩ = some (.int .i64 0) := row_cell hv 1
            have hvc : w3.cell? ⟨w.heap.size + 1, 2, none⟩ = some (.int .i64 0) := row_cell hv 2
            have hvd : w3.cell? ⟨w.heap.size + 1, 3, none⟩ = some (.int .i64 0) := row_cell hv 3
            have hvf : ∀ o, w3.frozen? ⟨w.heap.size + 1, o, none⟩ = false := fun o => row_frozen hv o
            clear hv
            go_wp2
            have f0 : ∀ u, (w3.setCell ⟨w.heap.size + 1, 0, none⟩ u).cell? ⟨w.heap.size + 1, 0, none⟩ = some u := fun u => cset_same hva
            have f1 : ∀ r u, ((w3.setCell ⟨w.heap.size + 1, 0, none⟩ r).setCell ⟨w.heap.size + 1, 1, none⟩ u).cell? ⟨w.heap.size + 1, 1, none⟩ = some u := fun r u => cset_same ((cset_other (by simp)).trans hvb)
            have f2 : ∀ q r u, (((w3.setCell ⟨w.heap.size + 1, 0, none⟩ q).setCell ⟨w.heap.size + 1, 1, none⟩ r).setCell ⟨w.heap.size + 1, 2, none⟩ u).cell? ⟨w.heap.size + 1, 2, none⟩ = some u := fun q r u => cset_same ((cset_other (by simp)).trans ((cset_other (by simp)).trans hvc))
            have f3 : ∀ p q r u, ((((w3.setCell ⟨w.heap.size + 1, 0, none⟩ p).setCell ⟨w.heap.size + 1, 1, none⟩ q).setCell ⟨w.heap.size + 1, 2, none⟩ r).setCell ⟨w.heap.size + 1, 3, none⟩ u).cell? ⟨w.heap.size + 1, 3, none⟩ = some u := fun p q r u => cset_same ((cset_other (by simp)).trans ((cset_other (by simp)).trans ((cset_other (by simp)).trans hvd)))
            refine bodyPost_ret (v := .agg #[.int .i64 j, .int .i64 r, .int .i64 e.th, .int .i64 0]) (by simp [results, Tryd.results15, go_sem, f0, f1, f2, f3]) rfl ?_
            refine ⟨?_, HB0.out.trans (Below.mono (by
              exact ((((HB3.out.mono (show w.heap.size ≤ w.heap.size + 2 by omega)).setCell (by simp) _).setCell (by simp) _).setCell (by simp) _).setCell (by simp) _) (Nat.le_refl _))⟩
            rw [HFV.out]; rfl

          · have HFV := Lib.hid (show v = ⟨j, r, e.th, e.slot⟩ by rw [HVD.out, if_pos hk, if_neg (by simpa using d1), if_neg (by simpa using d2)])
            clear hk
            have hv : w3.heap[w.heap.size + 1]? = some (.cells #[.int .i64 0, .int .i64 0, .int .i64 0, .int .i64 0] 43 (0, 0)) := (HB3.out.block _ (by omega)).trans HV0.out
            have hva : w3.cell? ⟨w.heap.size + 1, 0, none⟩ = some (.int .i64 0) := row_cell hv 0
            have hvb : w3.cell? ⟨w.heap.size + 1, 1, none⟩ = some (.int .i64 0) := row_cell hv 1
            have hvc : w3.cell? ⟨w.heap.size + 1, 2, none⟩ = some (.int .i64 0) := row_cell hv 2
            have hvd : w3.cell? ⟨w.heap.size + 1, 3, none⟩ = some (.int .i64 0) := row_cell hv 3
            have hvf : ∀ o, w3.frozen? ⟨w.heap.size + 1, o, none⟩ = false := fun o => row_frozen hv o
            clear hv
            go_wp2
            have f0 : ∀ u, (w3.setCell ⟨w.heap.size + 1, 0, none⟩ u).cell? ⟨w.heap.size + 1, 0, none⟩ = some u := fun u => cset_same hva
            have f1 : ∀ r u, ((w3.setCell ⟨w.heap.size + 1, 0, none⟩ r).setCell ⟨w.heap.size + 1, 1, none⟩ u).cell? ⟨w.heap.size + 1, 1, none⟩ = some u := fun r u => cset_same ((cset_other (by simp)).trans hvb)
            have f2 : ∀ q r u, (((w3.setCell ⟨w.heap.size + 1, 0, none⟩ q).setCell ⟨w.heap.size + 1, 1, none⟩ r).setCell ⟨w.heap.size + 1, 2, none⟩ u).cell? ⟨w.heap.size + 1, 2, none⟩ = some u := fun q r u => cset_same ((cset_other (by simp)).trans ((cset_other (by simp)).trans hvc))
            have f3 : ∀ p q r u, ((((w3.setCell ⟨w.heap.size + 1, 0, none⟩ p).setCell ⟨w.heap.size + 1, 1, none⟩ q).setCell ⟨w.heap.size + 1, 2, none⟩ r).setCell ⟨w.heap.size + 1, 3, none⟩ u).cell? ⟨w.heap.size + 1, 3, none⟩ = some u := fun p q r u => cset_same ((cset_other (by simp)).trans ((cset_other (by simp)).trans ((cset_other (by simp)).trans hvd)))
            refine bodyPost_ret (v := .agg #[.int .i64 j, .int .i64 r, .int .i64 e.th, .int .i64 e.slot]) (by simp [results, Tryd.results15, go_sem, f0, f1, f2, f3]) rfl ?_
            refine ⟨?_, HB0.out.trans (Below.mono (by
              exact ((((HB3.out.mono (show w.heap.size ≤ w.heap.size + 2 by omega)).setCell (by simp) _).setCell (by simp) _).setCell (by simp) _).setCell (by simp) _) (Nat.le_refl _))⟩
            rw [HFV.out]; rfl

        · have k5 : (e.kind != 5) = true := by simpa using hk
          have HFV := Lib.hid (show v = ⟨j, r, e.th, (fndS 5 a b e.at_).1⟩ by rw [HVD.out, if_neg hk])
          have hfb : 0 ≤ (fndS 5 a b e.at_).1 ∧ (fndS 5 a b e.at_).1 ≤ 1 := by
            have h1 := HAB.out
            unfold fndS
            split
            · simp
            · split
              · simp only; omega
              · split
                · simp only; omega
                · simp
          have HFD := fun w h => find_any W 5 a b 1 e.at_ HEO.out.at_ w h
          clear hk HVD
          obtain ⟨q, hq⟩ : ∃ q, (fndS 5 a b e.at_).1 = q := ⟨_, rfl⟩
          rw [hq] at HFV hfb HFD
          clear hq
          go_wp2_with fail
          refine (HFD _ HU3.out.wat).mono ?_
          rintro x w4 ⟨rfl, rfl⟩
          have hq01 : q = 0 ∨ q = 1 := by omega
          clear hfb
          rcases hq01 with rfl | rfl
          · skip
            have hv : w3.heap[w.heap.size + 1]? = some (.cells #[.int .i64 0, .int .i64 0, .int .i64 0, .int .i64 0] 43 (0, 0)) := (HB3.out.block _ (by omega)).trans HV0.out
            have hva : w3.cell? ⟨w.heap.size + 1, 0, none⟩ = some (.int .i64 0) := row_cell hv 0
            have hvb : w3.cell? ⟨w.heap.size + 1, 1, none⟩ = some (.int .i64 0) := row_cell hv 1
            have hvc : w3.cell? ⟨w.heap.size + 1, 2, none⟩ = some (.int .i64 0) := row_cell hv 2
            have hvd : w3.cell? ⟨w.heap.size + 1, 3, none⟩ = some (.int .i64 0) := row_cell hv 3
            have hvf : ∀ o, w3.frozen? ⟨w.heap.size + 1, o, none⟩ = false := fun o => row_frozen hv o
            clear hv
            go_wp2
            have f0 : ∀ u, (w3.setCell ⟨w.heap.size + 1, 0, none⟩ u).cell? ⟨w.heap.size + 1, 0, none⟩ = some u := fun u => cset_same hva
            have f1 : ∀ r u, ((w3.setCell ⟨w.heap.size + 1, 0, none⟩ r).setCell ⟨w.heap.size + 1, 1, none⟩ u).cell? ⟨w.heap.size + 1, 1, none⟩ = some u := fun r u => cset_same ((cset_other (by simp)).trans hvb)
            have f2 : ∀ q r u, (((w3.setCell ⟨w.heap.size + 1, 0, none⟩ q).setCell ⟨w.heap.size + 1, 1, none⟩ r).setCell ⟨w.heap.size + 1, 2, none⟩ u).cell? ⟨w.heap.size + 1, 2, none⟩ = some u := fun q r u => cset_same ((cset_other (by simp)).trans ((cset_other (by simp)).trans hvc))
            have f3 : ∀ p q r u, ((((w3.setCell ⟨w.heap.size + 1, 0, none⟩ p).setCell ⟨w.heap.size + 1, 1, none⟩ q).setCell ⟨w.heap.size + 1, 2, none⟩ r).setCell ⟨w.heap.size + 1, 3, none⟩ u).cell? ⟨w.heap.size + 1, 3, none⟩ = some u := fun p q r u => cset_same ((cset_other (by simp)).trans ((cset_other (by simp)).trans ((cset_other (by simp)).trans hvd)))
            refine bodyPost_ret (v := .agg #[.int .i64 j, .int .i64 r, .int .i64 e.th, .int .i64 0]) (by simp [results, Tryd.results15, go_sem, f0, f1, f2, f3]) rfl ?_
            refine ⟨?_, HB0.out.trans (Below.mono (by
              exact ((((HB3.out.mono (show w.heap.size ≤ w.heap.size + 2 by omega)).setCell (by simp) _).setCell (by simp) _).setCell (by simp) _).setCell (by simp) _) (Nat.le_refl _))⟩
            rw [HFV.out]; rfl

          · skip
            have hv : w3.heap[w.heap.size + 1]? = some (.cells #[.int .i64 0, .int .i64 0, .int .i64 0, .int .i64 0] 43 (0, 0)) := (HB3.out.block _ (by omega)).trans HV0.out
            have hva : w3.cell? ⟨w.heap.size + 1, 0, none⟩ = some (.int .i64 0) := row_cell hv 0
            have hvb : w3.cell? ⟨w.heap.size + 1, 1, none⟩ = some (.int .i64 0) := row_cell hv 1
            have hvc : w3.cell? ⟨w.heap.size + 1, 2, none⟩ = some (.int .i64 0) := row_cell hv 2
            have hvd : w3.cell? ⟨w.heap.size + 1, 3, none⟩ = some (.int .i64 0) := row_cell hv 3
            have hvf : ∀ o, w3.frozen? ⟨w.heap.size + 1, o, none⟩ = false := fun o => row_frozen hv o
            clear hv
            go_wp2
            have f0 : ∀ u, (w3.setCell ⟨w.heap.size + 1, 0, none⟩ u).cell? ⟨w.heap.size + 1, 0, none⟩ = some u := fun u => cset_same hva
            have f1 : ∀ r u, ((w3.setCell ⟨w.heap.size + 1, 0, none⟩ r).setCell ⟨w.heap.size + 1, 1, none⟩ u).cell? ⟨w.heap.size + 1, 1, none⟩ = some u := fun r u => cset_same ((cset_other (by simp)).trans hvb)
            have f2 : ∀ q r u, (((w3.setCell ⟨w.heap.size + 1, 0, none⟩ q).setCell ⟨w.heap.size + 1, 1, none⟩ r).setCell ⟨w.heap.size + 1, 2, none⟩ u).cell? ⟨w.heap.size + 1, 2, none⟩ = some u := fun q r u => cset_same ((cset_other (by simp)).trans ((cset_other (by simp)).trans hvc))
            have f3 : ∀ p q r u, ((((w3.setCell ⟨w.heap.size + 1, 0, none⟩ p).setCell ⟨w.heap.size + 1, 1, none⟩ q).setCell ⟨w.heap.size + 1, 2, none⟩ r).setCell ⟨w.heap.size + 1, 3, none⟩ u).cell? ⟨w.heap.size + 1, 3, none⟩ = some u := fun p q r u => cset_same ((cset_other (by simp)).trans ((cset_other (by simp)).trans ((cset_other (by simp)).trans hvd)))
            refine bodyPost_ret (v := .agg #[.int .i64 j, .int .i64 r, .int .i64 e.th, .int .i64 1]) (by simp [results, Tryd.results15, go_sem, f0, f1, f2, f3]) rfl ?_
            refine ⟨?_, HB0.out.trans (Below.mono (by
              exact ((((HB3.out.mono (show w.heap.size ≤ w.heap.size + 2 by omega)).setCell (by simp) _).setCell (by simp) _).setCell (by simp) _).setCell (by simp) _) (Nat.le_refl _))⟩
            rw [HFV.out]; rfl

    · obtain rfl : j = len := by omega
      have HFV := Lib.hid (show v = noV by
        have h := HCH.out
        rw [List.drop_of_length_le (by rw [HL.out]; exact Nat.le_refl _)] at h
        exact (Option.some.inj h).symm)
      have hv : wr.heap[w.heap.size + 1]? = some (.cells #[.int .i64 0, .int .i64 0, .int .i64 0, .int .i64 0] 43 (0, 0)) := (HB.out.block _ (by omega)).trans HV0.out
      have hva : wr.cell? ⟨w.heap.size + 1, 0, none⟩ = some (.int .i64 0) := row_cell hv 0
      have hvb : wr.cell? ⟨w.heap.size + 1, 1, none⟩ = some (.int .i64 0) := row_cell hv 1
      have hvc : wr.cell? ⟨w.heap.size + 1, 2, none⟩ = some (.int .i64 0) := row_cell hv 2
      have hvd : wr.cell? ⟨w.heap.size + 1, 3, none⟩ = some (.int .i64 0) := row_cell hv 3
      have hvf : ∀ o, wr.frozen? ⟨w.heap.size + 1, o, none⟩ = false := fun o => row_frozen hv o
      clear hv
      go_wp2
      have f0 : ∀ u, (wr.setCell ⟨w.heap.size + 1, 0, none⟩ u).cell? ⟨w.heap.size + 1, 0, none⟩ = some u := fun u => cset_same hva
      have f1 : ∀ r u, ((wr.setCell ⟨w.heap.size + 1, 0, none⟩ r).setCell ⟨w.heap.size + 1, 1, none⟩ u).cell? ⟨w.heap.size + 1, 1, none⟩ = some u := fun r u => cset_same ((cset_other (by simp)).trans hvb)
      have f2 : ∀ q r u, (((wr.setCell ⟨w.heap.size + 1, 0, none⟩ q).setCell ⟨w.heap.size + 1, 1, none⟩ r).setCell ⟨w.heap.size + 1, 2, none⟩ u).cell? ⟨w.heap.size + 1, 2, none⟩ = some u := fun q r u => cset_same ((cset_other (by simp)).trans ((cset_other (by simp)).trans hvc))
      have f3 : ∀ p q r u, ((((wr.setCell ⟨w.heap.size + 1, 0, none⟩ p).setCell ⟨w.heap.size + 1, 1, none⟩ q).setCell ⟨w.heap.size + 1, 2, none⟩ r).setCell ⟨w.heap.size + 1, 3, none⟩ u).cell? ⟨w.heap.size + 1, 3, none⟩ = some u := fun p q r u => cset_same ((cset_other (by simp)).trans ((cset_other (by simp)).trans ((cset_other (by simp)).trans hvd)))
      refine bodyPost_ret (v := .agg #[.int .i64 (-1), .int .i64 0, .int .i64 0, .int .i64 0]) (by simp [results, Tryd.results15, go_sem, f0, f1, f2, f3]) rfl ?_
      refine ⟨?_, HB0.out.trans (Below.mono (by
        exact ((((HB.out.mono (show w.heap.size ≤ w.heap.size + 2 by omega)).setCell (by simp) _).setCell (by simp) _).setCell (by simp) _).setCell (by simp) _) (Nat.le_refl _))⟩
      rw [HFV.out]; rfl

end Go.Proofs.YtejfcmgnacimgaaDoor
