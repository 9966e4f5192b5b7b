/- The document's own publish: the walk. -/
import Derived.Test.YtejfcmgnacimgaaDoorT3
namespace Go.Proofs.YtejfcmgnacimgaaDoor
open Go.RowKit
set_option linter.unusedVariables false
set_option linter.unusedSimpArgs false

theorem sl99 (b : Nat) (W : World) : (Instr.sliceAt 99 (.slice (some ⟨b, 0, none⟩) 1 1) (some (.int .i64 1)) none none).run Tryd.prog W = .ok (.slice (some ⟨b, 0, none⟩) 0 0) W := by kernel_rfl
theorem sl99n (g j n c : Nat) (hn : 1 ≤ n) (hc : n ≤ c) (W : World) : ∃ A, (Instr.sliceAt 99 (.slice (some ⟨g, j, none⟩) n c) (some (.int .i64 1)) none none).run Tryd.prog W = .ok (.slice (some A) (n - 1) (c - 1)) W ∧ (2 ≤ n → A = ⟨g, j + 1, none⟩) := by
  have h1 : (sizeOf (Tryd.prog.elem 99)).run Tryd.prog W = .ok 1 W := by kernel_rfl
  rw [run_sliceAt_slice (h := by kernel_rfl), run_slice_l (ht := by kernel_rfl) (h0 := by omega) (h1 := by omega), h1]
  simp only [Result.andThen, sliced]
  by_cases e : c = 1
  · subst e
    exact ⟨⟨g, j, none⟩, rfl, fun h => by omega⟩
  · refine ⟨⟨g, j + 1, none⟩, ?_, fun _ => rfl⟩
    have : ¬ (c = Int.toNat 1) := by simpa using e
    rw [if_neg this]
    rfl

theorem app_after {W S G base : Nat} {B a b : Int} {cs cg : Nat} {u : U} {wa w w' : World} {o : Obj} {row : Option Nat} (h : UAt W S G B a b cs cg u w) (hk : Kb W S G base wa w) (hg : (w.alloc o).grownBy w' row) (hrow : ∀ k, row = some k → base ≤ k) (hW : W < base) (hS : S < base) (hG : G < base) :
    UAt W S G B a b cs cg u w' ∧ Kb W S G base wa w' := by
  obtain ⟨h1, h2, h3, h4, h5, h6⟩ := h.grown hg hrow hW hS hG hk.size
  exact ⟨h1, h4.trans hk.os, h5.trans hk.tape, h6.trans hk.output, Nat.le_trans hk.size h2, fun k a1 a2 a3 a4 => (h3 k a1).trans (hk.block k a1 a2 a3 a4)⟩

set_option maxHeartbeats 8000000 in
set_option maxRecDepth 100000 in
theorem publish_u {W S G : Nat} {B a b : Int} {cs cg : Nat} {u : U} (t : Nat) (h0 : u.s 0 = 1) (h2 : u.s 2 = (t : Int)) (w : World) (h : UAt W S G B a b cs cg u w) :
    Calls Tryd.prog 42 #[.pointer (some ⟨W, 0, none⟩), .int .i64 t, .int .i64 1] w fun e w' => e = .returned (.tuple #[]) ∧ UAt W S G B a b cs cg (pubU u) w' ∧ Kz W S G w w' := by
  obtain ⟨i, hi, hz, h1, h8⟩ := info3q
  have hb0 : Below w.heap.size w (w.alloc (.cells #[.int .i64 1] 3)) := by go_grown
  have hu := h.below hb0
  have hx : (w.alloc (.cells #[.int .i64 1] 3)).cell? ⟨w.heap.size, 0, none⟩ = some (.int .i64 1) := by simp [go_sem]
  obtain ⟨hlW, hlS, hlG⟩ := h.lt
  have HB0 := Lib.hid hb0
  have HU := Lib.hid hu
  have HL := Lib.hid (show W < w.heap.size ∧ S < w.heap.size ∧ G < w.heap.size from ⟨hlW, hlS, hlG⟩)
  have H0 := Lib.hid h0
  have H2 := Lib.hid h2
  have n1 := h.nWS
  have HX := Lib.hid hx
  have hsz1 : (w.alloc (.cells #[.int .i64 1] 3)).heap.size = w.heap.size + 1 := by simp
  have HSZ := Lib.hid hsz1
  clear hb0 hu h hx h0 h2 hsz1 hlW hlS hlG
  go_enter Tryd.func42, Tryd.ntmps42
  go_wp2_with fail
  generalize w.alloc (.cells #[.int .i64 1] 3) = w1 at *
  go_loopw [6] (fun v wr => (v = .slice (some ⟨w.heap.size, 0, none⟩) 1 1 ∧ wr = w1) ∨ (UAt W S G B a b cs cg (pubU u) wr ∧ Kb W S G (w.heap.size + 1) w1 wr ∧ ∃ A n c, v = .slice (some A) n c ∧ n ≤ 8 ∧ n ≤ c ∧ c ≤ maxLen ∧ (1 ≤ n → ∃ g j, A = ⟨g, j, none⟩ ∧ ∀ i, i < n → ∃ z, wr.cell? ⟨g, j + i, none⟩ = some (.int .i64 z)))) (fun v wr => mzP S v wr)
  case atStart => exact Or.inl ⟨rfl, rfl⟩
  case round =>
    rcases hrel with ⟨rfl, rfl⟩ | ⟨hu, hk, A, n, c, rfl, hn8, hnc, hcm, hel⟩
    · generalize wr = wa at *
      have s0 := HU.out.s0
      have s2 := HU.out.s2
      have s4 := HU.out.s4
      rw [H0.out] at s0
      rw [H2.out] at s2
      have c4 := HU.out.c4
      have c6 := HU.out.c6
      have fS := HU.out.fS
      have hx := HX.out
      have hsl := sl99 w.heap.size
      go_wp2_with fail
      have HU2 := Lib.hid HU.out.pubd
      have HK2 := Lib.hid (show Kb W S G (w.heap.size + 1) wa (((wa.setCell ⟨S, 0, none⟩ (.int .i64 2)).setCell ⟨S, 2, none⟩ (.int .i64 (-1))).setCell ⟨S, 4, none⟩ (.int .i64 u.n)) from
        ⟨rfl, rfl, rfl, by simp only [World.size_setCell]; rw [HSZ.out]; exact Nat.le_refl _, fun k _ _ h2 _ => (Below.heap_setCell _ _ _ _ h2).trans ((Below.heap_setCell _ _ _ _ h2).trans (Below.heap_setCell _ _ _ _ h2))⟩)
      obtain ⟨w2, hw2⟩ : ∃ w2, w2 = (((wa.setCell ⟨S, 0, none⟩ (.int .i64 2)).setCell ⟨S, 2, none⟩ (.int .i64 (-1))).setCell ⟨S, 4, none⟩ (.int .i64 u.n)) := ⟨_, rfl⟩
      rw [← hw2] at HU2 HK2 ⊢
      clear hw2 s0 s2 s4 c4 c6 fS hx hsl
      go_loopw [6, 9] (fun v6 v9 wq => ∃ k : Nat, k ≤ 8 ∧ v9 = .int .i64 k ∧ UAt W S G B a b cs cg (pubU u) wq ∧ Kb W S G (w.heap.size + 1) wa wq ∧ ((k = 0 ∧ v6 = .slice (some ⟨w.heap.size, 0, none⟩) 0 0) ∨ (1 ≤ k ∧ ∃ g cap ys, v6 = .slice (some ⟨g, 0, none⟩) k cap ∧ wq.ownsRow (w.heap.size + 1) 3 1 v6 k ys ∧ ∀ y ∈ ys, ∃ z, y = .int .i64 z))) (fun _ v9 _ => 8 - (intOf v9).toNat)
      case atStart => exact ⟨0, by omega, rfl, HU2.out, HK2.out, Or.inl ⟨rfl, rfl⟩⟩
      case round =>
        obtain ⟨k, hk, rfl, hu, hkb, hv⟩ := hrel
        have HU3 := Lib.hid hu
        have HK3 := Lib.hid hkb
        have hk8 : (k : Int) ≤ 8 := by omega
        clear hu hkb
        by_cases hlt : k < 8
        · have hlt' : (k : Int) < 8 := by omega
          have gk : wr.cell? ⟨S, 6 + k, none⟩ = some (.int .u64 ((pubU u).s (6 + k))) := by
            have := HU3.out.sc (6 + k) (by omega)
            unfold cellU at this
            rw [if_neg (by omega)] at this
            exact this
          rcases hv with ⟨rfl, rfl⟩ | ⟨hk1, g, cap, ys, rfl, hown, hys⟩
          · go_wp2_with (first
              | (at_builtin
                 obtain ⟨cap, w3, hr, hown2, hgrow⟩ := first_app (w := wr) (base := w.heap.size + 1) (wrap64 (((pubU u).s 6).tmod 4194304)) ⟨w.heap.size, 0, none⟩ HK3.out.size
                 refine Lib.wpList_append_run_sl _ rfl (.tmp 80) (.tmp 89) 99 rfl _ _ rfl rfl hr ?_
                 have H4 := Lib.hid (app_after HU3.out HK3.out hgrow (fun k e => by cases e) (by have := HL.out; omega) (by have := HL.out; omega) (by have := HL.out; omega))
                 have HO4 := Lib.hid hown2
                 clear hr hown2 hgrow))
            go_roundw
            case rel => exact ⟨1, by omega, by go_num, H4.out.1, H4.out.2, Or.inr ⟨by omega, _, cap, _, rfl, HO4.out, fun y hy => ⟨_, List.mem_singleton.1 hy⟩⟩⟩
            case measure => simp [intOf]
          · have HO := Lib.hid hown
            have HY := Lib.hid hys
            clear hown hys
            go_wp2_with (first
              | (at_builtin; refine wpList_append_lies _ rfl (.tmp 80) (.tmp 89) 99 rfl (w.heap.size + 1) 3 i (.int .i64 0) 1 8 Tryd.underlying99 hi hz h1 h8 rfl (by decide) (.slice (some ⟨g, 0, none⟩) k cap) k ys rfl (HO.out.alloc _) ⟨wr.heap.size, 0, none⟩ 1 1 [.int .i64 (wrap64 (((pubU u).s (6 + k)).tmod 4194304))] rfl rfl ?_ ?_ (by decide) (by unfold maxLen; omega) ?_ ?_ _ rfl ?_
                 · exact newsN wr #[.int .i64 _] 3
                 · (intro u hu; obtain rfl := List.mem_singleton.1 hu; rfl)
                 · omega
                 · (have := HK3.out.size; simp; omega)
                 intro g2 cap3 w3 hown2 hgrow hatg hlt2
                 have H4 := Lib.hid (app_after HU3.out HK3.out hgrow (fun k e => (HO.out.lt k e).1) (by have := HL.out; omega) (by have := HL.out; omega) (by have := HL.out; omega))
                 have HO4 := Lib.hid hown2
                 clear hown2 hgrow hatg hlt2))
            go_roundw
            case rel => exact ⟨k + 1, by omega, by go_num, H4.out.1, H4.out.2, Or.inr ⟨by omega, _, _, _, rfl, HO4.out, fun y hy => by
              rcases List.mem_append.1 hy with e | e
              · exact HY.out y e
              · exact ⟨_, List.mem_singleton.1 e⟩⟩⟩
            case measure => simp [intOf]; omega
        · obtain rfl : k = 8 := by omega
          rcases hv with ⟨e, -⟩ | ⟨hk1, g, cap, ys, rfl, hown, hys⟩
          · omega
          · have HE := Lib.hid (show ∃ A n c, (Value.slice (some ⟨g, 0, none⟩) 8 cap) = .slice (some A) n c ∧ n ≤ 8 ∧ n ≤ c ∧ c ≤ maxLen ∧ (1 ≤ n → ∃ g j, A = ⟨g, j, none⟩ ∧ ∀ i, i < n → ∃ z, wr.cell? ⟨g, j + i, none⟩ = some (.int .i64 z)) from by
              have hlen := hown.1
              rcases hown.2 with ⟨e, _⟩ | ⟨g', cap', cur, e, _, _, hc1, hc2, _, _⟩
              · cases e
              · injection e with e1 e2 e3
                subst e3
                refine ⟨_, 8, cap, rfl, by omega, hc1, hc2, fun _ => ⟨g, 0, rfl, fun i hi => ?_⟩⟩
                have hi' : i < ys.length := by omega
                obtain ⟨z, hz⟩ := hys ys[i] (List.getElem_mem hi')
                refine ⟨z, ?_⟩
                rw [Nat.zero_add, hown.cellAt i (by omega), List.getElem?_eq_getElem hi', hz])
            have HP := Lib.hid (show mzP S (Value.slice (some ⟨g, 0, none⟩) 8 cap) wr < mzP S (Value.slice (some ⟨w.heap.size, 0, none⟩) 1 1) wa from by
              have e1 := HU3.out.s0
              have e2 := HU.out.s0
              rw [H0.out] at e2
              unfold mzP
              rw [e1, e2]
              simp [pubU, upd])
            clear hown hys
            go_wp2
            exact ⟨Or.inr ⟨HU3.out, HK3.out, HE.out⟩, HP.out⟩
    · have HU3 := Lib.hid hu
      have HK3 := Lib.hid hk
      have s0 : wr.cell? ⟨S, 0, none⟩ = some (.int .i64 2) := hu.s0
      have c4 := hu.c4
      by_cases hn0 : n = 0
      · subst hn0
        have HE := Lib.hid (show Kz W S G w wr from ⟨hk.os.trans HB0.out.os, hk.tape.trans HB0.out.tape, hk.output.trans HB0.out.output, by have := hk.size; omega, fun k h1 h2 h3 h4 => (hk.block k (by omega) h2 h3 h4).trans (HB0.out.block k h1)⟩)
        clear hu hk hel
        go_wp2
        go_returns
        exact ⟨rfl, HU3.out, HE.out⟩
      · obtain ⟨g, j, rfl, hels⟩ := hel (by omega)
        obtain ⟨z, hz0⟩ := hels 0 (by omega)
        rw [Nat.add_zero] at hz0
        obtain ⟨A', hsl0, hA'⟩ := sl99n g j n c (by omega) hnc wr
        have hn8' : (n : Int) ≤ 8 := by omega
        have hn1' : (0 : Int) < n := by omega
        have hn1 : 0 < n := by omega
        have HE := Lib.hid (show (UAt W S G B a b cs cg (pubU u) wr ∧ Kb W S G (w.heap.size + 1) w1 wr ∧ ∃ A n' c', Value.slice (some A') (n - 1) (c - 1) = .slice (some A) n' c' ∧ n' ≤ 8 ∧ n' ≤ c' ∧ c' ≤ maxLen ∧ (1 ≤ n' → ∃ g j, A = ⟨g, j, none⟩ ∧ ∀ i, i < n' → ∃ z, wr.cell? ⟨g, j + i, none⟩ = some (.int .i64 z))) from
          ⟨hu, hk, A', n - 1, c - 1, rfl, by omega, by omega, by omega, fun h1 => ⟨g, j + 1, hA' (by omega), fun i hi => by
            obtain ⟨z, hz⟩ := hels (i + 1) (by omega)
            exact ⟨z, by rw [show j + 1 + i = j + (i + 1) by omega]; exact hz⟩⟩⟩)
        have HP := Lib.hid (show mzP S (Value.slice (some A') (n - 1) (c - 1)) wr < mzP S (Value.slice (some ⟨g, j, none⟩) n c) wr from by
          unfold mzP
          rw [s0]
          simp
          omega)
        clear hu hk hel hels hA'
        have hz3 : z < 1 ∨ 1 < z ∨ z = 1 := by omega
        rcases hz3 with h | h | h
        · go_wp2
          exact ⟨Or.inr HE.out, HP.out⟩
        · go_wp2
          exact ⟨Or.inr HE.out, HP.out⟩
        · subst h
          go_wp2
          exact ⟨Or.inr HE.out, HP.out⟩
end Go.Proofs.YtejfcmgnacimgaaDoor
