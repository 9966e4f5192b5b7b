/- remove: the thing of a key. -/
import Derived.Test.YtphfcfnbefikiaaB2
import Derived.Test.YtphfcfnbefikiaaA7
namespace Go.Proofs.Ytphfcfnbefikiaa
open Go.RowKit
set_option linter.unusedVariables false
set_option linter.unusedSimpArgs false

theorem rem_call {w w1 W : World} {X H n cap lo b off : Nat} {c : Int} {L : List Th} (h : Ob w X H (.slice (some ⟨b, off, none⟩) n cap) c L) (hL : L.length = n) (hn : n ≤ 1000) (hlo : lo < n) (hb : Below w.heap.size w w1) (bx : w1.heap[w.heap.size]? = some box40)
    (hW : Below w1.heap.size w1 W) : Calls Try.prog 49 #[.slice (some ⟨b, off, none⟩) n cap, i64 lo, i64 ((lo : Int) + 1)] W fun e w4 => e = .returned (.slice (some ⟨b, off, none⟩) (n - 1) cap) ∧ Sl w4 51 2 (.slice (some ⟨b, off, none⟩) (n - 1) cap) (delL L lo).length (cells2 (delL L lo)) ∧ App w W w4 X H (.slice (some ⟨b, off, none⟩) n cap) (.slice (some ⟨b, off, none⟩) (n - 1) cap) := by
  have hbW : Below w.heap.size w W := hb.trans (hW.mono hb.size)
  have hsl := h.sl
  rw [hL] at hsl
  have hx := (Array.getElem?_eq_some_iff.1 bx).1
  refine (delete_any (hsl.below hbW) hL hn hlo).mono ?_
  rintro e w4 ⟨rfl, h1, h2⟩
  exact ⟨rfl, h1, app_after h hbW ((hW.block _ hx).trans bx) h2 (fun k hk => .inl hk)⟩

set_option maxHeartbeats 8000000 in
theorem remove_any {X H : Nat} {v : Value} {c : Int} {L : List Th} (hs : Srt L) (k x : Int) (w : World) (h : Ob w X H v c L) (hn : L.length ≤ 1000) :
    Calls Try.prog 45 #[P X, u64 k, u64 x] w fun e w' => e = .returned (ansV (remI k L).1) ∧ Did w X H v c (remI k L).2 w' := by
  have HO := Lib.hid h
  have hX := h.ltX
  have hH := h.ltH
  have hb0 : Below w.heap.size w (w.alloc (.cells #[.int .i64 0, .bool false, .int .u64 0] 40)) := by go_grown
  have FIND := Lib.hid (find_any (key := k) hs _ (h.below hb0) hn)
  have HB0 := Lib.hid hb0
  by_cases hh : has L k = true
  · obtain ⟨t, ht, hk⟩ := has_at hh
    have hlow := (List.getElem?_eq_some_iff.1 ht).1
    obtain ⟨b, off, cap, rfl, hbl, hle, hmx, hfz, hc, hsp, _⟩ := h.sl.at (by omega)
    have HH := Lib.hid hh
    have HG := Lib.hid (show remI k L = (yesA t.2, delL L (low L k)) by unfold remI delL; rw [if_pos hh, ht]; rfl)
    obtain ⟨n, hL⟩ : ∃ n, L.length = n := ⟨_, rfl⟩
    obtain ⟨lo, hlw⟩ : ∃ lo, low L k = lo := ⟨_, rfl⟩
    rw [hlw] at hlow HG ht
    rw [hL] at hn hlow HO h hle
    have c1 := h.c1
    have hv := h.hv
    have hz := h.fz
    have hXH := h.ne
    have hbX : b ≠ X := fun e => h.nx (by simp [Value.ownBlock, e])
    have hbH : b ≠ H := fun e => h.nh (by simp [Value.ownBlock, e])
    have hc1 : w.cell? ⟨b, off + lo * 2 + 1, none⟩ = some (u64 t.2) := (hc (lo * 2 + 1) (by omega)).trans (cells2_1 ht)
    have hlow' : (lo : Int) < (n : Int) := by omega
    have q9 : IntKind.i64.wrap ((lo : Int) + 1) = (lo : Int) + 1 := by rw [IntKind.wrap_i64]; omega
    have HL := Lib.hid hL
    have HLW := Lib.hid hlw
    have CALL := Lib.hid (fun w1 W => rem_call (w := w) (w1 := w1) (W := W) (lo := lo) h hL hn hlow)
    clear hh h hb0 hL hlw hc hsp ht hfz hk
    go_enter Try.func45, Try.ntmps45
    go_wp2_with fail
    refine FIND.out.mono ?_
    rintro e w1 ⟨rfl, hb⟩
    rw [HH.out, HLW.out]
    have HB := Lib.hid (HB0.out.trans (hb.mono HB0.out.size))
    have bx : w1.heap[w.heap.size]? = some box40 := (hb.block _ (by simp)).trans (heap_alloc_new w _)
    have BX := Lib.hid bx
    obtain ⟨e1, e2, e3, e4⟩ := box_cell bx
    have hsz : w.heap.size < w1.heap.size := (Array.getElem?_eq_some_iff.1 bx).1
    have d1 := keep HB.out c1
    have d2 := keep HB.out hv
    have d4 := keep HB.out hc1
    have d3 : w1.frozen? ⟨H, 0, none⟩ = false := (HB.out.frozen (p := ⟨H, 0, none⟩) hH).trans hz
    have hX1 : X < w1.heap.size := by omega
    have hH1 : H < w1.heap.size := by omega
    clear bx hb c1 hv hz hc1
    go_wp2_with fail
    go_region_with (first
      | (go_at_call 49; refine (CALL.out w1 _ HB.out BX.out (by go_grown)).mono ?_
         rintro e w4 ⟨rfl, H⟩
         have H4 := Lib.hid H
         have k1 := H4.out.2.c1
         have k2 := H4.out.2.hv
         have k3 := H4.out.2.fz
         have k4 := H4.out.2.sz
         obtain ⟨b1, b2, b3, b4⟩ := box_cell H4.out.2.bx
         clear H))
    all_goals
      go_wp2
      obtain ⟨f0, f1, f2⟩ := box_set (v := .slice (some ⟨b, off, none⟩) (n - 1) cap) H4.out.2.bx (show H ≠ w.heap.size by omega)
      refine bodyPost_ret (v := ansV (yesA t.2)) (by simp [results, Try.results45, go_sem, f0, f1, f2, ansV, yesA]) rfl ?_
      rw [HG.out, HL.out]
      refine ⟨rfl, did_set (B := w.heap.size) (v' := .slice (some ⟨b, off, none⟩) (n - 1) cap) HO.out H4.out.2.ch H4.out.1 H4.out.2.mv (Nat.le_refl _) H4.out.2.nb ?_⟩
      exact box3 _ _ _ _ _
  · have hh' : has L k = false := by simpa using hh
    have HH := Lib.hid hh'
    have HG := Lib.hid (show remI k L = (no, L) by unfold remI; rw [if_neg hh])
    clear hh hh' h hb0
    go_enter Try.func45, Try.ntmps45
    go_wp2_with fail
    refine FIND.out.mono ?_
    rintro e w1 ⟨rfl, hb⟩
    rw [HH.out]
    have HB := Lib.hid (HB0.out.trans (hb.mono HB0.out.size))
    have bx : w1.heap[w.heap.size]? = some box40 := (hb.block _ (by simp)).trans (heap_alloc_new w _)
    have BX := Lib.hid bx
    obtain ⟨e1, e2, e3, e4⟩ := box_cell bx
    have hsz : w.heap.size < w1.heap.size := (Array.getElem?_eq_some_iff.1 bx).1
    clear bx hb
    go_wp2
    obtain ⟨f0, f1, f2⟩ := box_set0 BX.out
    refine bodyPost_ret (v := ansV no) (by simp [results, Try.results45, go_sem, f0, f1, f2, ansV, no]) rfl ?_
    rw [HG.out]
    exact ⟨rfl, did_not HO.out (box3b _ _ _ HB.out (Nat.le_refl _) _ _ _)⟩
end Go.Proofs.Ytphfcfnbefikiaa
