/- get. -/
import Derived.Test.YtphfcfnbefikiaaA6
namespace Go.Proofs.Ytphfcfnbefikiaa
open Go.RowKit
set_option linter.unusedVariables false
set_option linter.unusedSimpArgs false

set_option maxHeartbeats 4000000 in
theorem get_any {X H : Nat} {v : Value} {c : Int} {L : List Th} (hs : Srt L) (k x : Int) (w : World) (h : Ob w X H v c L) (hn : L.length ≤ 1000) :
    Calls Try.prog 46 #[P X, u64 k, u64 x] w fun e w' => e = .returned (ansV (getI k L).1) ∧ Did w X H v c (getI k L).2 w' := by
  have HO := Lib.hid h
  have hX := h.ltX
  have hH := h.ltH
  have hb0 : Below w.heap.size w (w.alloc (.cells #[.int .i64 0, .bool false, .int .u64 0] 40)) := by go_grown
  have FIND := Lib.hid (find_any (key := k) hs _ (h.below hb0) hn)
  have HB0 := Lib.hid hb0
  by_cases hh : has L k = true
  · obtain ⟨t, ht, hk⟩ := has_at hh
    have hlow := (List.getElem?_eq_some_iff.1 ht).1
    obtain ⟨b, off, cap, rfl, hbl, hle, hmx, hfz, hc, hsp, _⟩ := h.sl.at (by omega)
    have c1 := h.c1
    have hv := h.hv
    obtain ⟨n, hL⟩ : ∃ n, L.length = n := ⟨_, rfl⟩
    obtain ⟨lo, hlo⟩ : ∃ lo, low L k = lo := ⟨_, rfl⟩
    rw [hlo, hL] at hlow
    rw [hL] at hv
    rw [hlo] at ht
    have hc1 : w.cell? ⟨b, off + lo * 2 + 1, none⟩ = some (u64 t.2) := (hc (lo * 2 + 1) (by omega)).trans (cells2_1 ht)
    have hlow' : (lo : Int) < (n : Int) := by omega
    have HG := Lib.hid (show getI k L = (yesA t.2, L) by unfold getI; rw [if_pos hh, hlo, ht]; rfl)
    have HLO := Lib.hid hlo
    have HH := Lib.hid hh
    have hn' : n ≤ 1000 := by omega
    clear hc hsp h ht hL hlo hh hle hb0
    go_enter Try.func46, Try.ntmps46
    go_wp2_with fail
    refine FIND.out.mono ?_
    rintro e w1 ⟨rfl, hb⟩
    rw [HLO.out, HH.out]
    have HB := Lib.hid (HB0.out.trans (hb.mono HB0.out.size))
    have d1 := keep HB.out c1
    have d2 := keep HB.out hv
    have d3 := keep HB.out hc1
    have bx : w1.heap[w.heap.size]? = some (.cells #[.int .i64 0, .bool false, .int .u64 0] 40 (0, 0)) := (hb.block _ (by simp)).trans (heap_alloc_new w _)
    have BX := Lib.hid bx
    have e1 : w1.cell? ⟨w.heap.size, 0, none⟩ = some (.int .i64 0) := by simp [World.cell?, bx]
    have e2 : w1.cell? ⟨w.heap.size, 1, none⟩ = some (.bool false) := by simp [World.cell?, bx]
    have e3 : w1.cell? ⟨w.heap.size, 2, none⟩ = some (.int .u64 0) := by simp [World.cell?, bx]
    have e4 : ∀ j, w1.frozen? ⟨w.heap.size, j, none⟩ = false := fun j => by simp [World.frozen?, bx]
    have hsz : w.heap.size < w1.heap.size := (Array.getElem?_eq_some_iff.1 bx).1
    clear bx c1 hv hc1 hb
    go_wp2
    obtain ⟨f0, f1, f2⟩ := box_set0 BX.out
    refine bodyPost_ret (v := ansV (yesA t.2)) (by simp [results, Try.results46, go_sem, f0, f1, f2, ansV, yesA]) rfl ?_
    rw [HG.out]
    exact ⟨rfl, did_not HO.out (box3b _ _ _ HB.out (Nat.le_refl _) _ _ _)⟩
  · have hh' : has L k = false := by simpa using hh
    have HH := Lib.hid hh'
    have HG := Lib.hid (show getI k L = (no, L) by unfold getI; rw [if_neg hh])
    clear hh hh' h hb0
    go_enter Try.func46, Try.ntmps46
    go_wp2_with fail
    refine FIND.out.mono ?_
    rintro e w1 ⟨rfl, hb⟩
    rw [HH.out]
    have HB := Lib.hid (HB0.out.trans (hb.mono HB0.out.size))
    have bx : w1.heap[w.heap.size]? = some box40 := (hb.block _ (by simp)).trans (heap_alloc_new w _)
    have BX := Lib.hid bx
    obtain ⟨e1, e2, e3, e4⟩ := box_cell bx
    have hsz : w.heap.size < w1.heap.size := (Array.getElem?_eq_some_iff.1 bx).1
    clear bx hb
    go_wp2
    obtain ⟨f0, f1, f2⟩ := box_set0 BX.out
    refine bodyPost_ret (v := ansV no) (by simp [results, Try.results46, go_sem, f0, f1, f2, ansV, no]) rfl ?_
    rw [HG.out]
    exact ⟨rfl, did_not HO.out (box3b _ _ _ HB.out (Nat.le_refl _) _ _ _)⟩
end Go.Proofs.Ytphfcfnbefikiaa
