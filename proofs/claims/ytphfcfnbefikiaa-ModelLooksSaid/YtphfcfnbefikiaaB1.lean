/- insert: a thing of a key that is not there. -/
import Derived.Test.YtphfcfnbefikiaaA9
import Derived.Test.YtphfcfnbefikiaaA7
namespace Go.Proofs.Ytphfcfnbefikiaa
open Go.RowKit
set_option linter.unusedVariables false
set_option linter.unusedSimpArgs false

theorem ins_any {W : World} {ad : Option Addr} {n cap lo B : Nat} {L : List Th} (t : Th) (h : Sl W 51 2 (.slice ad n cap) n (cells2 L)) (hL : L.length = n) (hn : n ≤ 1000) (hlo : lo ≤ n) (hB : W.heap[B]? = some (.cells #[.int .u64 t.1, .int .u64 t.2] 51 (0, 0))) (hne : (Value.slice ad n cap).ownBlock ≠ some B) :
    Calls Try.prog 48 #[.slice ad n cap, i64 lo, .slice (some ⟨B, 0, none⟩) 1 1] W fun e w' => Ins W (.slice ad n cap) n (insL L lo t) e w' := by
  rcases Nat.lt_or_ge lo n with hlt | hge
  · obtain ⟨b, off, cap', hv, hbl, hle, hmx, _⟩ := h.at (by omega)
    simp only [Value.slice.injEq, true_and] at hv
    obtain ⟨rfl, rfl⟩ := hv
    have hb : B ≠ b := fun e => hne (by simp [Value.ownBlock, e])
    by_cases hr : n + 1 ≤ cap
    · exact ins_room t h hL hn hlt hr hB hb
    · exact ins_grow t h hL hn hlt (by omega) hB hb
  · obtain rfl : lo = n := by omega
    exact ins_end t h hL hn hB

theorem ins_call {w w1 W : World} {X H n cap lo B : Nat} {ad : Option Addr} {c : Int} {L : List Th} (t : Th) (h : Ob w X H (.slice ad n cap) c L) (hL : L.length = n) (hn : n ≤ 1000) (hlo : lo ≤ n) (hb : Below w.heap.size w w1) (bx : w1.heap[w.heap.size]? = some box40)
    (hW : Below w1.heap.size w1 W) (hB : W.heap[B]? = some (.cells #[.int .u64 t.1, .int .u64 t.2] 51 (0, 0))) (hB2 : w1.heap.size ≤ B) :
    Calls Try.prog 48 #[.slice ad n cap, i64 lo, .slice (some ⟨B, 0, none⟩) 1 1] W fun e w4 => ∃ ad4 cap4, e = .returned (.slice ad4 (n + 1) cap4) ∧ Sl w4 51 2 (.slice ad4 (n + 1) cap4) (insL L lo t).length (cells2 (insL L lo t)) ∧ App w W w4 X H (.slice ad n cap) (.slice ad4 (n + 1) cap4) := by
  have hbW : Below w.heap.size w W := hb.trans (hW.mono hb.size)
  have hsl := h.sl
  rw [hL] at hsl
  have hx := (Array.getElem?_eq_some_iff.1 bx).1
  refine (ins_any t (hsl.below hbW) hL hn hlo hB (fun e => by have := hsl.lt e; omega)).mono ?_
  rintro e w4 ⟨ad4, cap4, rfl, h1, h2, h3⟩
  exact ⟨ad4, cap4, rfl, by rw [insL_len L lo t (by omega), hL]; exact h1, app_after h hbW ((hW.block _ hx).trans bx) h2 h3⟩

set_option maxHeartbeats 8000000 in
theorem insert_any {X H : Nat} {v : Value} {c : Int} {L : List Th} (hs : Srt L) (k x : Int) (w : World) (h : Ob w X H v c L) (hn : L.length ≤ 1000) :
    Calls Try.prog 44 #[P X, u64 k, u64 x] w fun e w' => e = .returned (ansV (insI k x L).1) ∧ Did w X H v c (insI k x L).2 w' := by
  have HO := Lib.hid h
  have hX := h.ltX
  have hH := h.ltH
  have hb0 : Below w.heap.size w (w.alloc (.cells #[.int .i64 0, .bool false, .int .u64 0] 40)) := by go_grown
  have FIND := Lib.hid (find_any (key := k) hs _ (h.below hb0) hn)
  have HB0 := Lib.hid hb0
  by_cases hh : has L k = true
  · have HH := Lib.hid hh
    have HG := Lib.hid (show insI k x L = (no, L) by unfold insI; rw [if_pos hh])
    clear hh h hb0
    go_enter Try.func44, Try.ntmps44
    go_wp2_with fail
    refine FIND.out.mono ?_
    rintro e w1 ⟨rfl, hb⟩
    rw [HH.out]
    have HB := Lib.hid (HB0.out.trans (hb.mono HB0.out.size))
    have bx : w1.heap[w.heap.size]? = some box40 := (hb.block _ (by simp)).trans (heap_alloc_new w _)
    have BX := Lib.hid bx
    obtain ⟨e1, e2, e3, e4⟩ := box_cell bx
    have hsz : w.heap.size < w1.heap.size := (Array.getElem?_eq_some_iff.1 bx).1
    clear bx hb
    go_wp2
    obtain ⟨f0, f1, f2⟩ := box_set0 BX.out
    refine bodyPost_ret (v := ansV no) (by simp [results, Try.results44, go_sem, f0, f1, f2, ansV, no]) rfl ?_
    rw [HG.out]
    exact ⟨rfl, did_not HO.out (box3b _ _ _ HB.out (Nat.le_refl _) _ _ _)⟩
  · have hh' : has L k = false := by simpa using hh
    have HH := Lib.hid hh'
    have HG := Lib.hid (show insI k x L = (yesA 0, insL L (low L k) (k, x)) by unfold insI insL; rw [if_neg hh])
    have hlo := low_le L k
    obtain ⟨ad, cap, rfl, _⟩ := h.sl.form
    obtain ⟨n, hL⟩ : ∃ n, L.length = n := ⟨_, rfl⟩
    obtain ⟨lo, hlw⟩ : ∃ lo, low L k = lo := ⟨_, rfl⟩
    rw [hlw] at hlo HG
    rw [hL] at hn hlo HO h
    have c1 := h.c1
    have hv := h.hv
    have hz := h.fz
    have hXH := h.ne
    have HL := Lib.hid hL
    have HLW := Lib.hid hlw
    have CALL := Lib.hid (fun w1 W B => ins_call (w := w) (w1 := w1) (W := W) (B := B) (lo := lo) (k, x) h hL hn hlo)
    clear hh hh' h hb0 hL hlo hlw
    go_enter Try.func44, Try.ntmps44
    go_wp2_with fail
    refine FIND.out.mono ?_
    rintro e w1 ⟨rfl, hb⟩
    rw [HH.out, HLW.out]
    have HB := Lib.hid (HB0.out.trans (hb.mono HB0.out.size))
    have bx : w1.heap[w.heap.size]? = some box40 := (hb.block _ (by simp)).trans (heap_alloc_new w _)
    have BX := Lib.hid bx
    obtain ⟨e1, e2, e3, e4⟩ := box_cell bx
    have hsz : w.heap.size < w1.heap.size := (Array.getElem?_eq_some_iff.1 bx).1
    have d1 := keep HB.out c1
    have d2 := keep HB.out hv
    have d3 : w1.frozen? ⟨H, 0, none⟩ = false := (HB.out.frozen (p := ⟨H, 0, none⟩) hH).trans hz
    have hX1 : X < w1.heap.size := by omega
    have hH1 : H < w1.heap.size := by omega
    clear bx hb c1 hv hz
    go_wp2_with fail
    go_region_with (first
      | (go_at_call 48; refine (CALL.out w1 _ w1.heap.size HB.out BX.out (by go_grown) (by exact heap_alloc_new _ _) (Nat.le_refl _)).mono ?_
         rintro e w4 ⟨ad4, cap4, rfl, H⟩
         have H4 := Lib.hid H
         have k1 := H4.out.2.c1
         have k2 := H4.out.2.hv
         have k3 := H4.out.2.fz
         have k4 := H4.out.2.sz
         obtain ⟨b1, b2, b3, b4⟩ := box_cell H4.out.2.bx
         clear H))
    all_goals
      go_wp2
      obtain ⟨f0, f1, f2⟩ := box_set (v := .slice ad4 (n + 1) cap4) H4.out.2.bx (show H ≠ w.heap.size by omega)
      refine bodyPost_ret (v := ansV (yesA 0)) (by simp [results, Try.results44, go_sem, f0, f1, f2, ansV, yesA]) rfl ?_
      rw [HG.out, HL.out]
      refine ⟨rfl, did_set (B := w.heap.size) (v' := .slice ad4 (n + 1) cap4) HO.out H4.out.2.ch H4.out.1 H4.out.2.mv (Nat.le_refl _) H4.out.2.nb ?_⟩
      exact box3 _ _ _ _ _
end Go.Proofs.Ytphfcfnbefikiaa
