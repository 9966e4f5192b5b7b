/- slices.Insert where there is no room; and in all. -/
import Derived.Test.YtphfcfnbefikiaaA8
namespace Go.Proofs.Ytphfcfnbefikiaa
open Go.RowKit
set_option linter.unusedVariables false
set_option linter.unusedSimpArgs false

theorem und3 : Try.prog.underlying 3 = some (.int .i64) := Try.underlying3

/-- A NEW ROW: what stood ahead, the new thing, what stood from there on. -/
theorem grow_cells {row c1 c2 : Array Value} {n lo : Nat} {L : List Th} (t : Th) (hL : L.length = n) (hlo : lo ≤ n) (h4 : ∀ j, j < lo * 2 → row[j]? = (cells2 L)[j]?)
    (o1 : Over row (lo * 2) (tcs t) c1) (o2 : Over c1 ((lo + 1) * 2) ((cells2 L).drop (lo * 2)) c2) : ∀ j, j < (n + 1) * 2 → c2[0 + j]? = (cells2 (insL L lo t))[j]? := by
  intro j hj
  have hd : ((cells2 L).drop (lo * 2)).length = n * 2 - lo * 2 := by rw [List.length_drop, cells2_len, hL]
  have ht : (tcs t).length = 2 := rfl
  rw [insL_get L lo t (by omega) j, Nat.zero_add, o2.2, hd, o1.2, ht]
  by_cases h1 : j < lo * 2
  · rw [if_pos h1, if_neg (by omega), if_neg (by omega)]
    exact h4 j h1
  · rw [if_neg h1]
    by_cases h2 : j < lo * 2 + 2
    · rw [if_pos h2, if_neg (by omega), if_pos (by omega)]
    · rw [if_neg h2, if_pos (by omega), List.getElem?_drop]
      congr 1; omega

set_option maxHeartbeats 4000000 in
set_option maxRecDepth 100000 in
theorem ins_grow {w : World} {b off n cap lo B : Nat} {L : List Th} (t : Th) (h : Sl w 51 2 (.slice (some ⟨b, off, none⟩) n cap) n (cells2 L)) (hL : L.length = n) (hn : n ≤ 1000) (hlo : lo < n) (hroom : cap < n + 1) (hB : w.heap[B]? = some (.cells #[.int .u64 t.1, .int .u64 t.2] 51 (0, 0))) (hne : B ≠ b) :
    Calls Try.prog 48 #[.slice (some ⟨b, off, none⟩) n cap, i64 lo, .slice (some ⟨B, 0, none⟩) 1 1] w fun e w' => Ins w (.slice (some ⟨b, off, none⟩) n cap) n (insL L lo t) e w' := by
  have hsl := h
  rcases h.2.2 with ⟨hv, rfl⟩ | ⟨b', off', cap', cur, hv, hh, h1, h2, h3, h4⟩
  · cases hv
  simp only [Value.slice.injEq, Option.some.injEq, Addr.mk.injEq, and_true, true_and] at hv
  obtain ⟨⟨rfl, rfl⟩, rfl⟩ := hv
  obtain rfl : cap = n := by omega
  have hcl : (cells2 L).length = cap * 2 := by rw [cells2_len, hL]
  have hBw : B < w.heap.size := (Array.getElem?_eq_some_iff.1 hB).1
  have hbw : b < w.heap.size := (Array.getElem?_eq_some_iff.1 hh).1
  obtain ⟨i, z, hi, hz, hzc, hs, h8⟩ := info51p
  have hold : (Builtin.firstCells i.size lo (.slice (some ⟨b, off, none⟩) lo cap)).run Try.prog w.drew = .ok ((cells2 L).take (lo * 2)).toArray w.drew := by
    rw [hs]
    refine run_firstCells_some w.drew 2 lo ⟨b, off, none⟩ lo cap _ (by rw [List.length_take, hcl]; omega) (fun j u hj => ?_)
    rw [List.getElem?_take] at hj
    split at hj
    · rw [Addr.add_lit]
      show w.cell? _ = _
      simp only [World.cell?, hh]
      show cur[off + j]? = some u
      rw [h4 _ (by omega)]; exact hj
    · cases hj
  have APP : ∀ ty, ∃ ad4 cap4 w4, (Builtin.append_ #[22, 3] ty #[.slice (some ⟨b, off, none⟩) lo cap, .int .i64 ((cap : Int) + 1 - (lo : Int))]).run Try.prog w = .ok (.slice ad4 (cap + 1) cap4) w4 ∧
      (ad4 = some ⟨w.heap.size, 0, none⟩ ∧ cap + 1 ≤ cap4 ∧ cap4 ≤ maxLen ∧ Below w.heap.size w w4 ∧ ∃ row, Blk w4 w.heap.size row ∧ cap4 * 2 = row.size ∧ ∀ j, j < lo * 2 → row[j]? = (cells2 L)[j]?) := fun ty => by
    have hk : ((cap : Int) + 1 - (lo : Int)) = ((cap + 1 - lo : Nat) : Int) := by omega
    have hsum : lo + (cap + 1 - lo) = cap + 1 := by omega
    have hrun := Lib.run_append_grow_zeros (P := Try.prog) w 22 3 ty 51 i z .i64 .i64 Try.underlying22 und3 hi hz (some ⟨b, off, none⟩) lo cap ((cells2 L).take (lo * 2)) hold (cap + 1 - lo) (by omega) (by omega) (by omega) (by omega) (by rw [h8]; omega) (by rw [h8, hsum]; exact growslice_fits (by omega) (by omega))
    rw [hsum] at hrun
    rw [hk]
    have hge : cap + 1 ≤ grownCap w (cap + 1) cap 51 := grownCap_ge w _ _ _
    refine ⟨_, _, _, hrun, rfl, hge, grownCap_le_maxLen w _ _ _ (by unfold maxLen; omega), (Below.refl _ w).drew.alloc (by exact Nat.le_refl _) _, _, heap_alloc_new w.drew _, ?_, fun j hj => ?_⟩
    · simp only [Array.size_append, List.size_toArray, List.length_take, hcl, size_zeroCells, hzc]
      omega
    · rw [Array.append_assoc, Array.getElem?_append_left (by simp only [List.size_toArray, List.length_take, hcl]; omega), List.getElem?_toArray, List.getElem?_take, if_pos hj]
  have CP1 : ∀ (W : World) (row : Array Value), Below w.heap.size w W → Blk W w.heap.size row → (cap + 1) * 2 ≤ row.size → ∀ ty dc, ∃ w', (Builtin.copy_ #[22, 22] ty #[.slice (some ⟨w.heap.size, lo * 2, none⟩) (cap + 1 - lo) dc, .slice (some ⟨B, 0, none⟩) 1 1]).run Try.prog W = .ok (goInt 1) w' ∧
      (Below w.heap.size w w' ∧ ∃ c1, Blk w' w.heap.size c1 ∧ Over row (lo * 2) (tcs t) c1) := fun W row hb hr hsz ty dc => by
    obtain ⟨w', r1, r2, r3⟩ := copy_blk hr (lo * 2) (cap + 1 - lo) dc (.slice (some ⟨B, 0, none⟩) 1 1) 1 1 (tcs t) (by simp [Builtin.lenOf]) (by show min 1 (cap + 1 - lo) = 1; omega) (run_firstCells_some W 2 1 ⟨B, 0, none⟩ 1 1 (tcs t) rfl (World.news_of_block ((hb.block B hBw).trans hB))) (by show lo * 2 + 2 ≤ row.size; omega) (by simp [tcs, Value.oneCell']) ty
    exact ⟨w', r1, hb.grown r2 hb.size (fun k e => by cases e; exact Nat.le_refl _), r3⟩
  have CP2 : ∀ (W : World) (c1 : Array Value), Below w.heap.size w W → Blk W w.heap.size c1 → (cap + 1) * 2 ≤ c1.size → ∀ ty dc sc, ∃ w', (Builtin.copy_ #[22, 22] ty #[.slice (some ⟨w.heap.size, (lo + 1) * 2, none⟩) (cap - lo) dc, .slice (some ⟨b, off + lo * 2, none⟩) (cap - lo) sc]).run Try.prog W = .ok (goInt ((cap - lo : Nat) : Int)) w' ∧
      (Below w.heap.size w w' ∧ ∃ c2, Blk w' w.heap.size c2 ∧ Over c1 ((lo + 1) * 2) ((cells2 L).drop (lo * 2)) c2) := fun W c1 hb hr hsz ty dc sc => by
    obtain ⟨w', r1, r2, r3⟩ := copy_blk hr ((lo + 1) * 2) (cap - lo) dc (.slice (some ⟨b, off + lo * 2, none⟩) (cap - lo) sc) (cap - lo) (cap - lo) ((cells2 L).drop (lo * 2)) (by simp [Builtin.lenOf]) (by show min (cap - lo) (cap - lo) = cap - lo; omega) (by
      refine run_firstCells_some W 2 (cap - lo) ⟨b, off + lo * 2, none⟩ (cap - lo) sc _ (by rw [List.length_drop, hcl]; omega) (fun j u hj => ?_)
      rw [List.getElem?_drop] at hj
      have hjl := (List.getElem?_eq_some_iff.1 hj).1
      rw [Addr.add_lit]
      simp only [World.cell?, hb.block b hbw, hh]
      show cur[off + lo * 2 + j]? = some u
      rw [Nat.add_assoc, h4 _ (by omega)]; exact hj) (by rw [List.length_drop, hcl]; omega) (fun u hu => cells2_one L u (List.mem_of_mem_drop hu)) ty
    exact ⟨w', r1, hb.grown r2 hb.size (fun k e => by cases e; exact Nat.le_refl _), r3⟩
  have HA := Lib.hid APP
  have HC1 := Lib.hid CP1
  have HC2 := Lib.hid CP2
  have HL := Lib.hid hL
  have q1 : ((lo : Int) == (cap : Int)) = false := by simp; omega
  have q3 : (lo : Int) ≤ (cap : Int) := by omega
  have q4 : ¬ (cap = lo) := by omega
  have q9 : IntKind.i64.wrap ((lo : Int) + 1) = (lo : Int) + 1 := by rw [IntKind.wrap_i64]; omega
  have q10 : (0 : Int) ≤ (lo : Int) + 1 := by omega
  have q11 : ((lo : Int) + 1).toNat = lo + 1 := by omega
  have q12 : (lo : Int) ≤ (cap : Int) + 1 := by omega
  clear APP CP1 CP2 hold hi hz hzc hs h8 h2 h3 h4 hh hB hL hsl h hcl hne
  go_enter Try.func48, Try.ntmps48
  go_wp2_with (first
    | ((with_reducible show wpList _ _ _ (Oper.mk _ (Op.call { callee := Callee.builtin Builtin.append, args := _, argTypes := _ }) _ _ _ _ :: _) _ _)
       refine wpList_app rfl (.tmp 34) (.tmp 39) 22 3 rfl rfl rfl (HA.out _) ?_
       rintro ad4 cap4 w4 ⟨rfl, h5, h6, h7⟩
       have H4 := Lib.hid h7
       have H6 := Lib.hid h6
       have q13 : ¬ (cap4 = lo) := by omega
       have q14 : ¬ (cap4 = lo + 1) := by omega
       have q15 : ∃ w5, (Builtin.copy_ #[22, 22] 3 #[.slice (some ⟨w.heap.size, lo * 2, none⟩) (cap + 1 - lo) (cap4 - lo), .slice (some ⟨B, 0, none⟩) 1 1]).run Try.prog w4 = .ok (goInt 1) w5 ∧
          (Below w.heap.size w w5 ∧ ∃ row c1, (∀ j, j < lo * 2 → row[j]? = (cells2 L)[j]?) ∧ cap4 * 2 = row.size ∧ Blk w5 w.heap.size c1 ∧ Over row (lo * 2) (tcs t) c1) := by
         obtain ⟨hb, row, r1, r2, r3⟩ := h7
         obtain ⟨w5, x1, x2, c1, x3, x4⟩ := HC1.out w4 row hb r1 (by rw [← r2]; omega) 3 (cap4 - lo)
         exact ⟨w5, x1, x2, row, c1, r3, r2, x3, x4⟩
       have Q15 := Lib.hid q15
       clear h6 h7 q15)
    | ((with_reducible show wpList _ _ _ (Oper.mk _ (Op.call { callee := Callee.builtin Builtin.copy, args := _, argTypes := _ }) _ _ _ _ :: _) _ _)
       refine wpList_copyR rfl (.tmp 43) (.tmp 44) 22 22 rfl rfl rfl Q15.out ?_
       rintro w5 H
       have H5 := Lib.hid H
       clear H Q15 H4))
  go_region_law (first
    | ((with_reducible show (if Region.wanted (Oper.mk _ (Op.call { callee := Callee.builtin Builtin.copy, args := _, argTypes := _ }) _ _ _ _) _ = true then _ else _))
       refine step_copyR rfl (.tmp 50) (.tmp 53) 22 22 rfl (v := .slice (some ⟨w.heap.size, (lo + 1) * 2, none⟩) (cap - lo) (cap4 - (lo + 1))) (u := .slice (some ⟨b, off + lo * 2, none⟩) (cap - lo) (cap - lo)) (by simp [Act.eval, Act.put]) (by simp [Act.eval, Act.put]) (R := fun w6 => Below w.heap.size w w6 ∧ ∃ row c1 c2, (∀ j, j < lo * 2 → row[j]? = (cells2 L)[j]?) ∧ cap4 * 2 = row.size ∧ Over row (lo * 2) (tcs t) c1 ∧ Blk w6 w.heap.size c2 ∧ Over c1 ((lo + 1) * 2) ((cells2 L).drop (lo * 2)) c2) (by
          obtain ⟨hb, row, c1, r3, r2, x3, x4⟩ := H5.out
          obtain ⟨w6, y1, y2, c2, y3, y4⟩ := HC2.out w5.drew c1 hb.drew x3 (by rw [x4.1, ← r2]; omega) 3 (cap4 - (lo + 1)) (cap - lo)
          exact ⟨w6, y1, y2, row, c1, c2, r3, r2, x4, y3, y4⟩) ?_
       rintro w6 H
       have H7 := Lib.hid H
       clear H))
  all_goals
    go_wp2
    go_returns
    obtain ⟨hb, row, c1, c2, r3, r2, x4, y3, y4⟩ := H7.out
    refine ⟨some ⟨w.heap.size, 0, none⟩, cap4, rfl, ⟨by rw [cells2_len, insL_len L lo t (by rw [HL.out]; omega), HL.out], cells2_one _, .inr ⟨w.heap.size, 0, cap4, c2, rfl, y3, h5, H6.out, by rw [y4.1, x4.1, r2]; omega, ?_⟩⟩, ⟨hb.os, hb.tape, hb.output, hb.size, fun k hk _ => hb.block k hk⟩, fun k hk => .inr (by simp only [Value.ownBlock, Option.some.injEq] at hk; omega)⟩
    exact grow_cells t HL.out (by omega) r3 x4 y4
end Go.Proofs.Ytphfcfnbefikiaa
