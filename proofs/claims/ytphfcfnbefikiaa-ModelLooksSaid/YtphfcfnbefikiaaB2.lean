/- slices.Delete of one thing. -/
import Derived.Test.YtphfcfnbefikiaaA8
namespace Go.Proofs.Ytphfcfnbefikiaa
open Go.RowKit
set_option linter.unusedVariables false
set_option linter.unusedSimpArgs false

def delL (L : List Th) (i : Nat) : List Th := L.take i ++ L.drop (i + 1)
theorem delL_len (L : List Th) (i : Nat) (h : i < L.length) : (delL L i).length = L.length - 1 := by unfold delL; simp; omega
theorem delL_get (L : List Th) (i : Nat) (h : i < L.length) (j : Nat) : (cells2 (delL L i))[j]? = if j < i * 2 then (cells2 L)[j]? else (cells2 L)[j + 2]? := by
  unfold delL
  rw [cells2_append, cells2_take, cells2_drop]
  have hl : ((cells2 L).take (i * 2)).length = i * 2 := by rw [List.length_take, cells2_len]; omega
  by_cases h1 : j < i * 2
  · rw [if_pos h1, List.getElem?_append_left (by rw [hl]; exact h1), List.getElem?_take, if_pos h1]
  · rw [if_neg h1, List.getElem?_append_right (by rw [hl]; omega), hl, List.getElem?_drop]
    congr 1; omega

theorem zero51 (w : World) : (zeroValue 51).run Try.prog w = .ok (.agg #[.int .u64 0, .int .u64 0]) w := by kernel_rfl
theorem zc51 : (Builtin.zeroCells (Value.agg #[.int .u64 0, .int .u64 0]).cells 1).toList = [.int .u64 0, .int .u64 0] := by kernel_rfl

/-- clear of one thing. -/
theorem clear_blk {w : World} {b : Nat} {cur : Array Value} (h : Blk w b cur) (o c : Nat) (ho : o + 2 ≤ cur.size) (ty : TypeId) :
    ∃ w', (Builtin.clear_ #[22] ty #[.slice (some ⟨b, o, none⟩) 1 c]).run Try.prog w = .ok (.tuple #[]) w' ∧ (w.grownBy w' (some b) ∧ ∃ cur', Blk w' b cur' ∧ Over cur o [.int .u64 0, .int .u64 0] cur') := by
  obtain ⟨r1, r2, r3⟩ := blk_stores h o [.int .u64 0, .int .u64 0] (by exact ho) (by simp [Value.oneCell'])
  refine ⟨_, ?_, r2, r3⟩
  simp [Builtin.clear_, run_underlying Try.underlying22, zero51, zc51, r1]

section
variable {pr : Program} {ops : Array Oper} {rest : List Oper} {o : Oper} {a : Act} {K : Act → World → Prop} {Q : Exit → Act → World → Prop} {E : Prop} {w : World}
theorem wpList_clearR (hgd : o.guard = none) (s : Operand) (t : TypeId) (ho : o.op = .call { callee := .builtin .clear, args := #[s], argTypes := #[t] }) {v : Value} (hs : a.eval s = v) {R : World → Prop}
    (hr : ∃ w', (Builtin.clear_ #[t] o.type #[v]).run pr w = .ok (.tuple #[]) w' ∧ R w') (hK : ∀ w', R w' → wpList pr ops Q rest (a.put o.dst (.tuple #[])) w') : wpList pr ops Q (o :: rest) a w := by
  refine wpList_plain hgd fun K' hK' => ?_
  obtain ⟨w', h1, h2⟩ := hr
  unfold Oper.wp execOp
  simp only [ho, resolve, invoke, builtin, Sem.run_bind, Sem.run_pure, Result.andThen_ok, List.map_toArray, List.map_cons, List.map_nil, hs, h1]
  exact hK' _ _ (hK _ h2)
end

theorem del_cells {cur c1 c2 : Array Value} {off n i : Nat} {L : List Th} (hL : L.length = n) (hi : i < n) (h4 : ∀ j, j < n * 2 → cur[off + j]? = (cells2 L)[j]?)
    (o1 : Over cur (off + i * 2) ((cells2 L).drop ((i + 1) * 2)) c1) (o2 : Over c1 (off + (n - 1) * 2) [.int .u64 0, .int .u64 0] c2) : ∀ j, j < (n - 1) * 2 → c2[off + j]? = (cells2 (delL L i))[j]? := by
  intro j hj
  have hd : ((cells2 L).drop ((i + 1) * 2)).length = n * 2 - (i + 1) * 2 := by rw [List.length_drop, cells2_len, hL]
  rw [delL_get L i (by omega) j, o2.2, o1.2, hd, if_neg (by simp only [List.length_cons, List.length_nil]; omega)]
  by_cases h1 : j < i * 2
  · rw [if_pos h1, if_neg (by omega)]
    exact h4 j (by omega)
  · rw [if_neg h1, if_pos (by omega), List.getElem?_drop]
    congr 1; omega

set_option maxHeartbeats 4000000 in
set_option maxRecDepth 100000 in
theorem delete_any {w : World} {b off n cap i : Nat} {L : List Th} (h : Sl w 51 2 (.slice (some ⟨b, off, none⟩) n cap) n (cells2 L)) (hL : L.length = n) (hn : n ≤ 1000) (hi : i < n) :
    Calls Try.prog 49 #[.slice (some ⟨b, off, none⟩) n cap, i64 i, i64 ((i : Int) + 1)] w fun e w' => e = .returned (.slice (some ⟨b, off, none⟩) (n - 1) cap) ∧ Sl w' 51 2 (.slice (some ⟨b, off, none⟩) (n - 1) cap) (delL L i).length (cells2 (delL L i)) ∧ w.grownBy w' (some b) := by
  rcases h.2.2 with ⟨hv, rfl⟩ | ⟨b', off', cap', cur, hv, hh, h1, h2, h3, h4⟩
  · cases hv
  simp only [Value.slice.injEq, Option.some.injEq, Addr.mk.injEq, and_true, true_and] at hv
  obtain ⟨⟨rfl, rfl⟩, rfl⟩ := hv
  have hcl : (cells2 L).length = n * 2 := by rw [cells2_len, hL]
  have hcap2 : n * 2 ≤ cap * 2 := Nat.mul_le_mul_right _ h1
  obtain ⟨ii, z, hii, hz, hzc, hs, h8⟩ := info51p
  obtain ⟨A, hA, hsrc⟩ : ∃ A : Addr, (if cap = i + 1 then (some (⟨b, off, none⟩ : Addr)) else some ⟨b, off + (i + 1) * 2, none⟩) = some A ∧ ∀ W : World, W.heap = w.heap → Src Try.prog 2 22 (.slice (some A) (n - (i + 1)) (cap - (i + 1))) (n - (i + 1)) ((cells2 L).drop ((i + 1) * 2)) W := by
    by_cases hc : cap = i + 1
    · refine ⟨⟨b, off, none⟩, by simp [hc], fun W hW => Src.ofSlice W Try.underlying22 _ _ _ _ (by rw [List.length_drop, hcl]; omega) (fun j u hj => ?_) (fun u hu => cells2_one L u (List.mem_of_mem_drop hu))⟩
      have := (List.getElem?_eq_some_iff.1 hj).1
      rw [List.length_drop, hcl] at this
      omega
    · refine ⟨⟨b, off + (i + 1) * 2, none⟩, by simp [hc], fun W hW => Src.ofSlice W Try.underlying22 _ _ _ _ (by rw [List.length_drop, hcl]; omega) (fun j u hj => ?_) (fun u hu => cells2_one L u (List.mem_of_mem_drop hu))⟩
      rw [List.getElem?_drop] at hj
      have hjl := (List.getElem?_eq_some_iff.1 hj).1
      rw [Addr.add_lit]
      simp only [World.cell?, hW, hh]
      show cur[off + (i + 1) * 2 + j]? = some u
      rw [Nat.add_assoc, h4 _ (by omega)]; exact hj
  have APP : ∀ W : World, W.heap = w.heap → W.os = w.os → W.tape = w.tape → W.output = w.output → ∀ ty, ∃ ad4 cap4 w4, (Builtin.append_ #[22, 22] ty #[.slice (some ⟨b, off, none⟩) i cap, .slice (some A) (n - (i + 1)) (cap - (i + 1))]).run Try.prog W = .ok (.slice ad4 (n - 1) cap4) w4 ∧
      (ad4 = some ⟨b, off, none⟩ ∧ cap4 = cap ∧ w.grownBy w4 (some b) ∧ ∃ c1, Blk w4 b c1 ∧ Over cur (off + i * 2) ((cells2 L).drop ((i + 1) * 2)) c1) := fun W hW g1 g2 g3 ty => by
    have hblk : Blk W b cur := by unfold Blk; rw [hW]; exact hh
    obtain ⟨r1, r2, r3⟩ := blk_stores hblk (off + i * 2) ((cells2 L).drop ((i + 1) * 2)) (by rw [List.length_drop, hcl]; omega) (fun u hu => cells2_one L u (List.mem_of_mem_drop hu))
    have hsum : i + (n - (i + 1)) = n - 1 := by omega
    have hrun := run_append_room_src (P := Try.prog) W 22 22 ty 51 ii Try.underlying22 hii b off i cap (.slice (some A) (n - (i + 1)) (cap - (i + 1))) (n - (i + 1)) ((cells2 L).drop ((i + 1) * 2)) (by rw [hs]; exact hsrc W hW) (by omega)
      (fun j hj => by
        rw [List.length_drop, hcl] at hj
        simp only [World.cell?, hW, hh]
        show (cur[off + i * ii.size + j]?).isSome = true
        rw [hs, Array.getElem?_eq_getElem (by omega)]; rfl) (fun j hj => by simp [World.frozen?, hW, hh])
    rw [hsum, hs] at hrun
    refine ⟨_, _, _, hrun, rfl, rfl, ⟨r2.os.trans g1, r2.tape.trans g2, r2.output.trans g3, by rw [← hW]; exact r2.size, fun k hk hne => by rw [← hW]; exact r2.block k (by rw [hW]; exact hk) hne⟩, r3⟩
  have HA := Lib.hid APP
  have HL := Lib.hid hL
  have H4 := Lib.hid h4
  have H3 := Lib.hid h3
  have H2 := Lib.hid h2
  have HIA := Lib.hid hA
  have q1 : ((i : Int) == (i : Int) + 1) = false := by simp; omega
  have q3 : (i : Int) ≤ (i : Int) + 1 := by omega
  have q4 : ¬ (cap = n - 1) := by omega
  have q9 : IntKind.i64.wrap ((i : Int) + 1) = (i : Int) + 1 := by rw [IntKind.wrap_i64]; omega
  have q10 : (0 : Int) ≤ (i : Int) + 1 := by omega
  have q11 : ((i : Int) + 1).toNat = i + 1 := by omega
  have q12 : (i : Int) + 1 ≤ (n : Int) := by omega
  have q13 : (i : Int) ≤ (cap : Int) := by omega
  have q14 : (n : Int) ≤ (cap : Int) := by omega
  clear APP hL h4 h3 h2 hsrc hh h hcl hii hz hzc hs h8
  go_enter Try.func49, Try.ntmps49
  go_wp2_with fail
  go_region_law (first
    | ((with_reducible show (if Region.wanted (Oper.mk _ (Op.call { callee := Callee.builtin Builtin.append, args := _, argTypes := _ }) _ _ _ _) _ = true then _ else _))
       refine step_app rfl (.tmp 22) (.tmp 25) 22 22 rfl (v := .slice (some ⟨b, off, none⟩) i cap) (u := .slice (some A) (n - (i + 1)) (cap - (i + 1))) (by simp [Act.eval, Act.put]) (by simp [Act.eval, Act.put]) (HA.out _ (by rfl) (by rfl) (by rfl) (by rfl) _) ?_
       rintro ad4 cap4 w4 ⟨rfl, rfl, H⟩
       have H5 := Lib.hid H
       clear H))
  all_goals
    have q20 : (n : Int) - 1 ≤ (n : Int) := by omega
    have q21 : ((n - 1 : Nat) : Int) = (n : Int) - 1 := by omega
    have q22 : ((n - 1 : Nat) : Int) ≤ (n : Int) := by omega
    have q23 : n - (n - 1) = 1 := by omega
    have CLR := Lib.hid (show ∀ ty, ∃ w6, (Builtin.clear_ #[22] ty #[.slice (some ⟨b, off + (n - 1) * 2, none⟩) 1 (cap4 - (n - 1))]).run Try.prog w4 = .ok (.tuple #[]) w6 ∧ (w.grownBy w6 (some b) ∧ ∃ c1 c2, Over cur (off + i * 2) ((cells2 L).drop ((i + 1) * 2)) c1 ∧ Blk w6 b c2 ∧ Over c1 (off + (n - 1) * 2) [.int .u64 0, .int .u64 0] c2) from fun ty => by
      obtain ⟨g5, c1, k1, k2⟩ := H5.out
      obtain ⟨w6, r6, g6, c2, k4, k5⟩ := clear_blk k1 (off + (n - 1) * 2) (cap4 - (n - 1)) (by rw [k2.1]; have := H3.out; omega) ty
      exact ⟨w6, r6, grown_trans g5 g6, c1, c2, k2, k4, k5⟩)
    go_wp2_with ((with_reducible show wpList _ _ _ (Oper.mk _ (Op.call { callee := Callee.builtin Builtin.clear, args := _, argTypes := _ }) _ _ _ _ :: _) _ _); refine wpList_clearR rfl (.tmp 31) 22 rfl rfl (CLR.out _) ?_; rintro w6 H; have H6 := Lib.hid H; clear H)
    go_returns
    obtain ⟨g6, c1, c2, k2, k4, k5⟩ := H6.out
    refine ⟨rfl, ?_, g6⟩
    rw [delL_len L i (by rw [HL.out]; exact hi), HL.out]
    exact ⟨by rw [cells2_len, delL_len L i (by rw [HL.out]; exact hi), HL.out], cells2_one _, .inr ⟨b, off, cap4, c2, rfl, k4, by omega, H2.out, by rw [k5.1, k2.1]; exact H3.out, del_cells HL.out hi H4.out k2 k5⟩⟩
end Go.Proofs.Ytphfcfnbefikiaa
