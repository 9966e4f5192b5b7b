/- The document's Things, of a stack and a queue; in all. -/
import Derived.Test.YtphfcfnbefikiaaS3
namespace Go.Proofs.Ytphfcfnbefikiaa
open Go.RowKit
set_option linter.unusedVariables false
set_option linter.unusedSimpArgs false

set_option maxHeartbeats 8000000 in
theorem rthings_1 {Y : Nat} {u : Value} {Q : List Pu} (w : World) (h : Re w Y u 1 Q) (hn : Q.length ≤ 1000) :
    Calls Try.prog 19 #[P Y] w fun e w' => ∃ ad cap m, e = .returned (.slice ad m cap) ∧ OwnSl w.heap.size w' (.slice ad m cap) m (tupto 1 Q) ∧ Below w.heap.size w w' := by
  obtain ⟨adq, capq, rfl, _⟩ := h.sl.form
  obtain ⟨n, hQ⟩ : ∃ n, Q.length = n := ⟨_, rfl⟩
  have c0 := h.c0
  have hv := h.hv
  have hsl := h.sl
  have hY := h.ltY
  have MAP := Lib.hid (fun W => rmap_any 1 W)
  rw [show isMap 1 = false from rfl] at MAP
  rw [hQ] at hn hv hsl
  have HSL := Lib.hid hsl
  have HQ := Lib.hid hQ
  have C0 := Lib.hid c0
  have HV := Lib.hid hv
  clear h hsl hQ
  go_enter Try.func19, Try.ntmps19
  go_wp2_with fail
  go_loopw [3, 4] (fun a b wr => ∃ (i m : Nat) (ad : Option Addr) (cap : Nat), b = i64 i ∧ a = .slice ad m cap ∧ i ≤ n ∧ OwnSl w.heap.size wr (.slice ad m cap) m (tupto 1 (Q.take i)) ∧ Below w.heap.size w wr) (fun a b _ => n - (intOf b).toNat)
  case atStart => exact ⟨0, 0, none, 0, rfl, rfl, by omega, ⟨rfl, Sl.nil _ _ _, fun b hb => by cases hb⟩, Below.refl _ _⟩
  case round =>
    obtain ⟨i, m, ad, cap, rfl, rfl, hi, ho, hb⟩ := hrel
    have HO := Lib.hid ho
    have HB := Lib.hid hb
    have c0 : wr.cell? ⟨Y, 0, none⟩ = some (.int .i64 1) := keep HB.out C0.out
    have hv : wr.cell? ⟨Y, 1, none⟩ = some (.slice adq n capq) := keep HB.out HV.out
    have hY : Y < wr.heap.size := World.block_lt_of_cell? _ _ c0
    clear ho hb
    by_cases hlt : i < n
    · have hlt' : (i : Int) < (n : Int) := by omega
      obtain ⟨p, hp⟩ : ∃ p, Q[i]? = some p := ⟨_, List.getElem?_eq_getElem (by rw [HQ.out]; exact hlt)⟩
      obtain ⟨b, off, rfl, hbl, y1, y2, y3, y4⟩ := put_cells HSL.out HQ.out hp
      have x1 := keep HB.out y1
      have x2 := keep HB.out y2
      have x3 := keep HB.out y3
      have hbl' : b < wr.heap.size := World.block_lt_of_cell? _ _ x1
      obtain ⟨⟨t1, t2⟩, pg⟩ := p
      simp only at x1 x2 x3
      have HT := Lib.hid (show tupto 1 (Q.take (i + 1)) = tstep 1 (tupto 1 (Q.take i)) ((t1, t2), pg) by rw [List.take_add_one, hp]; exact tupto_snoc _ _ _)
      clear hp y1 y2 y3 y4 hbl
      cases pg with
      | true =>
        go_wp2
        go_roundw
        case rel => exact ⟨i + 1, m, ad, cap, by first | rfl | simp, rfl, by omega, by rw [HT.out]; exact HO.out, HB.out⟩
        case measure => simp [intOf]; omega
      | false =>
        have hml : m ≤ 1000 := by
          have h1 := HO.out.1
          have h2 := tupto_len 1 (Q.take i)
          rw [List.length_take] at h2
          omega
        obtain ⟨L, hLe⟩ : ∃ L, tupto 1 (Q.take i) = L := ⟨_, rfl⟩
        rw [hLe] at HO HT
        clear hLe
        rename World => wo
        rcases HO.out.2.1.2.2 with ⟨hnil, hm0⟩ | ⟨b2, off2, cap2, cur2, hsome, -⟩
        · subst hm0
          simp only [Value.slice.injEq, true_and] at hnil
          obtain ⟨rfl, rfl⟩ := hnil
          have hL0 : L = [] := by have := HO.out.1; simpa using this
          subst hL0
          have ATE := Lib.hid (show atOf 1 [] (t1, t2) = 0 by have := atOf_le 1 [] (t1, t2); simpa using this)
          have T1 := Lib.hid (fun (W : World) (hb : Below wo.heap.size wo W) => tell1 (M := []) hb (Sl.nil wo 51 2) rfl (by omega))
          have X3 := Lib.hid (Sl.nil wo 51 2)
          have X3L := Lib.hid (show ([] : List Th).length = 0 from rfl)
          have AT1 := Lib.hid (show 0 ≤ 1000 by omega)
          have AT2 := Lib.hid (show 0 + 0 = 0 by omega)
          have AT3 := Lib.hid (show 0 ≤ 1000 by omega)
          clear hml
          go_wp2_with fail
          refine (MAP.out _).mono ?_
          rintro e w9 ⟨rfl, rfl⟩
          go_wp2_with fail
          go_region_law (first
                    | ((with_reducible show (if Region.wanted (Oper.mk _ (Op.call { callee := Callee.builtin Builtin.append, args := #[.const _, .tmp 62], argTypes := _ }) _ _ _ _) _ = true then _ else _))
                       refine step_app rfl (.const (.slice none 0 0)) (.tmp 62) 22 22 rfl (v := .slice none 0 0) (u := .slice none 0 0) (by simp [Act.eval, Act.put]) (by simp [Act.eval, Act.put]) (T1.out _ (by first | (go_grown; done) | exact below_like (W' := wo.alloc _) (by go_grown) rfl rfl rfl rfl | exact below_like (W' := (wo.alloc _).alloc _) (by go_grown) rfl rfl rfl rfl) _) ?_
                       rintro ad1 cap1 w4 H
                       have G1 := Lib.hid H
                       have g5 := H.2.1.size
                       have e1 := keep G1.out.2.2 (p := ⟨wo.heap.size, 0, none⟩) (v := .int .u64 t1) (by simp [go_sem])
                       have e2 := keep G1.out.2.2 (p := ⟨wo.heap.size, 1, none⟩) (v := .int .u64 t2) (by simp [go_sem])
                       have e3 : wo.heap.size < w4.heap.size := World.block_lt_of_cell? _ _ e1
                       clear H)
                    | ((with_reducible show (if Region.wanted (Oper.mk _ (Op.call { callee := Callee.builtin Builtin.append, args := #[.tmp 63, .tmp 65], argTypes := _ }) _ _ _ _) _ = true then _ else _))
                       refine step_app rfl (.tmp 63) (.tmp 65) 22 22 rfl (v := .slice ad1 0 cap1) (u := .slice (some ⟨w4.heap.size, 0, none⟩) 1 1) (by simp [Act.eval, Act.put]) (by simp [Act.eval, Act.put]) (tell2 (t := (t1, t2)) G1.out.1 G1.out.2.1 (by go_grown) (by exact heap_alloc_new _ _) (by first | exact AT1.out | omega) _) ?_
                       rintro ad2 cap2 w5 H
                       have G2 := Lib.hid H
                       have g6 := H.2.size
                       clear H)
                    | ((with_reducible show (if Region.wanted (Oper.mk _ (Op.call { callee := Callee.builtin Builtin.append, args := #[.tmp 63, .tmp 65], argTypes := _ }) _ _ _ _) _ = true then _ else _))
                       refine step_app rfl (.tmp 63) (.tmp 65) 22 22 rfl (v := .slice ad1 0 cap1) (u := .slice (some ⟨wo.heap.size + 1, 0, none⟩) 1 1) (by simp [Act.eval, Act.put]) (by simp [Act.eval, Act.put]) (tell2 (t := (t1, t2)) G1.out.1 G1.out.2.1 (by go_grown) (by exact (G1.out.2.2.block _ (by simp)).trans (alloc2_heap wo _ _)) (by first | exact AT1.out | omega) _) ?_
                       rintro ad2 cap2 w5 H
                       have G2 := Lib.hid H
                       have g6 := H.2.size
                       clear H)
                    | ((with_reducible show (if Region.wanted (Oper.mk _ (Op.call { callee := Callee.builtin Builtin.append, args := #[.tmp 66, .tmp 69], argTypes := _ }) _ _ _ _) _ = true then _ else _))
                       refine step_app rfl (.tmp 66) (.tmp 69) 22 22 rfl (v := .slice ad2 (0 + 1) cap2) (u := .slice none 0 0) (by simp [Act.eval, Act.put]) (by simp [Act.eval, Act.put]) (tell3 (at_ := 0) (m := 0) G2.out.1 G2.out.2 (by go_grown) X3.out X3L.out (by first | exact AT2.out | omega) (by first | exact AT3.out | omega) _) ?_
                       rintro ad3 cap3 w6 H
                       have G3 := Lib.hid H
                       clear H))
          all_goals
            go_wp2
            go_roundw
            case rel =>
              refine ⟨i + 1, 0 + 1, ad3, cap3, by first | rfl | simp, rfl, by omega, ?_, HB.out.trans (G3.out.2.mono HB.out.size)⟩
              obtain ⟨z1, z2, z3⟩ := G3.out.1
              rw [HT.out]
              exact ⟨by rw [tstep_eq ATE.out]; exact z1, by rw [tstep_eq ATE.out]; exact z2, fun k hk => Nat.le_trans HB.out.size (z3 k hk)⟩
            case measure => simp [intOf]; omega
        · simp only [Value.slice.injEq, true_and] at hsome
          obtain ⟨rfl, rfl⟩ := hsome
          have hcapm : m ≤ cap := by
            obtain ⟨ad', cap', hv', hle'⟩ := HO.out.2.1.form
            simp only [Value.slice.injEq, true_and] at hv'
            obtain ⟨-, rfl⟩ := hv'
            exact hle'
          have LL := HO.out.1
          have SLO := HO.out.2.1
          have ATE := Lib.hid (show atOf 1 L (t1, t2) = 0 from (by unfold atOf; rw [if_pos rfl]))
          have T1 := Lib.hid (fun (W : World) (hb : Below wo.heap.size wo W) => tell1 (M := L.take 0) hb (SLO.take2 0 (by omega) (by simp)) (by simp) (by omega))
          have X3 := Lib.hid SLO
          have X3L := Lib.hid (show (L.drop 0).length = m by rw [List.length_drop, LL]; omega)
          have AT1 := Lib.hid (show 0 ≤ 1000 by omega)
          have AT2 := Lib.hid (show 0 + (m) = m by omega)
          have AT3 := Lib.hid (show m ≤ 1000 by omega)
          clear LL SLO
          go_wp2_with fail
          refine (MAP.out _).mono ?_
          rintro e w9 ⟨rfl, rfl⟩
          go_wp2_with fail
          go_region_law (first
                    | ((with_reducible show (if Region.wanted (Oper.mk _ (Op.call { callee := Callee.builtin Builtin.append, args := #[.const _, .tmp 62], argTypes := _ }) _ _ _ _) _ = true then _ else _))
                       refine step_app rfl (.const (.slice none 0 0)) (.tmp 62) 22 22 rfl (v := .slice none 0 0) (u := .slice (some ⟨b2, off2, none⟩) 0 cap) (by simp [Act.eval, Act.put]) (by simp [Act.eval, Act.put]) (T1.out _ (by first | (go_grown; done) | exact below_like (W' := wo.alloc _) (by go_grown) rfl rfl rfl rfl | exact below_like (W' := (wo.alloc _).alloc _) (by go_grown) rfl rfl rfl rfl) _) ?_
                       rintro ad1 cap1 w4 H
                       have G1 := Lib.hid H
                       have g5 := H.2.1.size
                       have e1 := keep G1.out.2.2 (p := ⟨wo.heap.size, 0, none⟩) (v := .int .u64 t1) (by simp [go_sem])
                       have e2 := keep G1.out.2.2 (p := ⟨wo.heap.size, 1, none⟩) (v := .int .u64 t2) (by simp [go_sem])
                       have e3 : wo.heap.size < w4.heap.size := World.block_lt_of_cell? _ _ e1
                       clear H)
                    | ((with_reducible show (if Region.wanted (Oper.mk _ (Op.call { callee := Callee.builtin Builtin.append, args := #[.tmp 63, .tmp 65], argTypes := _ }) _ _ _ _) _ = true then _ else _))
                       refine step_app rfl (.tmp 63) (.tmp 65) 22 22 rfl (v := .slice ad1 0 cap1) (u := .slice (some ⟨w4.heap.size, 0, none⟩) 1 1) (by simp [Act.eval, Act.put]) (by simp [Act.eval, Act.put]) (tell2 (t := (t1, t2)) G1.out.1 G1.out.2.1 (by go_grown) (by exact heap_alloc_new _ _) (by first | exact AT1.out | omega) _) ?_
                       rintro ad2 cap2 w5 H
                       have G2 := Lib.hid H
                       have g6 := H.2.size
                       clear H)
                    | ((with_reducible show (if Region.wanted (Oper.mk _ (Op.call { callee := Callee.builtin Builtin.append, args := #[.tmp 63, .tmp 65], argTypes := _ }) _ _ _ _) _ = true then _ else _))
                       refine step_app rfl (.tmp 63) (.tmp 65) 22 22 rfl (v := .slice ad1 0 cap1) (u := .slice (some ⟨wo.heap.size + 1, 0, none⟩) 1 1) (by simp [Act.eval, Act.put]) (by simp [Act.eval, Act.put]) (tell2 (t := (t1, t2)) G1.out.1 G1.out.2.1 (by go_grown) (by exact (G1.out.2.2.block _ (by simp)).trans (alloc2_heap wo _ _)) (by first | exact AT1.out | omega) _) ?_
                       rintro ad2 cap2 w5 H
                       have G2 := Lib.hid H
                       have g6 := H.2.size
                       clear H)
                    | ((with_reducible show (if Region.wanted (Oper.mk _ (Op.call { callee := Callee.builtin Builtin.append, args := #[.tmp 66, .tmp 69], argTypes := _ }) _ _ _ _) _ = true then _ else _))
                       refine step_app rfl (.tmp 66) (.tmp 69) 22 22 rfl (v := .slice ad2 (0 + 1) cap2) (u := .slice (some ⟨b2, off2, none⟩) m cap) (by simp [Act.eval, Act.put]) (by simp [Act.eval, Act.put]) (tell3 (at_ := 0) (m := m) G2.out.1 G2.out.2 (by go_grown) X3.out X3L.out (by first | exact AT2.out | omega) (by first | exact AT3.out | omega) _) ?_
                       rintro ad3 cap3 w6 H
                       have G3 := Lib.hid H
                       clear H))
          all_goals
            go_wp2
            go_roundw
            case rel =>
              refine ⟨i + 1, m + 1, ad3, cap3, by first | rfl | simp, rfl, by omega, ?_, HB.out.trans (G3.out.2.mono HB.out.size)⟩
              obtain ⟨z1, z2, z3⟩ := G3.out.1
              rw [HT.out]
              exact ⟨by rw [tstep_eq ATE.out]; exact z1, by rw [tstep_eq ATE.out]; exact z2, fun k hk => Nat.le_trans HB.out.size (z3 k hk)⟩
            case measure => simp [intOf]; omega
    · have hge : (n : Int) ≤ (i : Int) := by omega
      obtain rfl : i = n := by omega
      go_wp2
      go_returns
      have ho := HO.out
      rw [List.take_of_length_le (by rw [HQ.out]; omega)] at ho
      exact ⟨ad, cap, m, rfl, ho, HB.out⟩

set_option maxHeartbeats 8000000 in
theorem rthings_2 {Y : Nat} {u : Value} {Q : List Pu} (w : World) (h : Re w Y u 2 Q) (hn : Q.length ≤ 1000) :
    Calls Try.prog 19 #[P Y] w fun e w' => ∃ ad cap m, e = .returned (.slice ad m cap) ∧ OwnSl w.heap.size w' (.slice ad m cap) m (tupto 2 Q) ∧ Below w.heap.size w w' := by
  obtain ⟨adq, capq, rfl, _⟩ := h.sl.form
  obtain ⟨n, hQ⟩ : ∃ n, Q.length = n := ⟨_, rfl⟩
  have c0 := h.c0
  have hv := h.hv
  have hsl := h.sl
  have hY := h.ltY
  have MAP := Lib.hid (fun W => rmap_any 2 W)
  rw [show isMap 2 = false from rfl] at MAP
  rw [hQ] at hn hv hsl
  have HSL := Lib.hid hsl
  have HQ := Lib.hid hQ
  have C0 := Lib.hid c0
  have HV := Lib.hid hv
  clear h hsl hQ
  go_enter Try.func19, Try.ntmps19
  go_wp2_with fail
  go_loopw [3, 4] (fun a b wr => ∃ (i m : Nat) (ad : Option Addr) (cap : Nat), b = i64 i ∧ a = .slice ad m cap ∧ i ≤ n ∧ OwnSl w.heap.size wr (.slice ad m cap) m (tupto 2 (Q.take i)) ∧ Below w.heap.size w wr) (fun a b _ => n - (intOf b).toNat)
  case atStart => exact ⟨0, 0, none, 0, rfl, rfl, by omega, ⟨rfl, Sl.nil _ _ _, fun b hb => by cases hb⟩, Below.refl _ _⟩
  case round =>
    obtain ⟨i, m, ad, cap, rfl, rfl, hi, ho, hb⟩ := hrel
    have HO := Lib.hid ho
    have HB := Lib.hid hb
    have c0 : wr.cell? ⟨Y, 0, none⟩ = some (.int .i64 2) := keep HB.out C0.out
    have hv : wr.cell? ⟨Y, 1, none⟩ = some (.slice adq n capq) := keep HB.out HV.out
    have hY : Y < wr.heap.size := World.block_lt_of_cell? _ _ c0
    clear ho hb
    by_cases hlt : i < n
    · have hlt' : (i : Int) < (n : Int) := by omega
      obtain ⟨p, hp⟩ : ∃ p, Q[i]? = some p := ⟨_, List.getElem?_eq_getElem (by rw [HQ.out]; exact hlt)⟩
      obtain ⟨b, off, rfl, hbl, y1, y2, y3, y4⟩ := put_cells HSL.out HQ.out hp
      have x1 := keep HB.out y1
      have x2 := keep HB.out y2
      have x3 := keep HB.out y3
      have hbl' : b < wr.heap.size := World.block_lt_of_cell? _ _ x1
      obtain ⟨⟨t1, t2⟩, pg⟩ := p
      simp only at x1 x2 x3
      have HT := Lib.hid (show tupto 2 (Q.take (i + 1)) = tstep 2 (tupto 2 (Q.take i)) ((t1, t2), pg) by rw [List.take_add_one, hp]; exact tupto_snoc _ _ _)
      clear hp y1 y2 y3 y4 hbl
      cases pg with
      | true =>
        go_wp2
        go_roundw
        case rel => exact ⟨i + 1, m, ad, cap, by first | rfl | simp, rfl, by omega, by rw [HT.out]; exact HO.out, HB.out⟩
        case measure => simp [intOf]; omega
      | false =>
        have hml : m ≤ 1000 := by
          have h1 := HO.out.1
          have h2 := tupto_len 2 (Q.take i)
          rw [List.length_take] at h2
          omega
        obtain ⟨L, hLe⟩ : ∃ L, tupto 2 (Q.take i) = L := ⟨_, rfl⟩
        rw [hLe] at HO HT
        clear hLe
        rename World => wo
        rcases HO.out.2.1.2.2 with ⟨hnil, hm0⟩ | ⟨b2, off2, cap2, cur2, hsome, -⟩
        · subst hm0
          simp only [Value.slice.injEq, true_and] at hnil
          obtain ⟨rfl, rfl⟩ := hnil
          have hL0 : L = [] := by have := HO.out.1; simpa using this
          subst hL0
          have ATE := Lib.hid (show atOf 2 [] (t1, t2) = 0 by have := atOf_le 2 [] (t1, t2); simpa using this)
          have T1 := Lib.hid (fun (W : World) (hb : Below wo.heap.size wo W) => tell1 (M := []) hb (Sl.nil wo 51 2) rfl (by omega))
          have X3 := Lib.hid (Sl.nil wo 51 2)
          have X3L := Lib.hid (show ([] : List Th).length = 0 from rfl)
          have AT1 := Lib.hid (show 0 ≤ 1000 by omega)
          have AT2 := Lib.hid (show 0 + 0 = 0 by omega)
          have AT3 := Lib.hid (show 0 ≤ 1000 by omega)
          clear hml
          go_wp2_with fail
          refine (MAP.out _).mono ?_
          rintro e w9 ⟨rfl, rfl⟩
          go_wp2_with fail
          go_region_law (first
                    | ((with_reducible show (if Region.wanted (Oper.mk _ (Op.call { callee := Callee.builtin Builtin.append, args := #[.const _, .tmp 62], argTypes := _ }) _ _ _ _) _ = true then _ else _))
                       refine step_app rfl (.const (.slice none 0 0)) (.tmp 62) 22 22 rfl (v := .slice none 0 0) (u := .slice none 0 0) (by simp [Act.eval, Act.put]) (by simp [Act.eval, Act.put]) (T1.out _ (by first | (go_grown; done) | exact below_like (W' := wo.alloc _) (by go_grown) rfl rfl rfl rfl | exact below_like (W' := (wo.alloc _).alloc _) (by go_grown) rfl rfl rfl rfl) _) ?_
                       rintro ad1 cap1 w4 H
                       have G1 := Lib.hid H
                       have g5 := H.2.1.size
                       have e1 := keep G1.out.2.2 (p := ⟨wo.heap.size, 0, none⟩) (v := .int .u64 t1) (by simp [go_sem])
                       have e2 := keep G1.out.2.2 (p := ⟨wo.heap.size, 1, none⟩) (v := .int .u64 t2) (by simp [go_sem])
                       have e3 : wo.heap.size < w4.heap.size := World.block_lt_of_cell? _ _ e1
                       clear H)
                    | ((with_reducible show (if Region.wanted (Oper.mk _ (Op.call { callee := Callee.builtin Builtin.append, args := #[.tmp 63, .tmp 65], argTypes := _ }) _ _ _ _) _ = true then _ else _))
                       refine step_app rfl (.tmp 63) (.tmp 65) 22 22 rfl (v := .slice ad1 0 cap1) (u := .slice (some ⟨w4.heap.size, 0, none⟩) 1 1) (by simp [Act.eval, Act.put]) (by simp [Act.eval, Act.put]) (tell2 (t := (t1, t2)) G1.out.1 G1.out.2.1 (by go_grown) (by exact heap_alloc_new _ _) (by first | exact AT1.out | omega) _) ?_
                       rintro ad2 cap2 w5 H
                       have G2 := Lib.hid H
                       have g6 := H.2.size
                       clear H)
                    | ((with_reducible show (if Region.wanted (Oper.mk _ (Op.call { callee := Callee.builtin Builtin.append, args := #[.tmp 63, .tmp 65], argTypes := _ }) _ _ _ _) _ = true then _ else _))
                       refine step_app rfl (.tmp 63) (.tmp 65) 22 22 rfl (v := .slice ad1 0 cap1) (u := .slice (some ⟨wo.heap.size + 1, 0, none⟩) 1 1) (by simp [Act.eval, Act.put]) (by simp [Act.eval, Act.put]) (tell2 (t := (t1, t2)) G1.out.1 G1.out.2.1 (by go_grown) (by exact (G1.out.2.2.block _ (by simp)).trans (alloc2_heap wo _ _)) (by first | exact AT1.out | omega) _) ?_
                       rintro ad2 cap2 w5 H
                       have G2 := Lib.hid H
                       have g6 := H.2.size
                       clear H)
                    | ((with_reducible show (if Region.wanted (Oper.mk _ (Op.call { callee := Callee.builtin Builtin.append, args := #[.tmp 66, .tmp 69], argTypes := _ }) _ _ _ _) _ = true then _ else _))
                       refine step_app rfl (.tmp 66) (.tmp 69) 22 22 rfl (v := .slice ad2 (0 + 1) cap2) (u := .slice none 0 0) (by simp [Act.eval, Act.put]) (by simp [Act.eval, Act.put]) (tell3 (at_ := 0) (m := 0) G2.out.1 G2.out.2 (by go_grown) X3.out X3L.out (by first | exact AT2.out | omega) (by first | exact AT3.out | omega) _) ?_
                       rintro ad3 cap3 w6 H
                       have G3 := Lib.hid H
                       clear H))
          all_goals
            go_wp2
            go_roundw
            case rel =>
              refine ⟨i + 1, 0 + 1, ad3, cap3, by first | rfl | simp, rfl, by omega, ?_, HB.out.trans (G3.out.2.mono HB.out.size)⟩
              obtain ⟨z1, z2, z3⟩ := G3.out.1
              rw [HT.out]
              exact ⟨by rw [tstep_eq ATE.out]; exact z1, by rw [tstep_eq ATE.out]; exact z2, fun k hk => Nat.le_trans HB.out.size (z3 k hk)⟩
            case measure => simp [intOf]; omega
        · simp only [Value.slice.injEq, true_and] at hsome
          obtain ⟨rfl, rfl⟩ := hsome
          have hcapm : m ≤ cap := by
            obtain ⟨ad', cap', hv', hle'⟩ := HO.out.2.1.form
            simp only [Value.slice.injEq, true_and] at hv'
            obtain ⟨-, rfl⟩ := hv'
            exact hle'
          have LL := HO.out.1
          have SLO := HO.out.2.1
          obtain ⟨A, hA, hrest⟩ := SLO.rest LL m (by omega)
          rw [Nat.sub_self] at hrest
          have hmc : (m : Int) ≤ (cap : Int) := by omega
          have ATE := Lib.hid (show atOf 2 L (t1, t2) = m from (by unfold atOf; rw [if_neg (by decide), if_neg (by decide)]; exact LL))
          have T1 := Lib.hid (fun (W : World) (hb : Below wo.heap.size wo W) => tell1 (M := L.take m) hb (SLO.take2 m (by omega) (by simp)) (by rw [List.length_take, LL]; omega) (by omega))
          have X3 := Lib.hid hrest
          have X3L := Lib.hid (show (L.drop m).length = 0 by rw [List.length_drop, LL]; omega)
          have AT1 := Lib.hid (show m ≤ 1000 by omega)
          have AT2 := Lib.hid (show m + (0) = m by omega)
          have AT3 := Lib.hid (show m ≤ 1000 by omega)
          clear LL SLO
          go_wp2_with fail
          refine (MAP.out _).mono ?_
          rintro e w9 ⟨rfl, rfl⟩
          go_wp2_with fail
          go_region_law (first
                    | ((with_reducible show (if Region.wanted (Oper.mk _ (Op.call { callee := Callee.builtin Builtin.append, args := #[.const _, .tmp 62], argTypes := _ }) _ _ _ _) _ = true then _ else _))
                       refine step_app rfl (.const (.slice none 0 0)) (.tmp 62) 22 22 rfl (v := .slice none 0 0) (u := .slice (some ⟨b2, off2, none⟩) m cap) (by simp [Act.eval, Act.put]) (by simp [Act.eval, Act.put]) (T1.out _ (by first | (go_grown; done) | exact below_like (W' := wo.alloc _) (by go_grown) rfl rfl rfl rfl | exact below_like (W' := (wo.alloc _).alloc _) (by go_grown) rfl rfl rfl rfl) _) ?_
                       rintro ad1 cap1 w4 H
                       have G1 := Lib.hid H
                       have g5 := H.2.1.size
                       have e1 := keep G1.out.2.2 (p := ⟨wo.heap.size, 0, none⟩) (v := .int .u64 t1) (by simp [go_sem])
                       have e2 := keep G1.out.2.2 (p := ⟨wo.heap.size, 1, none⟩) (v := .int .u64 t2) (by simp [go_sem])
                       have e3 : wo.heap.size < w4.heap.size := World.block_lt_of_cell? _ _ e1
                       clear H)
                    | ((with_reducible show (if Region.wanted (Oper.mk _ (Op.call { callee := Callee.builtin Builtin.append, args := #[.tmp 63, .tmp 65], argTypes := _ }) _ _ _ _) _ = true then _ else _))
                       refine step_app rfl (.tmp 63) (.tmp 65) 22 22 rfl (v := .slice ad1 m cap1) (u := .slice (some ⟨w4.heap.size, 0, none⟩) 1 1) (by simp [Act.eval, Act.put]) (by simp [Act.eval, Act.put]) (tell2 (t := (t1, t2)) G1.out.1 G1.out.2.1 (by go_grown) (by exact heap_alloc_new _ _) (by first | exact AT1.out | omega) _) ?_
                       rintro ad2 cap2 w5 H
                       have G2 := Lib.hid H
                       have g6 := H.2.size
                       clear H)
                    | ((with_reducible show (if Region.wanted (Oper.mk _ (Op.call { callee := Callee.builtin Builtin.append, args := #[.tmp 63, .tmp 65], argTypes := _ }) _ _ _ _) _ = true then _ else _))
                       refine step_app rfl (.tmp 63) (.tmp 65) 22 22 rfl (v := .slice ad1 m cap1) (u := .slice (some ⟨wo.heap.size + 1, 0, none⟩) 1 1) (by simp [Act.eval, Act.put]) (by simp [Act.eval, Act.put]) (tell2 (t := (t1, t2)) G1.out.1 G1.out.2.1 (by go_grown) (by exact (G1.out.2.2.block _ (by simp)).trans (alloc2_heap wo _ _)) (by first | exact AT1.out | omega) _) ?_
                       rintro ad2 cap2 w5 H
                       have G2 := Lib.hid H
                       have g6 := H.2.size
                       clear H)
                    | ((with_reducible show (if Region.wanted (Oper.mk _ (Op.call { callee := Callee.builtin Builtin.append, args := #[.tmp 66, .tmp 69], argTypes := _ }) _ _ _ _) _ = true then _ else _))
                       refine step_app rfl (.tmp 66) (.tmp 69) 22 22 rfl (v := .slice ad2 (m + 1) cap2) (u := .slice (some A) 0 (cap - m)) (by simp [Act.eval, Act.put]) (by simp [Act.eval, Act.put]) (tell3 (at_ := m) (m := m) G2.out.1 G2.out.2 (by go_grown) X3.out X3L.out (by first | exact AT2.out | omega) (by first | exact AT3.out | omega) _) ?_
                       rintro ad3 cap3 w6 H
                       have G3 := Lib.hid H
                       clear H))
          all_goals
            go_wp2
            go_roundw
            case rel =>
              refine ⟨i + 1, m + 1, ad3, cap3, by first | rfl | simp, rfl, by omega, ?_, HB.out.trans (G3.out.2.mono HB.out.size)⟩
              obtain ⟨z1, z2, z3⟩ := G3.out.1
              rw [HT.out]
              exact ⟨by rw [tstep_eq ATE.out]; exact z1, by rw [tstep_eq ATE.out]; exact z2, fun k hk => Nat.le_trans HB.out.size (z3 k hk)⟩
            case measure => simp [intOf]; omega
    · have hge : (n : Int) ≤ (i : Int) := by omega
      obtain rfl : i = n := by omega
      go_wp2
      go_returns
      have ho := HO.out
      rw [List.take_of_length_le (by rw [HQ.out]; omega)] at ho
      exact ⟨ad, cap, m, rfl, ho, HB.out⟩

theorem rthings_any {Y : Nat} {u : Value} {c : Int} {Q : List Pu} (h1 : 1 ≤ c) (h2 : c ≤ 6) (w : World) (h : Re w Y u c Q) (hn : Q.length ≤ 1000) :
    Calls Try.prog 19 #[P Y] w fun e w' => ∃ ad cap m, e = .returned (.slice ad m cap) ∧ OwnSl w.heap.size w' (.slice ad m cap) m (things c Q) ∧ Below w.heap.size w w' := by
  rw [← tupto_things]
  by_cases hc1 : c = 1
  · subst hc1; exact rthings_1 w h hn
  by_cases hc2 : c = 2
  · subst hc2; exact rthings_2 w h hn
  exact rthings_map (by unfold isMap; simp; omega) w h hn
end Go.Proofs.Ytphfcfnbefikiaa
