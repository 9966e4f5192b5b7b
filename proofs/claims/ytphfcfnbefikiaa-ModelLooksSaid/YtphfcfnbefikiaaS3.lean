/- The document's Things. -/
import Derived.Test.YtphfcfnbefikiaaS2
namespace Go.Proofs.Ytphfcfnbefikiaa
open Go.RowKit
set_option linter.unusedVariables false
set_option linter.unusedSimpArgs false

theorem below_like {B : Nat} {w W W' : World} (h : Below B w W') (h1 : W.heap = W'.heap) (h2 : W.os = W'.os) (h3 : W.tape = W'.tape) (h4 : W.output = W'.output) : Below B w W :=
  ⟨h2.trans h.os, h3.trans h.tape, h4.trans h.output, by rw [h1]; exact h.size, fun k hk => by rw [h1]; exact h.block k hk⟩

theorem sl_one {W : World} {B : Nat} {t : Th} (h : W.heap[B]? = some (.cells #[.int .u64 t.1, .int .u64 t.2] 51 (0, 0))) : Sl W 51 2 (.slice (some ⟨B, 0, none⟩) 1 1) 1 (cells2 [t]) :=
  ⟨rfl, cells2_one _, .inr ⟨B, 0, 1, _, rfl, h, Nat.le_refl _, by unfold maxLen; omega, by show 0 + 1 * 2 ≤ 2; omega, fun j hj => by
    match j, hj with
    | 0, _ => rfl
    | 1, _ => rfl⟩⟩

/-- the three appends of 'append(append(append(nil, out[:at]...), t), out[at:]...)' -/
theorem tell1 {wr W : World} {at_ capx : Nat} {adx : Option Addr} {M : List Th} (hb : Below wr.heap.size wr W) (hx : Sl wr 51 2 (.slice adx at_ capx) at_ (cells2 M)) (hM : M.length = at_) (hn : at_ ≤ 1000) (ty : TypeId) :
    ∃ ad4 cap4 w4, (Builtin.append_ #[22, 22] ty #[.slice none 0 0, .slice adx at_ capx]).run Try.prog W = .ok (.slice ad4 at_ cap4) w4 ∧ (OwnSl wr.heap.size w4 (.slice ad4 at_ cap4) at_ M ∧ Below wr.heap.size wr w4 ∧ Below W.heap.size W w4) := by
  obtain ⟨i, z, hi, hz, hzc, hs, h8⟩ := info51p
  have hx' := hx.below hb
  have hsrc : Src Try.prog 2 22 (.slice adx at_ capx) at_ (cells2 M) W := ⟨.inl ⟨51, Try.underlying22⟩, fun w' => by simp [Builtin.lenOf], firstCells_sl _ hx', firstCells_sl _ (hx'.kept (w' := W.drew) fun _ _ => rfl), hx'.1, hx'.2.1⟩
  obtain ⟨v', w', h1, h2, h3, h4⟩ := (Sl.nil W 51 2).append (P := Try.prog) 22 22 ty i z 16 Try.underlying22 hi hz hs h8 hzc (.slice adx at_ capx) at_ (cells2 M) hsrc (by unfold maxLen; omega) (by omega)
  obtain ⟨ad4, cap4, rfl, _⟩ := h2.form
  rw [Nat.zero_add] at h1 h2 h4
  rw [List.nil_append] at h2
  have hk : Below W.heap.size W w' := ⟨h3.os, h3.tape, h3.output, h3.size, fun k hk => h3.block k hk (by simp [Value.ownBlock])⟩
  refine ⟨ad4, cap4, w', h1, ⟨hM, h2, fun b hb' => ?_⟩, hb.trans (hk.mono hb.size), hk⟩
  rcases h4 b hb' with e | e
  · cases e
  · have := hb.size; omega
theorem tell2 {wr w4 W : World} {at_ B cap1 : Nat} {ad1 : Option Addr} {M : List Th} {t : Th} (h : OwnSl wr.heap.size w4 (.slice ad1 at_ cap1) at_ M) (hb : Below wr.heap.size wr w4) (hW : Below w4.heap.size w4 W) (hB : W.heap[B]? = some (.cells #[.int .u64 t.1, .int .u64 t.2] 51 (0, 0))) (hn : at_ ≤ 1000) (ty : TypeId) :
    ∃ ad5 cap5 w5, (Builtin.append_ #[22, 22] ty #[.slice ad1 at_ cap1, .slice (some ⟨B, 0, none⟩) 1 1]).run Try.prog W = .ok (.slice ad5 (at_ + 1) cap5) w5 ∧ (OwnSl wr.heap.size w5 (.slice ad5 (at_ + 1) cap5) (at_ + 1) (M ++ [t]) ∧ Below wr.heap.size wr w5) := by
  have hbW : Below wr.heap.size wr W := hb.trans (hW.mono hb.size)
  obtain ⟨ad5, cap5, w5, h1, h2, h3⟩ := app_own hbW (Nat.le_refl _) (h.below hW) (sl_one hB) rfl (by omega) ty rfl
  exact ⟨ad5, cap5, w5, h1, h2, h3⟩
theorem tell3 {wr w5 W : World} {at_ m r cap2 capx : Nat} {ad2 adx : Option Addr} {M N : List Th} (h : OwnSl wr.heap.size w5 (.slice ad2 (at_ + 1) cap2) (at_ + 1) M) (hb : Below wr.heap.size wr w5) (hW : Below w5.heap.size w5 W) (hx : Sl wr 51 2 (.slice adx r capx) r (cells2 N)) (hN : N.length = r) (hle : at_ + r = m) (hn : m ≤ 1000) (ty : TypeId) :
    ∃ ad6 cap6 w6, (Builtin.append_ #[22, 22] ty #[.slice ad2 (at_ + 1) cap2, .slice adx r capx]).run Try.prog W = .ok (.slice ad6 (m + 1) cap6) w6 ∧ (OwnSl wr.heap.size w6 (.slice ad6 (m + 1) cap6) (m + 1) (M ++ N) ∧ Below wr.heap.size wr w6) := by
  have hbW : Below wr.heap.size wr W := hb.trans (hW.mono hb.size)
  exact app_own hbW (Nat.le_refl _) (h.below hW) (hx.below hbW) hN (by omega) ty (by omega)

/-- what stands from a place on, as a slice -/
theorem Sl.from {w : World} {b off m cap : Nat} {L : List Th} (h : Sl w 51 2 (.slice (some ⟨b, off, none⟩) m cap) m (cells2 L)) (hL : L.length = m) (a : Nat) (ha : a ≤ m) (hc : cap ≠ a) : Sl w 51 2 (.slice (some ⟨b, off + a * 2, none⟩) (m - a) (cap - a)) (m - a) (cells2 (L.drop a)) := by
  refine ⟨by rw [cells2_len, List.length_drop, hL], cells2_one _, ?_⟩
  rcases h.2.2 with ⟨hv, _⟩ | ⟨b', off', cap', cur, hv, hh, h1, h2, h3, h4⟩
  · cases hv
  · simp only [Value.slice.injEq, Option.some.injEq, Addr.mk.injEq, and_true, true_and] at hv
    obtain ⟨⟨rfl, rfl⟩, rfl⟩ := hv
    have hsum : a * 2 + (cap - a) * 2 = cap * 2 := by omega
    refine .inr ⟨b, off + a * 2, cap - a, cur, rfl, hh, by omega, by omega, by omega, fun j hj => ?_⟩
    rw [show off + a * 2 + j = off + (a * 2 + j) by omega, h4 _ (by omega), cells2_drop, List.getElem?_drop]
theorem Sl.from0 {w : World} {b off m cap : Nat} {L : List Th} (h : Sl w 51 2 (.slice (some ⟨b, off, none⟩) m cap) m (cells2 L)) (hL : L.length = m) (hc : cap = m) : Sl w 51 2 (.slice (some ⟨b, off, none⟩) 0 0) 0 (cells2 (L.drop m)) := by
  have hd : L.drop m = [] := List.drop_of_length_le (by omega)
  rw [hd]
  refine ⟨rfl, fun u hu => (by cases hu), ?_⟩
  rcases h.2.2 with ⟨hv, _⟩ | ⟨b', off', cap', cur, hv, hh, h1, h2, h3, h4⟩
  · cases hv
  · simp only [Value.slice.injEq, Option.some.injEq, Addr.mk.injEq, and_true, true_and] at hv
    obtain ⟨⟨rfl, rfl⟩, rfl⟩ := hv
    exact .inr ⟨b, off, 0, cur, rfl, hh, by omega, by unfold maxLen; omega, by omega, fun j hj => by omega⟩
theorem Sl.take2 {w : World} {ad : Option Addr} {m cap : Nat} {L : List Th} (h : Sl w 51 2 (.slice ad m cap) m (cells2 L)) (a : Nat) (ha : a ≤ m) (h0 : ad ≠ none) : Sl w 51 2 (.slice ad a cap) a (cells2 (L.take a)) := by
  rw [cells2_take]; exact h.take a ha h0
/-- .. as the walk comes to it -/
theorem Sl.rest {w : World} {b off m cap : Nat} {L : List Th} (h : Sl w 51 2 (.slice (some ⟨b, off, none⟩) m cap) m (cells2 L)) (hL : L.length = m) (a : Nat) (ha : a ≤ m) :
    ∃ A : Addr, (if cap = a then (some (⟨b, off, none⟩ : Addr)) else some ⟨b, off + a * 2, none⟩) = some A ∧ Sl w 51 2 (.slice (some A) (m - a) (cap - a)) (m - a) (cells2 (L.drop a)) := by
  by_cases hc : cap = a
  · obtain ⟨ad', cap', hv, hle⟩ := h.form
    simp only [Value.slice.injEq, true_and] at hv
    obtain ⟨rfl, rfl⟩ := hv
    have hm : m = a := by omega
    subst hm
    refine ⟨⟨b, off, none⟩, by rw [if_pos hc], ?_⟩
    rw [hc, Nat.sub_self]
    exact h.from0 hL hc
  · exact ⟨⟨b, off + a * 2, none⟩, by rw [if_neg hc], h.from hL a ha hc⟩

theorem tstep_eq {c : Int} {L : List Th} {t : Th} {a : Nat} (h : atOf c L t = a) : tstep c L (t, false) = (L.take a ++ [t]) ++ L.drop a := by
  unfold tstep insL
  rw [if_neg (by simp), h]
  simp
set_option maxHeartbeats 8000000 in
theorem rthings_map {Y : Nat} {u : Value} {c : Int} {Q : List Pu} (hm : isMap c = true) (w : World) (h : Re w Y u c Q) (hn : Q.length ≤ 1000) :
    Calls Try.prog 19 #[P Y] w fun e w' => ∃ ad cap m, e = .returned (.slice ad m cap) ∧ OwnSl w.heap.size w' (.slice ad m cap) m (tupto c Q) ∧ Below w.heap.size w w' := by
  obtain ⟨adq, capq, rfl, _⟩ := h.sl.form
  obtain ⟨n, hQ⟩ : ∃ n, Q.length = n := ⟨_, rfl⟩
  have c0 := h.c0
  have hv := h.hv
  have hsl := h.sl
  have hY := h.ltY
  have hc : 3 ≤ c ∧ c ≤ 6 := by unfold isMap at hm; simpa using hm
  have ec1 : (c == 1) = false := by simp; omega
  have MAP := Lib.hid (fun W => rmap_any c W)
  rw [hm] at MAP
  rw [hQ] at hn hv hsl
  have HSL := Lib.hid hsl
  have HQ := Lib.hid hQ
  have HM := Lib.hid hm
  have HC := Lib.hid hc
  have C0 := Lib.hid c0
  have HV := Lib.hid hv
  clear h hsl hQ hm hc
  go_enter Try.func19, Try.ntmps19
  go_wp2_with fail
  go_loopw [3, 4] (fun a b wr => ∃ (i m : Nat) (ad : Option Addr) (cap : Nat), b = i64 i ∧ a = .slice ad m cap ∧ i ≤ n ∧ OwnSl w.heap.size wr (.slice ad m cap) m (tupto c (Q.take i)) ∧ Below w.heap.size w wr) (fun a b _ => n - (intOf b).toNat)
  case atStart => exact ⟨0, 0, none, 0, rfl, rfl, by omega, ⟨rfl, Sl.nil _ _ _, fun b hb => by cases hb⟩, Below.refl _ _⟩
  case round =>
    obtain ⟨i, m, ad, cap, rfl, rfl, hi, ho, hb⟩ := hrel
    have HO := Lib.hid ho
    have HB := Lib.hid hb
    have c0 : wr.cell? ⟨Y, 0, none⟩ = some (.int .i64 c) := keep HB.out C0.out
    have hv : wr.cell? ⟨Y, 1, none⟩ = some (.slice adq n capq) := keep HB.out HV.out
    have hY : Y < wr.heap.size := World.block_lt_of_cell? _ _ c0
    clear ho hb
    by_cases hlt : i < n
    · have hlt' : (i : Int) < (n : Int) := by omega
      obtain ⟨p, hp⟩ : ∃ p, Q[i]? = some p := ⟨_, List.getElem?_eq_getElem (by rw [HQ.out]; exact hlt)⟩
      obtain ⟨b, off, rfl, hbl, y1, y2, y3, y4⟩ := put_cells HSL.out HQ.out hp
      have x1 := keep HB.out y1
      have x2 := keep HB.out y2
      have x3 := keep HB.out y3
      have hbl' : b < wr.heap.size := World.block_lt_of_cell? _ _ x1
      obtain ⟨⟨t1, t2⟩, pg⟩ := p
      simp only at x1 x2 x3
      have HT := Lib.hid (show tupto c (Q.take (i + 1)) = tstep c (tupto c (Q.take i)) ((t1, t2), pg) by rw [List.take_add_one, hp]; exact tupto_snoc _ _ _)
      clear hp y1 y2 y3 y4 hbl
      cases pg with
      | true =>
        go_wp2
        go_roundw
        case rel => exact ⟨i + 1, m, ad, cap, by first | rfl | simp, rfl, by omega, by rw [HT.out]; exact HO.out, HB.out⟩
        case measure => simp [intOf]; omega
      | false =>
        have hml : m ≤ 1000 := by
          have h1 := HO.out.1
          have h2 := tupto_len c (Q.take i)
          rw [List.length_take] at h2
          omega
        obtain ⟨L, hLe⟩ : ∃ L, tupto c (Q.take i) = L := ⟨_, rfl⟩
        rw [hLe] at HO HT
        clear hLe
        rename World => wo
        rcases HO.out.2.1.2.2 with ⟨hnil, hm0⟩ | ⟨b2, off2, cap2, cur2, hsome, -⟩
        · subst hm0
          simp only [Value.slice.injEq, true_and] at hnil
          obtain ⟨rfl, rfl⟩ := hnil
          have hL0 : L = [] := by have := HO.out.1; simpa using this
          subst hL0
          have ATE := Lib.hid (show atOf c [] (t1, t2) = 0 by have := atOf_le c [] (t1, t2); simpa using this)
          have T1 := Lib.hid (fun (W : World) (hb : Below wo.heap.size wo W) => tell1 (M := []) hb (Sl.nil wo 51 2) rfl (by omega))
          have X3 := Lib.hid (Sl.nil wo 51 2)
          have X3L := Lib.hid (show ([] : List Th).length = 0 from rfl)
          have AT1 := Lib.hid (show 0 ≤ 1000 by omega)
          have AT2 := Lib.hid (show 0 + 0 = 0 by omega)
          have AT3 := Lib.hid (show 0 ≤ 1000 by omega)
          clear hml
          go_wp2_with fail
          refine (MAP.out _).mono ?_
          rintro e w9 ⟨rfl, rfl⟩
          go_wp2_with fail
          go_loopw [6] (fun a ws => a = i64 0 ∧ ws = wo.alloc (.cells #[.int .u64 t1, .int .u64 t2] 51)) (fun _ _ => 0)
          case atStart => exact ⟨rfl, rfl⟩
          case round =>
            obtain ⟨rfl, rfl⟩ := hrel
            go_wp2_with fail
            go_quiet (fail)
            go_wp2_with fail
            go_region_law (first
                      | ((with_reducible show (if Region.wanted (Oper.mk _ (Op.call { callee := Callee.builtin Builtin.append, args := #[.const _, .tmp 62], argTypes := _ }) _ _ _ _) _ = true then _ else _))
                         refine step_app rfl (.const (.slice none 0 0)) (.tmp 62) 22 22 rfl (v := .slice none 0 0) (u := .slice none 0 0) (by simp [Act.eval, Act.put]) (by simp [Act.eval, Act.put]) (T1.out _ (by first | (go_grown; done) | exact below_like (W' := wo.alloc _) (by go_grown) rfl rfl rfl rfl | exact below_like (W' := (wo.alloc _).alloc _) (by go_grown) rfl rfl rfl rfl) _) ?_
                         rintro ad1 cap1 w4 H
                         have G1 := Lib.hid H
                         have g5 := H.2.1.size
                         have e1 := keep G1.out.2.2 (p := ⟨wo.heap.size, 0, none⟩) (v := .int .u64 t1) (by simp [go_sem])
                         have e2 := keep G1.out.2.2 (p := ⟨wo.heap.size, 1, none⟩) (v := .int .u64 t2) (by simp [go_sem])
                         have e3 : wo.heap.size < w4.heap.size := World.block_lt_of_cell? _ _ e1
                         clear H)
                      | ((with_reducible show (if Region.wanted (Oper.mk _ (Op.call { callee := Callee.builtin Builtin.append, args := #[.tmp 63, .tmp 65], argTypes := _ }) _ _ _ _) _ = true then _ else _))
                         refine step_app rfl (.tmp 63) (.tmp 65) 22 22 rfl (v := .slice ad1 0 cap1) (u := .slice (some ⟨w4.heap.size, 0, none⟩) 1 1) (by simp [Act.eval, Act.put]) (by simp [Act.eval, Act.put]) (tell2 (t := (t1, t2)) G1.out.1 G1.out.2.1 (by go_grown) (by exact heap_alloc_new _ _) (by first | exact AT1.out | omega) _) ?_
                         rintro ad2 cap2 w5 H
                         have G2 := Lib.hid H
                         have g6 := H.2.size
                         clear H)
                      | ((with_reducible show (if Region.wanted (Oper.mk _ (Op.call { callee := Callee.builtin Builtin.append, args := #[.tmp 63, .tmp 65], argTypes := _ }) _ _ _ _) _ = true then _ else _))
                         refine step_app rfl (.tmp 63) (.tmp 65) 22 22 rfl (v := .slice ad1 0 cap1) (u := .slice (some ⟨wo.heap.size + 1, 0, none⟩) 1 1) (by simp [Act.eval, Act.put]) (by simp [Act.eval, Act.put]) (tell2 (t := (t1, t2)) G1.out.1 G1.out.2.1 (by go_grown) (by exact (G1.out.2.2.block _ (by simp)).trans (alloc2_heap wo _ _)) (by first | exact AT1.out | omega) _) ?_
                         rintro ad2 cap2 w5 H
                         have G2 := Lib.hid H
                         have g6 := H.2.size
                         clear H)
                      | ((with_reducible show (if Region.wanted (Oper.mk _ (Op.call { callee := Callee.builtin Builtin.append, args := #[.tmp 66, .tmp 69], argTypes := _ }) _ _ _ _) _ = true then _ else _))
                         refine step_app rfl (.tmp 66) (.tmp 69) 22 22 rfl (v := .slice ad2 (0 + 1) cap2) (u := .slice none 0 0) (by simp [Act.eval, Act.put]) (by simp [Act.eval, Act.put]) (tell3 (at_ := 0) (m := 0) G2.out.1 G2.out.2 (by go_grown) X3.out X3L.out (by first | exact AT2.out | omega) (by first | exact AT3.out | omega) _) ?_
                         rintro ad3 cap3 w6 H
                         have G3 := Lib.hid H
                         clear H))
            all_goals
              go_wp2
              go_roundw
              case rel =>
                refine ⟨i + 1, 0 + 1, ad3, cap3, by first | rfl | simp, rfl, by omega, ?_, HB.out.trans (G3.out.2.mono HB.out.size)⟩
                obtain ⟨z1, z2, z3⟩ := G3.out.1
                rw [HT.out]
                exact ⟨by rw [tstep_eq ATE.out]; exact z1, by rw [tstep_eq ATE.out]; exact z2, fun k hk => Nat.le_trans HB.out.size (z3 k hk)⟩
              case measure => simp [intOf]; omega
        · simp only [Value.slice.injEq, true_and] at hsome
          obtain ⟨rfl, rfl⟩ := hsome
          have hcapm : m ≤ cap := by
            obtain ⟨ad', cap', hv', hle'⟩ := HO.out.2.1.form
            simp only [Value.slice.injEq, true_and] at hv'
            obtain ⟨-, rfl⟩ := hv'
            exact hle'
          have LL := HO.out.1
          have SLO := HO.out.2.1
          have LLO := Lib.hid LL
          have SLOH := Lib.hid SLO
          clear LL SLO
          go_wp2_with fail
          refine (MAP.out _).mono ?_
          rintro e w9 ⟨rfl, rfl⟩
          go_wp2_with fail
          go_loopw [6] (fun a ws => ∃ j q : Nat, a = i64 j ∧ ws = (wo.alloc (.cells #[.int .u64 t1, .int .u64 t2] 51)).drewN q ∧ j ≤ m ∧ ∀ k s, k < j → L[k]? = some s → s.1 < t1) (fun a _ => m - (intOf a).toNat)
          case atStart => exact ⟨0, 0, rfl, rfl, by omega, fun k s hk _ => by omega⟩
          case round =>
            obtain ⟨j, q, rfl, rfl, hj, hall⟩ := hrel
            have HALL := Lib.hid hall
            clear hall
            have z1 : ∀ q, ((wo.alloc (.cells #[.int .u64 t1, .int .u64 t2] 51)).drewN q).cell? ⟨wo.heap.size, 0, none⟩ = some (.int .u64 t1) := fun q => by simp [go_sem]
            by_cases hjm : j < m
            · obtain ⟨s, hs⟩ : ∃ s, L[j]? = some s := ⟨_, List.getElem?_eq_getElem (by rw [LLO.out]; exact hjm)⟩
              have hjm' : (j : Int) < (m : Int) := by omega
              obtain ⟨b3, off3, cap3', hv3, hbl3, _, _, _, hc3, _⟩ := SLOH.out.at (by omega)
              simp only [Value.slice.injEq, Option.some.injEq, Addr.mk.injEq, and_true, true_and] at hv3
              obtain ⟨⟨rfl, rfl⟩, rfl⟩ := hv3
              have z0 : wo.cell? ⟨b2, off2 + j * 2, none⟩ = some (.int .u64 s.1) := (hc3 _ (by omega)).trans (cells2_0 hs)
              have z2 : ∀ q, ((wo.alloc (.cells #[.int .u64 t1, .int .u64 t2] 51)).drewN q).cell? ⟨b2, off2 + j * 2, none⟩ = some (.int .u64 s.1) := fun q => keep (w := wo) (below_like (W' := wo.alloc _) (by go_grown) rfl rfl rfl rfl) z0
              have HS := Lib.hid hs
              clear z0 hc3 hs
              by_cases hk : s.1 < t1
              · have hk' : decide (s.1 < t1) = true := by simpa using hk
                go_wp2_with fail
                go_quiet (fail)
                go_wp2
                go_roundw
                case rel => exact ⟨j + 1, q + nq, by first | rfl | simp, by first | rfl | simp, by omega, fun k u hku hu => by
                  rcases Nat.lt_or_ge k j with g | g
                  · exact HALL.out k u g hu
                  · obtain rfl : k = j := by omega
                    rw [HS.out] at hu; obtain rfl := Option.some.inj hu; exact hk⟩
                case measure => simp [intOf]; omega
              · have hk' : decide (s.1 < t1) = false := by simpa using hk
                have HLW := Lib.hid (show j = low L t1 from low_uniq L t1 j (by rw [LLO.out]; omega) HALL.out (fun u hu => by rw [HS.out] at hu; obtain rfl := Option.some.inj hu; omega))
                clear hk
                go_wp2_with fail
                go_quiet (fail)
                have LL := LLO.out
                have SLO := SLOH.out
                obtain ⟨A, hA, hrest⟩ := SLO.rest LL j (by omega)
                have hjc : (j : Int) ≤ (cap : Int) := by omega
                have hjm2 : (j : Int) ≤ (m : Int) := by omega
                have ATE := Lib.hid (show atOf c L (t1, t2) = j from (by unfold atOf; rw [if_neg (by have := HC.out; omega), if_pos HM.out]; exact HLW.out.symm))
                have T1 := Lib.hid (fun (W : World) (hb : Below wo.heap.size wo W) => tell1 (M := L.take j) hb (SLO.take2 j (by omega) (by simp)) (by rw [List.length_take, LL]; omega) (by omega))
                have X3 := Lib.hid hrest
                have X3L := Lib.hid (show (L.drop j).length = (m - j) by rw [List.length_drop, LL])
                have AT1 := Lib.hid (show j ≤ 1000 by omega)
                have AT2 := Lib.hid (show j + ((m - j)) = m by omega)
                have AT3 := Lib.hid (show m ≤ 1000 by omega)
                clear LL SLO hrest
                go_wp2_with fail
                go_region_law (first
                          | ((with_reducible show (if Region.wanted (Oper.mk _ (Op.call { callee := Callee.builtin Builtin.append, args := #[.const _, .tmp 62], argTypes := _ }) _ _ _ _) _ = true then _ else _))
                             refine step_app rfl (.const (.slice none 0 0)) (.tmp 62) 22 22 rfl (v := .slice none 0 0) (u := .slice (some ⟨b2, off2, none⟩) j cap) (by simp [Act.eval, Act.put]) (by simp [Act.eval, Act.put]) (T1.out _ (by first | (go_grown; done) | exact below_like (W' := wo.alloc _) (by go_grown) rfl rfl rfl rfl | exact below_like (W' := (wo.alloc _).alloc _) (by go_grown) rfl rfl rfl rfl) _) ?_
                             rintro ad1 cap1 w4 H
                             have G1 := Lib.hid H
                             have g5 := H.2.1.size
                             have e1 := keep G1.out.2.2 (p := ⟨wo.heap.size, 0, none⟩) (v := .int .u64 t1) (by simp [go_sem])
                             have e2 := keep G1.out.2.2 (p := ⟨wo.heap.size, 1, none⟩) (v := .int .u64 t2) (by simp [go_sem])
                             have e3 : wo.heap.size < w4.heap.size := World.block_lt_of_cell? _ _ e1
                             clear H)
                          | ((with_reducible show (if Region.wanted (Oper.mk _ (Op.call { callee := Callee.builtin Builtin.append, args := #[.tmp 63, .tmp 65], argTypes := _ }) _ _ _ _) _ = true then _ else _))
                             refine step_app rfl (.tmp 63) (.tmp 65) 22 22 rfl (v := .slice ad1 j cap1) (u := .slice (some ⟨w4.heap.size, 0, none⟩) 1 1) (by simp [Act.eval, Act.put]) (by simp [Act.eval, Act.put]) (tell2 (t := (t1, t2)) G1.out.1 G1.out.2.1 (by go_grown) (by exact heap_alloc_new _ _) (by first | exact AT1.out | omega) _) ?_
                             rintro ad2 cap2 w5 H
                             have G2 := Lib.hid H
                             have g6 := H.2.size
                             clear H)
                          | ((with_reducible show (if Region.wanted (Oper.mk _ (Op.call { callee := Callee.builtin Builtin.append, args := #[.tmp 63, .tmp 65], argTypes := _ }) _ _ _ _) _ = true then _ else _))
                             refine step_app rfl (.tmp 63) (.tmp 65) 22 22 rfl (v := .slice ad1 j cap1) (u := .slice (some ⟨wo.heap.size + 1, 0, none⟩) 1 1) (by simp [Act.eval, Act.put]) (by simp [Act.eval, Act.put]) (tell2 (t := (t1, t2)) G1.out.1 G1.out.2.1 (by go_grown) (by exact (G1.out.2.2.block _ (by simp)).trans (alloc2_heap wo _ _)) (by first | exact AT1.out | omega) _) ?_
                             rintro ad2 cap2 w5 H
                             have G2 := Lib.hid H
                             have g6 := H.2.size
                             clear H)
                          | ((with_reducible show (if Region.wanted (Oper.mk _ (Op.call { callee := Callee.builtin Builtin.append, args := #[.tmp 66, .tmp 69], argTypes := _ }) _ _ _ _) _ = true then _ else _))
                             refine step_app rfl (.tmp 66) (.tmp 69) 22 22 rfl (v := .slice ad2 (j + 1) cap2) (u := .slice (some A) (m - j) (cap - j)) (by simp [Act.eval, Act.put]) (by simp [Act.eval, Act.put]) (tell3 (at_ := j) (m := m) G2.out.1 G2.out.2 (by go_grown) X3.out X3L.out (by first | exact AT2.out | omega) (by first | exact AT3.out | omega) _) ?_
                             rintro ad3 cap3 w6 H
                             have G3 := Lib.hid H
                             clear H))
                all_goals
                  go_wp2
                  go_roundw
                  case rel =>
                    refine ⟨i + 1, m + 1, ad3, cap3, by first | rfl | simp, rfl, by omega, ?_, HB.out.trans (G3.out.2.mono HB.out.size)⟩
                    obtain ⟨z1, z2, z3⟩ := G3.out.1
                    rw [HT.out]
                    exact ⟨by rw [tstep_eq ATE.out]; exact z1, by rw [tstep_eq ATE.out]; exact z2, fun k hk => Nat.le_trans HB.out.size (z3 k hk)⟩
                  case measure => simp [intOf]; omega
            · obtain rfl : j = m := by omega
              have HLW := Lib.hid (show j = low L t1 from low_uniq L t1 j (by rw [LLO.out]; exact Nat.le_refl _) HALL.out (fun u hu => by have := (List.getElem?_eq_some_iff.1 hu).1; rw [LLO.out] at this; omega))
              go_wp2_with fail
              go_quiet (fail)
              have LL := LLO.out
              have SLO := SLOH.out
              obtain ⟨A, hA, hrest⟩ := SLO.rest LL j (by omega)
              rw [Nat.sub_self] at hrest
              have hjc : (j : Int) ≤ (cap : Int) := by omega
              have ATE := Lib.hid (show atOf c L (t1, t2) = j from (by unfold atOf; rw [if_neg (by have := HC.out; omega), if_pos HM.out]; exact HLW.out.symm))
              have T1 := Lib.hid (fun (W : World) (hb : Below wo.heap.size wo W) => tell1 (M := L.take j) hb (SLO.take2 j (by omega) (by simp)) (by rw [List.length_take, LL]; omega) (by omega))
              have X3 := Lib.hid hrest
              have X3L := Lib.hid (show (L.drop j).length = 0 by rw [List.length_drop, LL]; omega)
              have AT1 := Lib.hid (show j ≤ 1000 by omega)
              have AT2 := Lib.hid (show j + (0) = j by omega)
              have AT3 := Lib.hid (show j ≤ 1000 by omega)
              clear LL SLO hrest
              go_wp2_with fail
              go_region_law (first
                        | ((with_reducible show (if Region.wanted (Oper.mk _ (Op.call { callee := Callee.builtin Builtin.append, args := #[.const _, .tmp 62], argTypes := _ }) _ _ _ _) _ = true then _ else _))
                           refine step_app rfl (.const (.slice none 0 0)) (.tmp 62) 22 22 rfl (v := .slice none 0 0) (u := .slice (some ⟨b2, off2, none⟩) j cap) (by simp [Act.eval, Act.put]) (by simp [Act.eval, Act.put]) (T1.out _ (by first | (go_grown; done) | exact below_like (W' := wo.alloc _) (by go_grown) rfl rfl rfl rfl | exact below_like (W' := (wo.alloc _).alloc _) (by go_grown) rfl rfl rfl rfl) _) ?_
                           rintro ad1 cap1 w4 H
                           have G1 := Lib.hid H
                           have g5 := H.2.1.size
                           have e1 := keep G1.out.2.2 (p := ⟨wo.heap.size, 0, none⟩) (v := .int .u64 t1) (by simp [go_sem])
                           have e2 := keep G1.out.2.2 (p := ⟨wo.heap.size, 1, none⟩) (v := .int .u64 t2) (by simp [go_sem])
                           have e3 : wo.heap.size < w4.heap.size := World.block_lt_of_cell? _ _ e1
                           clear H)
                        | ((with_reducible show (if Region.wanted (Oper.mk _ (Op.call { callee := Callee.builtin Builtin.append, args := #[.tmp 63, .tmp 65], argTypes := _ }) _ _ _ _) _ = true then _ else _))
                           refine step_app rfl (.tmp 63) (.tmp 65) 22 22 rfl (v := .slice ad1 j cap1) (u := .slice (some ⟨w4.heap.size, 0, none⟩) 1 1) (by simp [Act.eval, Act.put]) (by simp [Act.eval, Act.put]) (tell2 (t := (t1, t2)) G1.out.1 G1.out.2.1 (by go_grown) (by exact heap_alloc_new _ _) (by first | exact AT1.out | omega) _) ?_
                           rintro ad2 cap2 w5 H
                           have G2 := Lib.hid H
                           have g6 := H.2.size
                           clear H)
                        | ((with_reducible show (if Region.wanted (Oper.mk _ (Op.call { callee := Callee.builtin Builtin.append, args := #[.tmp 63, .tmp 65], argTypes := _ }) _ _ _ _) _ = true then _ else _))
                           refine step_app rfl (.tmp 63) (.tmp 65) 22 22 rfl (v := .slice ad1 j cap1) (u := .slice (some ⟨wo.heap.size + 1, 0, none⟩) 1 1) (by simp [Act.eval, Act.put]) (by simp [Act.eval, Act.put]) (tell2 (t := (t1, t2)) G1.out.1 G1.out.2.1 (by go_grown) (by exact (G1.out.2.2.block _ (by simp)).trans (alloc2_heap wo _ _)) (by first | exact AT1.out | omega) _) ?_
                           rintro ad2 cap2 w5 H
                           have G2 := Lib.hid H
                           have g6 := H.2.size
                           clear H)
                        | ((with_reducible show (if Region.wanted (Oper.mk _ (Op.call { callee := Callee.builtin Builtin.append, args := #[.tmp 66, .tmp 69], argTypes := _ }) _ _ _ _) _ = true then _ else _))
                           refine step_app rfl (.tmp 66) (.tmp 69) 22 22 rfl (v := .slice ad2 (j + 1) cap2) (u := .slice (some A) 0 (cap - j)) (by simp [Act.eval, Act.put]) (by simp [Act.eval, Act.put]) (tell3 (at_ := j) (m := j) G2.out.1 G2.out.2 (by go_grown) X3.out X3L.out (by first | exact AT2.out | omega) (by first | exact AT3.out | omega) _) ?_
                           rintro ad3 cap3 w6 H
                           have G3 := Lib.hid H
                           clear H))
              all_goals
                go_wp2
                go_roundw
                case rel =>
                  refine ⟨i + 1, j + 1, ad3, cap3, by first | rfl | simp, rfl, by omega, ?_, HB.out.trans (G3.out.2.mono HB.out.size)⟩
                  obtain ⟨z1, z2, z3⟩ := G3.out.1
                  rw [HT.out]
                  exact ⟨by rw [tstep_eq ATE.out]; exact z1, by rw [tstep_eq ATE.out]; exact z2, fun k hk => Nat.le_trans HB.out.size (z3 k hk)⟩
                case measure => simp [intOf]; omega
    · have hge : (n : Int) ≤ (i : Int) := by omega
      obtain rfl : i = n := by omega
      go_wp2
      go_returns
      have ho := HO.out
      rw [List.take_of_length_le (by rw [HQ.out]; omega)] at ho
      exact ⟨ad, cap, m, rfl, ho, HB.out⟩
end Go.Proofs.Ytphfcfnbefikiaa
