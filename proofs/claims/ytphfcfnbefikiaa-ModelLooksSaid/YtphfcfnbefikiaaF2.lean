/- behind: the same calls of both, and what there is behind them. -/
import Derived.Test.YtphfcfnbefikiaaF1
namespace Go.Proofs.Ytphfcfnbefikiaa
open Go.RowKit
set_option linter.unusedVariables false
set_option linter.unusedSimpArgs false

theorem lst_mono {l : Array Bool} {i j : Nat} (h : l.getD j false = true) : (l.setIfInBounds i true).getD j false = true := by
  by_cases e : i = j
  · subst e
    refine lst_eq ?_
    rw [Array.getD_eq_getD_getElem?] at h
    by_cases hl : i < l.size
    · exact hl
    · rw [Array.getElem?_eq_none (by omega)] at h; cases h
  · rw [lst_ne e]; exact h

/-- What has been done of the calls of a round, and what holds by it. -/
def Dn (l : Array Bool) : Prop := (l.getD 34 false = true → l.getD 16 false = true ∧ l.getD 33 false = true) ∧ (l.getD 35 false = true → l.getD 34 false = true)
def Bs (T : Bool → Bool → World → Prop) (l : Array Bool) (w : World) : Prop := T (l.getD 16 false) (l.getD 33 false) w ∧ Dn l
theorem Dn.set {l : Array Bool} {i : Nat} (h : Dn l) (h34 : i ≠ 34) (h35 : i ≠ 35) : Dn (l.setIfInBounds i true) := by
  refine ⟨fun e => ?_, fun e => ?_⟩
  · rw [lst_ne h34] at e; exact ⟨lst_mono (h.1 e).1, lst_mono (h.1 e).2⟩
  · rw [lst_ne h35] at e; exact lst_mono (h.2 e)
theorem Bs.set {T : Bool → Bool → World → Prop} {l : Array Bool} {w : World} {i : Nat} (h : Bs T l w) (h16 : i ≠ 16) (h33 : i ≠ 33) (h34 : i ≠ 34) (h35 : i ≠ 35) : Bs T (l.setIfInBounds i true) w :=
  ⟨by rw [lst_ne h16, lst_ne h33]; exact h.1, h.2.set h34 h35⟩
theorem Bs.s16 {T : Bool → Bool → World → Prop} {l : Array Bool} {w w' : World} (h : Bs T l w) (hl : 16 < l.size) (hT : T true (l.getD 33 false) w') : Bs T (l.setIfInBounds 16 true) w' :=
  ⟨by rw [lst_eq hl, lst_ne (by decide)]; exact hT, h.2.set (by decide) (by decide)⟩
theorem Bs.s33 {T : Bool → Bool → World → Prop} {l : Array Bool} {w w' : World} (h : Bs T l w) (hl : 33 < l.size) (hT : T (l.getD 16 false) true w') : Bs T (l.setIfInBounds 33 true) w' :=
  ⟨by rw [lst_eq hl, lst_ne (by decide)]; exact hT, h.2.set (by decide) (by decide)⟩
theorem Bs.s34 {T : Bool → Bool → World → Prop} {l : Array Bool} {w : World} (h : Bs T l w) (h1 : l.getD 16 false = true) (h2 : l.getD 33 false = true) : Bs T (l.setIfInBounds 34 true) w :=
  ⟨by rw [lst_ne (by decide), lst_ne (by decide)]; exact h.1, fun _ => ⟨lst_mono h1, lst_mono h2⟩, fun e => by rw [lst_ne (by decide)] at e; exact lst_mono (h.2.2 e)⟩
theorem Bs.s35 {T : Bool → Bool → World → Prop} {l : Array Bool} {w : World} (h : Bs T l w) (h1 : l.getD 34 false = true) : Bs T (l.setIfInBounds 35 true) w :=
  ⟨by rw [lst_ne (by decide), lst_ne (by decide)]; exact h.1, fun e => by rw [lst_ne (by decide)] at e; exact ⟨lst_mono (h.2.1 e).1, lst_mono (h.2.1 e).2⟩, fun _ => lst_mono h1⟩
theorem Bs.done {T : Bool → Bool → World → Prop} {l : Array Bool} {w : World} (h : Bs T l w) (h35 : l.getD 35 false = true) : T true true w := by
  have h34 := h.2.2 h35
  obtain ⟨a, b⟩ := h.2.1 h34
  have := h.1
  rwa [a, b] at this
theorem Bs.grow {T : Bool → Bool → World → Prop} {l : Array Bool} {w w' : World} (h : Bs T l w) (hT : T true true w') (h35 : l.getD 35 false = true) : Bs T l w' := by
  have h34 := h.2.2 h35
  obtain ⟨a, b⟩ := h.2.1 h34
  exact ⟨by rw [a, b]; exact hT, h.2⟩

theorem nsame40 (a b : Int) (p : Bool) (w : World) : (binOp .neq 40 (.agg #[.int .i64 a, .bool p, .int .u64 b]) (.agg #[.int .i64 a, .bool p, .int .u64 b])).run Try.prog w = .ok (.bool false) w := by rw [neq40]; simp

theorem take_snoc' {q : List Cl} {i : Nat} {t : Cl} (h : q[i]? = some t) : q.take (i + 1) = q.take i ++ [t] := by rw [List.take_add_one, h]; rfl
theorem lst_no {l : Array Bool} {i : Nat} (h : l.getD i true = false) : l.getD i false = false := by
  rw [Array.getD_eq_getD_getElem?] at h ⊢
  cases e : l[i]? with
  | none => rfl
  | some b => rw [e] at h; exact h

def VB (X Y b off n2 cap2 k : Nat) (o kk x p s : Int) (r : Bool) (m : Nat) : Nat → Value → Prop
  | 0, v => v = P X
  | 1, v => v = .slice (some ⟨b, off, none⟩) n2 cap2
  | 2, v => v = .int .i64 (k : Int)
  | 3, v => v = .pointer (some ⟨b, off + k * 3, none⟩)
  | 4, v => v = .pointer (some ⟨b, off + k * 3, none⟩)
  | 5, v => v = .int .i64 o
  | 6, v => v = .slice (some ⟨b, off, none⟩) n2 cap2
  | 7, v => v = .int .i64 (k : Int)
  | 8, v => v = .pointer (some ⟨b, off + k * 3, none⟩)
  | 9, v => v = .pointer (some ⟨b, off + k * 3 + 1, none⟩)
  | 10, v => v = .int .u64 kk
  | 11, v => v = .slice (some ⟨b, off, none⟩) n2 cap2
  | 12, v => v = .int .i64 (k : Int)
  | 13, v => v = .pointer (some ⟨b, off + k * 3, none⟩)
  | 14, v => v = .pointer (some ⟨b, off + k * 3 + 2, none⟩)
  | 15, v => v = .int .u64 x
  | 16, v => v = .agg #[.int .i64 p, .bool r, .int .u64 s]
  | 17, v => v = P Y
  | 18, v => v = .slice (some ⟨b, off, none⟩) n2 cap2
  | 19, v => v = .int .i64 (k : Int)
  | 20, v => v = .pointer (some ⟨b, off + k * 3, none⟩)
  | 21, v => v = .pointer (some ⟨b, off + k * 3, none⟩)
  | 22, v => v = .int .i64 o
  | 23, v => v = .slice (some ⟨b, off, none⟩) n2 cap2
  | 24, v => v = .int .i64 (k : Int)
  | 25, v => v = .pointer (some ⟨b, off + k * 3, none⟩)
  | 26, v => v = .pointer (some ⟨b, off + k * 3 + 1, none⟩)
  | 27, v => v = .int .u64 kk
  | 28, v => v = .slice (some ⟨b, off, none⟩) n2 cap2
  | 29, v => v = .int .i64 (k : Int)
  | 30, v => v = .pointer (some ⟨b, off + k * 3, none⟩)
  | 31, v => v = .pointer (some ⟨b, off + k * 3 + 2, none⟩)
  | 32, v => v = .int .u64 x
  | 33, v => v = .agg #[.int .i64 p, .bool r, .int .u64 s]
  | 34, v => v = .bool false
  | 35, v => v = .bool false
  | 36, v => v = P X
  | 37, v => v = .int .i64 (m : Int)
  | 38, v => v = P Y
  | 39, v => ∃ ad cap, v = .slice ad m cap
  | 40, v => v = .int .i64 (m : Int)
  | 41, v => v = .bool false
  | 42, v => v = .bool false
  | _, v => True

theorem rnew_any' {n cap : Nat} {ad : Option Addr} {l : List Th} (c : Int) (h1 : 1 ≤ c) (h2 : c ≤ 6) (hn : n ≤ 200) (w : World) (hl : ThsIn ad n l w) :
    Calls Try.prog 28 #[i64 c, .slice ad n cap] w fun e w' => ∃ Y, e = .returned (P Y) ∧ RMade w c (newR c l []) w' Y := rnew_any c h1 h2 hn w hl

set_option maxRecDepth 100000 in
set_option maxHeartbeats 8000000 in
theorem behind_any {n cap n2 cap2 : Nat} {ad ad2 : Option Addr} {l : List Th} {q : List Cl} (c : Int) (h1 : 1 ≤ c) (h2 : c ≤ 6) (hn : n ≤ 100) (hn2 : n2 ≤ 100) (w : World) (hl : ThsIn ad n l w) (hq : CallsIn ad2 n2 q w) :
    Calls Try.prog 11 #[i64 c, .slice ad n cap, .slice ad2 n2 cap2] w fun e w' => ∃ X Y, e = .returned (.tuple #[P X, P Y, .bool true]) ∧ Two w w' c X Y (runI c q (newI c l [])) (runR c q (newR c l [])) := by
  have APP := Lib.hid (app_nil (cap := cap) hl (by omega) 22)
  have NEW := Lib.hid (fun (W : World) (a : Option Addr) (k : Nat) (h : ThsIn a n l W) => new_any (cap := k) c h1 h2 (by omega) W h)
  have RNEW := Lib.hid (fun (W : World) (hb : Below w.heap.size w W) => rnew_any' (cap := cap) c h1 h2 (by omega) W (hl.below hb))
  have HQ := Lib.hid hq
  have SIM := Lib.hid (fun k => run_sim c (q.take k) _ _ (sim_new c l [] [] (sim_nil c)))
  have LEN := Lib.hid (show ∀ k, (runI c (q.take k) (newI c l [])).length ≤ 200 from fun k => by
    have a1 := runI_len c (q.take k) (newI c l [])
    have a2 := newI_len c l []
    have a3 := hl.1
    have a4 := hq.1
    simp only [List.length_take, List.length_nil] at a1 a2
    omega)
  have RLEN := Lib.hid (show ∀ k, (runR c (q.take k) (newR c l [])).length ≤ 200 from fun k => by
    have a1 := runR_len c (q.take k) (newR c l [])
    have a2 := newR_len c l []
    have a3 := hl.1
    have a4 := hq.1
    simp only [List.length_take, List.length_nil] at a1 a2
    omega)
  have HC := Lib.hid (And.intro h1 h2)
  clear hl hq h1 h2
  generalize newI c l [] = L0 at *
  generalize newR c l [] = Q0 at *
  go_enter Try.func11, Try.ntmps11
  go_wp2_with (at_builtin; refine wpList_app rfl (.const (.slice none 0 0)) (.tmp 15) 22 22 rfl rfl rfl APP.out ?_; rintro ad4 cap4 w4 H; have H4 := Lib.hid H; clear H)
  refine (NEW.out w4 _ _ H4.out.1).mono ?_
  rintro e w1 ⟨X, rfl, m1⟩
  have HB1 := Lib.hid (show Below w.heap.size w w1 from by obtain ⟨_, _, -, b, -⟩ := m1; exact H4.out.2.trans (b.mono H4.out.2.size))
  have M1 := Lib.hid m1
  clear m1
  go_wp2_with fail
  refine (RNEW.out _ HB1.out).mono ?_
  rintro e w2 ⟨Y, rfl, m2⟩
  have T0 := Lib.hid (show Two w w2 c X Y L0 Q0 from by
    obtain ⟨H, v, u, k1, k2, k3, k4, k5, k6⟩ := Two.made M1.out m2
    exact ⟨H, v, u, k1, k2, k3, fun k hk => Nat.le_trans H4.out.2.size (k4 k hk), fun k hk => Nat.le_trans H4.out.2.size (k5 k hk), H4.out.2.trans (k6.mono H4.out.2.size)⟩)
  have CLI := Lib.hid (T0.out.client)
  clear m2 M1 HB1 H4 APP NEW RNEW
  have hcc : (c != c) = false := by simp
  go_wp2_with fail
  refine CLI.out.mono ?_
  rintro e w3 ⟨rfl, rfl⟩
  clear CLI
  go_wp2_with fail
  go_loopw [12] (fun a wr => ∃ i : Nat, a = i64 i ∧ i ≤ n2 ∧ Two w wr c X Y (runI c (q.take i) L0) (runR c (q.take i) Q0)) (fun a _ => n2 - (intOf a).toNat)
  case atStart => exact ⟨0, rfl, by omega, T0.out⟩
  case round =>
    rename World => wl
    obtain ⟨k, rfl, hk, hT⟩ := hrel
    have HT := Lib.hid hT
    clear hT T0
    by_cases hlt : k < n2
    · have hlt' : (k : Int) < (n2 : Int) := by omega
      obtain ⟨t, ht⟩ : ∃ t, q[k]? = some t := ⟨_, List.getElem?_eq_getElem (by rw [HQ.out.1]; exact hlt)⟩
      obtain ⟨two, b, off, rfl, x1, x2, x3⟩ := HQ.out.2 k t ht
      obtain ⟨o, kk, x⟩ := t
      have HT1 := Lib.hid ht
      clear ht
      go_wp2_with fail
      have hLk := LEN.out k
      have hQk := RLEN.out k
      have hSk := SIM.out k
      have hL1 := LEN.out (k + 1)
      have hQ1 := RLEN.out (k + 1)
      rw [take_snoc' HT1.out, runI_snoc] at hL1
      rw [take_snoc' HT1.out, runR_snoc] at hQ1
      have hstep := sim_do o kk x hSk
      have hT := HT.out
      have hfinI : runI c (q.take (k + 1)) L0 = (doI c o kk x (runI c (q.take k) L0)).2 := by rw [take_snoc' HT1.out, runI_snoc]
      have hfinR : runR c (q.take (k + 1)) Q0 = (doR c o kk x (runR c (q.take k) Q0)).2 := by rw [take_snoc' HT1.out, runR_snoc]
      have FIN := Lib.hid (And.intro hfinI hfinR)
      clear hfinI hfinR HT HT1
      generalize hLL : runI c (q.take k) L0 = LL at *
      generalize hQQ : runR c (q.take k) Q0 = QQ at *
      obtain ⟨⟨p, r, s⟩, L1, hdI⟩ : ∃ a L1, doI c o kk x LL = (a, L1) := ⟨_, _, rfl⟩
      obtain ⟨aR, Q1, hdR⟩ : ∃ a Q1, doR c o kk x QQ = (a, Q1) := ⟨_, _, rfl⟩
      rw [hdI, hdR] at hstep FIN
      rw [hdI] at hL1
      rw [hdR] at hQ1
      simp only at hL1 hQ1
      obtain ⟨rfl, hS1⟩ := hstep
      obtain ⟨m, hm⟩ : ∃ m, L1.length = m := ⟨_, rfl⟩
      have hm2 : (things c Q1).length = m := by rw [things_tell hS1, tell_len, hm]
      have hDI := Lib.hid (fun (W : World) (Q : List Pu) (h : Two w W c X Y LL Q) => hdI ▸ h.doI HC.out.1 HC.out.2 o kk x two (by omega) (sim_srt hSk))
      have hDR := Lib.hid (fun (W : World) (L : List Th) (h : Two w W c X Y L QQ) => hdR ▸ h.doR o kk x (by omega))
      have hLN := Lib.hid (fun (W : World) (h : Two w W c X Y L1 Q1) => hm ▸ h.len)
      have hTH := Lib.hid (fun (W : World) (h : Two w W c X Y L1 Q1) => h.rthings HC.out.1 HC.out.2 (by omega))
      have HM2 := Lib.hid hm2
      clear hm2 hm hdI hdR hLL hQQ hS1 hSk hLk hQk hL1 hQ1 LEN RLEN SIM
      refine wp_region_state (by kernel_rfl) (fun y => ⟨#[i64 c, Value.slice ad n cap, Value.slice (some ⟨b, off, none⟩) n2 cap2, undef, undef, undef, _, _, _, P X, i64 0, P Y, i64 (k : Int), Value.tuple #[P X, i64 0], i64 c, Value.slice ad n cap, Value.slice ad4 n cap4, Value.tuple #[P X, i64 0], P X, i64 0, i64 c, Value.slice ad n cap, P Y, i64 0, Value.bool false, Value.bool false, P X, Value.bool false, Value.bool false, Value.bool false, P X, i64 c, i64 c, Value.bool false, Value.bool false, undef, i64 (k : Int), Value.slice (some ⟨b, off, none⟩) n2 cap2, Value.int IntKind.i64 (n2 : Int), Value.bool true, _, _, y 0, y 1, y 2, y 3, y 4, y 5, y 6, y 7, y 8, y 9, y 10, y 11, y 12, y 13, y 14, y 15, y 16, y 17, y 18, y 19, y 20, y 21, y 22, y 23, y 24, y 25, y 26, y 27, y 28, y 29, y 30, y 31, y 32, y 33, y 34, y 35, y 36, y 37, y 38, y 39, y 40, y 41, y 42, _, _, undef, undef, undef, undef, undef, undef, undef], []⟩) (VB X Y b off n2 cap2 k o kk x p s r m) (Bs fun b1 b2 W => Two w W c X Y (if b1 then L1 else LL) (if b2 then Q1 else QQ)) (fun j => ([u42, u43, u44, u45, u46, u47, u48, u49, u50, u51, u52, u53, u54, u55, u56, u57, u58, u59, u60, u61, u62, u63, u64, u65, u66, u67, u68, u69, u70, u71, u72, u73, u74, u75, u76, u77, u78, u79, u80, u81, u82, u83, u84] : List Value).getD j undef) (back_of (by kernel_rfl)) ⟨by simpa using (show Two w wl.drew c X Y LL QQ from hT.grow (below_drewN _ _ 1)), by simp [Dn], by simp [Dn]⟩ ?_ ?_
      · intro i oo ho l y wx hl hli hbx hpre
        have hi : i < 43 := (Array.getElem?_eq_some_iff.1 ho).1
        have HP := Lib.hid hT
        have hsz : l.size = 43 := hl.trans rfl
        clear hl
        clear hT
        rcases (show i = 0 ∨ i = 1 ∨ i = 2 ∨ i = 3 ∨ i = 4 ∨ i = 5 ∨ i = 6 ∨ i = 7 ∨ i = 8 ∨ i = 9 ∨ i = 10 ∨ i = 11 ∨ i = 12 ∨ i = 13 ∨ i = 14 ∨ i = 15 ∨ i = 16 ∨ i = 17 ∨ i = 18 ∨ i = 19 ∨ i = 20 ∨ i = 21 ∨ i = 22 ∨ i = 23 ∨ i = 24 ∨ i = 25 ∨ i = 26 ∨ i = 27 ∨ i = 28 ∨ i = 29 ∨ i = 30 ∨ i = 31 ∨ i = 32 ∨ i = 33 ∨ i = 34 ∨ i = 35 ∨ i = 36 ∨ i = 37 ∨ i = 38 ∨ i = 39 ∨ i = 40 ∨ i = 41 ∨ i = 42 by omega) with rfl | rfl | rfl | rfl | rfl | rfl | rfl | rfl | rfl | rfl | rfl | rfl | rfl | rfl | rfl | rfl | rfl | rfl | rfl | rfl | rfl | rfl | rfl | rfl | rfl | rfl | rfl | rfl | rfl | rfl | rfl | rfl | rfl | rfl | rfl | rfl | rfl | rfl | rfl | rfl | rfl | rfl | rfl
        · obtain rfl := Option.some.inj ho
          clear hpre ho
          have HBX := Lib.hid hbx
          clear hbx
          refine wpOp_step rfl (fun K hK => ?_)
          simp only [upd, reduceIte, Nat.reduceEqDiff]
          go_simp
          exact hK _ _ ⟨_, rfl, rfl, HBX.out.set (by decide) (by decide) (by decide) (by decide)⟩
        · obtain rfl := Option.some.inj ho
          clear hpre ho
          have HBX := Lib.hid hbx
          clear hbx
          refine wpOp_step rfl (fun K hK => ?_)
          simp only [upd, reduceIte, Nat.reduceEqDiff]
          go_simp
          exact hK _ _ ⟨_, rfl, rfl, HBX.out.set (by decide) (by decide) (by decide) (by decide)⟩
        · obtain rfl := Option.some.inj ho
          clear hpre ho
          have HBX := Lib.hid hbx
          clear hbx
          refine wpOp_step rfl (fun K hK => ?_)
          simp only [upd, reduceIte, Nat.reduceEqDiff]
          go_simp
          exact hK _ _ ⟨_, rfl, rfl, HBX.out.set (by decide) (by decide) (by decide) (by decide)⟩
        · obtain rfl := Option.some.inj ho
          have e1 := hpre ⟨1, .data⟩ (by simp) rfl
          have e2 := hpre ⟨2, .data⟩ (by simp) rfl
          clear hpre ho
          obtain ⟨e1, d1⟩ := e1
          obtain ⟨e2, d2⟩ := e2
          rw [upd_of e1]
          rw [upd_of e2]
          clear e1 e2
          have HBX := Lib.hid hbx
          clear hbx
          refine wpOp_step rfl (fun K hK => ?_)
          simp only [upd, reduceIte, Nat.reduceEqDiff]
          go_simp
          exact hK _ _ ⟨_, rfl, rfl, HBX.out.set (by decide) (by decide) (by decide) (by decide)⟩
        · obtain rfl := Option.some.inj ho
          have e3 := hpre ⟨3, .data⟩ (by simp) rfl
          clear hpre ho
          obtain ⟨e3, d3⟩ := e3
          rw [upd_of e3]
          clear e3
          have HBX := Lib.hid hbx
          clear hbx
          refine wpOp_step rfl (fun K hK => ?_)
          simp only [upd, reduceIte, Nat.reduceEqDiff]
          go_simp
          exact hK _ _ ⟨_, rfl, rfl, HBX.out.set (by decide) (by decide) (by decide) (by decide)⟩
        · obtain rfl := Option.some.inj ho
          have e4 := hpre ⟨4, .data⟩ (by simp) rfl
          clear hpre ho
          obtain ⟨e4, d4⟩ := e4
          rw [upd_of e4]
          clear e4
          have y1 := keep hbx.1.below x1
          have y2 := keep hbx.1.below x2
          have y3 := keep hbx.1.below x3
          have HBX := Lib.hid hbx
          clear hbx
          refine wpOp_step rfl (fun K hK => ?_)
          simp only [upd, reduceIte, Nat.reduceEqDiff]
          go_simp
          exact hK _ _ ⟨_, rfl, rfl, HBX.out.set (by decide) (by decide) (by decide) (by decide)⟩
        · obtain rfl := Option.some.inj ho
          clear hpre ho
          have HBX := Lib.hid hbx
          clear hbx
          refine wpOp_step rfl (fun K hK => ?_)
          simp only [upd, reduceIte, Nat.reduceEqDiff]
          go_simp
          exact hK _ _ ⟨_, rfl, rfl, HBX.out.set (by decide) (by decide) (by decide) (by decide)⟩
        · obtain rfl := Option.some.inj ho
          clear hpre ho
          have HBX := Lib.hid hbx
          clear hbx
          refine wpOp_step rfl (fun K hK => ?_)
          simp only [upd, reduceIte, Nat.reduceEqDiff]
          go_simp
          exact hK _ _ ⟨_, rfl, rfl, HBX.out.set (by decide) (by decide) (by decide) (by decide)⟩
        · obtain rfl := Option.some.inj ho
          have e6 := hpre ⟨6, .data⟩ (by simp) rfl
          have e7 := hpre ⟨7, .data⟩ (by simp) rfl
          clear hpre ho
          obtain ⟨e6, d6⟩ := e6
          obtain ⟨e7, d7⟩ := e7
          rw [upd_of e6]
          rw [upd_of e7]
          clear e6 e7
          have HBX := Lib.hid hbx
          clear hbx
          refine wpOp_step rfl (fun K hK => ?_)
          simp only [upd, reduceIte, Nat.reduceEqDiff]
          go_simp
          exact hK _ _ ⟨_, rfl, rfl, HBX.out.set (by decide) (by decide) (by decide) (by decide)⟩
        · obtain rfl := Option.some.inj ho
          have e8 := hpre ⟨8, .data⟩ (by simp) rfl
          clear hpre ho
          obtain ⟨e8, d8⟩ := e8
          rw [upd_of e8]
          clear e8
          have HBX := Lib.hid hbx
          clear hbx
          refine wpOp_step rfl (fun K hK => ?_)
          simp only [upd, reduceIte, Nat.reduceEqDiff]
          go_simp
          exact hK _ _ ⟨_, rfl, rfl, HBX.out.set (by decide) (by decide) (by decide) (by decide)⟩
        · obtain rfl := Option.some.inj ho
          have e9 := hpre ⟨9, .data⟩ (by simp) rfl
          clear hpre ho
          obtain ⟨e9, d9⟩ := e9
          rw [upd_of e9]
          clear e9
          have y1 := keep hbx.1.below x1
          have y2 := keep hbx.1.below x2
          have y3 := keep hbx.1.below x3
          have HBX := Lib.hid hbx
          clear hbx
          refine wpOp_step rfl (fun K hK => ?_)
          simp only [upd, reduceIte, Nat.reduceEqDiff]
          go_simp
          exact hK _ _ ⟨_, rfl, rfl, HBX.out.set (by decide) (by decide) (by decide) (by decide)⟩
        · obtain rfl := Option.some.inj ho
          clear hpre ho
          have HBX := Lib.hid hbx
          clear hbx
          refine wpOp_step rfl (fun K hK => ?_)
          simp only [upd, reduceIte, Nat.reduceEqDiff]
          go_simp
          exact hK _ _ ⟨_, rfl, rfl, HBX.out.set (by decide) (by decide) (by decide) (by decide)⟩
        · obtain rfl := Option.some.inj ho
          clear hpre ho
          have HBX := Lib.hid hbx
          clear hbx
          refine wpOp_step rfl (fun K hK => ?_)
          simp only [upd, reduceIte, Nat.reduceEqDiff]
          go_simp
          exact hK _ _ ⟨_, rfl, rfl, HBX.out.set (by decide) (by decide) (by decide) (by decide)⟩
        · obtain rfl := Option.some.inj ho
          have e11 := hpre ⟨11, .data⟩ (by simp) rfl
          have e12 := hpre ⟨12, .data⟩ (by simp) rfl
          clear hpre ho
          obtain ⟨e11, d11⟩ := e11
          obtain ⟨e12, d12⟩ := e12
          rw [upd_of e11]
          rw [upd_of e12]
          clear e11 e12
          have HBX := Lib.hid hbx
          clear hbx
          refine wpOp_step rfl (fun K hK => ?_)
          simp only [upd, reduceIte, Nat.reduceEqDiff]
          go_simp
          exact hK _ _ ⟨_, rfl, rfl, HBX.out.set (by decide) (by decide) (by decide) (by decide)⟩
        · obtain rfl := Option.some.inj ho
          have e13 := hpre ⟨13, .data⟩ (by simp) rfl
          clear hpre ho
          obtain ⟨e13, d13⟩ := e13
          rw [upd_of e13]
          clear e13
          have HBX := Lib.hid hbx
          clear hbx
          refine wpOp_step rfl (fun K hK => ?_)
          simp only [upd, reduceIte, Nat.reduceEqDiff]
          go_simp
          exact hK _ _ ⟨_, rfl, rfl, HBX.out.set (by decide) (by decide) (by decide) (by decide)⟩
        · obtain rfl := Option.some.inj ho
          have e14 := hpre ⟨14, .data⟩ (by simp) rfl
          clear hpre ho
          obtain ⟨e14, d14⟩ := e14
          rw [upd_of e14]
          clear e14
          have y1 := keep hbx.1.below x1
          have y2 := keep hbx.1.below x2
          have y3 := keep hbx.1.below x3
          have HBX := Lib.hid hbx
          clear hbx
          refine wpOp_step rfl (fun K hK => ?_)
          simp only [upd, reduceIte, Nat.reduceEqDiff]
          go_simp
          exact hK _ _ ⟨_, rfl, rfl, HBX.out.set (by decide) (by decide) (by decide) (by decide)⟩
        · obtain rfl := Option.some.inj ho
          have e0 := hpre ⟨0, .data⟩ (by simp) rfl
          have e5 := hpre ⟨5, .data⟩ (by simp) rfl
          have e10 := hpre ⟨10, .data⟩ (by simp) rfl
          have e15 := hpre ⟨15, .data⟩ (by simp) rfl
          clear hpre ho
          obtain ⟨e0, d0⟩ := e0
          obtain ⟨e5, d5⟩ := e5
          obtain ⟨e10, d10⟩ := e10
          obtain ⟨e15, d15⟩ := e15
          rw [upd_of e0]
          rw [upd_of e5]
          rw [upd_of e10]
          rw [upd_of e15]
          clear e0 e5 e10 e15
          have HBX := Lib.hid hbx
          clear hbx
          refine wpOp_step rfl (fun K hK => ?_)
          simp only [upd, reduceIte, Nat.reduceEqDiff]
          have l16 : l.getD 16 false = false := lst_no hli
          have CAL := Lib.hid (show Two w wx c X Y LL (if l.getD 33 false then Q1 else QQ) from by have := HBX.out.1; rw [l16] at this; exact this)
          go_simp
          go_wp2_with (go_at_call 16; refine (hDI.out _ _ CAL.out).mono ?_; rintro e w7 ⟨rfl, hd⟩)
          exact ⟨_, rfl, rfl, HBX.out.s16 (by omega) hd⟩
        · obtain rfl := Option.some.inj ho
          clear hpre ho
          have HBX := Lib.hid hbx
          clear hbx
          refine wpOp_step rfl (fun K hK => ?_)
          simp only [upd, reduceIte, Nat.reduceEqDiff]
          go_simp
          exact hK _ _ ⟨_, rfl, rfl, HBX.out.set (by decide) (by decide) (by decide) (by decide)⟩
        · obtain rfl := Option.some.inj ho
          clear hpre ho
          have HBX := Lib.hid hbx
          clear hbx
          refine wpOp_step rfl (fun K hK => ?_)
          simp only [upd, reduceIte, Nat.reduceEqDiff]
          go_simp
          exact hK _ _ ⟨_, rfl, rfl, HBX.out.set (by decide) (by decide) (by decide) (by decide)⟩
        · obtain rfl := Option.some.inj ho
          clear hpre ho
          have HBX := Lib.hid hbx
          clear hbx
          refine wpOp_step rfl (fun K hK => ?_)
          simp only [upd, reduceIte, Nat.reduceEqDiff]
          go_simp
          exact hK _ _ ⟨_, rfl, rfl, HBX.out.set (by decide) (by decide) (by decide) (by decide)⟩
        · obtain rfl := Option.some.inj ho
          have e18 := hpre ⟨18, .data⟩ (by simp) rfl
          have e19 := hpre ⟨19, .data⟩ (by simp) rfl
          clear hpre ho
          obtain ⟨e18, d18⟩ := e18
          obtain ⟨e19, d19⟩ := e19
          rw [upd_of e18]
          rw [upd_of e19]
          clear e18 e19
          have HBX := Lib.hid hbx
          clear hbx
          refine wpOp_step rfl (fun K hK => ?_)
          simp only [upd, reduceIte, Nat.reduceEqDiff]
          go_simp
          exact hK _ _ ⟨_, rfl, rfl, HBX.out.set (by decide) (by decide) (by decide) (by decide)⟩
        · obtain rfl := Option.some.inj ho
          have e20 := hpre ⟨20, .data⟩ (by simp) rfl
          clear hpre ho
          obtain ⟨e20, d20⟩ := e20
          rw [upd_of e20]
          clear e20
          have HBX := Lib.hid hbx
          clear hbx
          refine wpOp_step rfl (fun K hK => ?_)
          simp only [upd, reduceIte, Nat.reduceEqDiff]
          go_simp
          exact hK _ _ ⟨_, rfl, rfl, HBX.out.set (by decide) (by decide) (by decide) (by decide)⟩
        · obtain rfl := Option.some.inj ho
          have e21 := hpre ⟨21, .data⟩ (by simp) rfl
          clear hpre ho
          obtain ⟨e21, d21⟩ := e21
          rw [upd_of e21]
          clear e21
          have y1 := keep hbx.1.below x1
          have y2 := keep hbx.1.below x2
          have y3 := keep hbx.1.below x3
          have HBX := Lib.hid hbx
          clear hbx
          refine wpOp_step rfl (fun K hK => ?_)
          simp only [upd, reduceIte, Nat.reduceEqDiff]
          go_simp
          exact hK _ _ ⟨_, rfl, rfl, HBX.out.set (by decide) (by decide) (by decide) (by decide)⟩
        · obtain rfl := Option.some.inj ho
          clear hpre ho
          have HBX := Lib.hid hbx
          clear hbx
          refine wpOp_step rfl (fun K hK => ?_)
          simp only [upd, reduceIte, Nat.reduceEqDiff]
          go_simp
          exact hK _ _ ⟨_, rfl, rfl, HBX.out.set (by decide) (by decide) (by decide) (by decide)⟩
        · obtain rfl := Option.some.inj ho
          clear hpre ho
          have HBX := Lib.hid hbx
          clear hbx
          refine wpOp_step rfl (fun K hK => ?_)
          simp only [upd, reduceIte, Nat.reduceEqDiff]
          go_simp
          exact hK _ _ ⟨_, rfl, rfl, HBX.out.set (by decide) (by decide) (by decide) (by decide)⟩
        · obtain rfl := Option.some.inj ho
          have e23 := hpre ⟨23, .data⟩ (by simp) rfl
          have e24 := hpre ⟨24, .data⟩ (by simp) rfl
          clear hpre ho
          obtain ⟨e23, d23⟩ := e23
          obtain ⟨e24, d24⟩ := e24
          rw [upd_of e23]
          rw [upd_of e24]
          clear e23 e24
          have HBX := Lib.hid hbx
          clear hbx
          refine wpOp_step rfl (fun K hK => ?_)
          simp only [upd, reduceIte, Nat.reduceEqDiff]
          go_simp
          exact hK _ _ ⟨_, rfl, rfl, HBX.out.set (by decide) (by decide) (by decide) (by decide)⟩
        · obtain rfl := Option.some.inj ho
          have e25 := hpre ⟨25, .data⟩ (by simp) rfl
          clear hpre ho
          obtain ⟨e25, d25⟩ := e25
          rw [upd_of e25]
          clear e25
          have HBX := Lib.hid hbx
          clear hbx
          refine wpOp_step rfl (fun K hK => ?_)
          simp only [upd, reduceIte, Nat.reduceEqDiff]
          go_simp
          exact hK _ _ ⟨_, rfl, rfl, HBX.out.set (by decide) (by decide) (by decide) (by decide)⟩
        · obtain rfl := Option.some.inj ho
          have e26 := hpre ⟨26, .data⟩ (by simp) rfl
          clear hpre ho
          obtain ⟨e26, d26⟩ := e26
          rw [upd_of e26]
          clear e26
          have y1 := keep hbx.1.below x1
          have y2 := keep hbx.1.below x2
          have y3 := keep hbx.1.below x3
          have HBX := Lib.hid hbx
          clear hbx
          refine wpOp_step rfl (fun K hK => ?_)
          simp only [upd, reduceIte, Nat.reduceEqDiff]
          go_simp
          exact hK _ _ ⟨_, rfl, rfl, HBX.out.set (by decide) (by decide) (by decide) (by decide)⟩
        · obtain rfl := Option.some.inj ho
          clear hpre ho
          have HBX := Lib.hid hbx
          clear hbx
          refine wpOp_step rfl (fun K hK => ?_)
          simp only [upd, reduceIte, Nat.reduceEqDiff]
          go_simp
          exact hK _ _ ⟨_, rfl, rfl, HBX.out.set (by decide) (by decide) (by decide) (by decide)⟩
        · obtain rfl := Option.some.inj ho
          clear hpre ho
          have HBX := Lib.hid hbx
          clear hbx
          refine wpOp_step rfl (fun K hK => ?_)
          simp only [upd, reduceIte, Nat.reduceEqDiff]
          go_simp
          exact hK _ _ ⟨_, rfl, rfl, HBX.out.set (by decide) (by decide) (by decide) (by decide)⟩
        · obtain rfl := Option.some.inj ho
          have e28 := hpre ⟨28, .data⟩ (by simp) rfl
          have e29 := hpre ⟨29, .data⟩ (by simp) rfl
          clear hpre ho
          obtain ⟨e28, d28⟩ := e28
          obtain ⟨e29, d29⟩ := e29
          rw [upd_of e28]
          rw [upd_of e29]
          clear e28 e29
          have HBX := Lib.hid hbx
          clear hbx
          refine wpOp_step rfl (fun K hK => ?_)
          simp only [upd, reduceIte, Nat.reduceEqDiff]
          go_simp
          exact hK _ _ ⟨_, rfl, rfl, HBX.out.set (by decide) (by decide) (by decide) (by decide)⟩
        · obtain rfl := Option.some.inj ho
          have e30 := hpre ⟨30, .data⟩ (by simp) rfl
          clear hpre ho
          obtain ⟨e30, d30⟩ := e30
          rw [upd_of e30]
          clear e30
          have HBX := Lib.hid hbx
          clear hbx
          refine wpOp_step rfl (fun K hK => ?_)
          simp only [upd, reduceIte, Nat.reduceEqDiff]
          go_simp
          exact hK _ _ ⟨_, rfl, rfl, HBX.out.set (by decide) (by decide) (by decide) (by decide)⟩
        · obtain rfl := Option.some.inj ho
          have e31 := hpre ⟨31, .data⟩ (by simp) rfl
          clear hpre ho
          obtain ⟨e31, d31⟩ := e31
          rw [upd_of e31]
          clear e31
          have y1 := keep hbx.1.below x1
          have y2 := keep hbx.1.below x2
          have y3 := keep hbx.1.below x3
          have HBX := Lib.hid hbx
          clear hbx
          refine wpOp_step rfl (fun K hK => ?_)
          simp only [upd, reduceIte, Nat.reduceEqDiff]
          go_simp
          exact hK _ _ ⟨_, rfl, rfl, HBX.out.set (by decide) (by decide) (by decide) (by decide)⟩
        · obtain rfl := Option.some.inj ho
          have e17 := hpre ⟨17, .data⟩ (by simp) rfl
          have e22 := hpre ⟨22, .data⟩ (by simp) rfl
          have e27 := hpre ⟨27, .data⟩ (by simp) rfl
          have e32 := hpre ⟨32, .data⟩ (by simp) rfl
          clear hpre ho
          obtain ⟨e17, d17⟩ := e17
          obtain ⟨e22, d22⟩ := e22
          obtain ⟨e27, d27⟩ := e27
          obtain ⟨e32, d32⟩ := e32
          rw [upd_of e17]
          rw [upd_of e22]
          rw [upd_of e27]
          rw [upd_of e32]
          clear e17 e22 e27 e32
          have HBX := Lib.hid hbx
          clear hbx
          refine wpOp_step rfl (fun K hK => ?_)
          simp only [upd, reduceIte, Nat.reduceEqDiff]
          have l33 : l.getD 33 false = false := lst_no hli
          have CAL := Lib.hid (show Two w wx c X Y (if l.getD 16 false then L1 else LL) QQ from by have := HBX.out.1; rw [l33] at this; exact this)
          go_simp
          go_wp2_with (go_at_call 26; refine (hDR.out _ _ CAL.out).mono ?_; rintro e w7 ⟨rfl, hd⟩)
          exact ⟨_, rfl, rfl, HBX.out.s33 (by omega) hd⟩
        · obtain rfl := Option.some.inj ho
          have e16 := hpre ⟨16, .data⟩ (by simp) rfl
          have e33 := hpre ⟨33, .data⟩ (by simp) rfl
          clear hpre ho
          obtain ⟨e16, d16⟩ := e16
          obtain ⟨e33, d33⟩ := e33
          rw [upd_of e16]
          rw [upd_of e33]
          clear e16 e33
          have HBX := Lib.hid hbx
          clear hbx
          refine wpOp_step rfl (fun K hK => ?_)
          simp only [upd, reduceIte, Nat.reduceEqDiff]
          have NQ := nsame40
          have GU := guard40
          go_simp
          exact hK _ _ ⟨_, rfl, rfl, HBX.out.s34 d16 d33⟩
        · obtain rfl := Option.some.inj ho
          have e34 := hpre ⟨34, .data⟩ (by simp) rfl
          clear hpre ho
          obtain ⟨e34, d34⟩ := e34
          rw [upd_of e34]
          clear e34
          have HBX := Lib.hid hbx
          clear hbx
          refine wpOp_step rfl (fun K hK => ?_)
          simp only [upd, reduceIte, Nat.reduceEqDiff]
          go_simp
          exact hK _ _ ⟨_, rfl, rfl, HBX.out.s35 d34⟩
        · obtain rfl := Option.some.inj ho
          have e35 := hpre ⟨35, .guard⟩ (by simp) rfl
          clear hpre ho
          obtain ⟨e35, d35⟩ := e35
          rw [upd_of e35]
          clear e35
          have HBX := Lib.hid hbx
          clear hbx
          refine wpOp_step rfl (fun K hK => ?_)
          simp only [upd, reduceIte, Nat.reduceEqDiff]
          go_simp
          exact hK _ _ ⟨_, rfl, rfl, HBX.out.set (by decide) (by decide) (by decide) (by decide)⟩
        · obtain rfl := Option.some.inj ho
          have e36 := hpre ⟨36, .data⟩ (by simp) rfl
          have e35 := hpre ⟨35, .guard⟩ (by simp) rfl
          clear hpre ho
          obtain ⟨e36, d36⟩ := e36
          obtain ⟨e35, d35⟩ := e35
          rw [upd_of e36]
          rw [upd_of e35]
          clear e36 e35
          have HBX := Lib.hid hbx
          clear hbx
          refine wpOp_step rfl (fun K hK => ?_)
          simp only [upd, reduceIte, Nat.reduceEqDiff]
          have CAL := Lib.hid (HBX.out.done d35)
          go_simp
          go_wp2_with (go_at_call 18; refine (hLN.out _ CAL.out).mono ?_; rintro e w7 ⟨rfl, rfl⟩)
          exact ⟨_, rfl, rfl, HBX.out.set (by decide) (by decide) (by decide) (by decide)⟩
        · obtain rfl := Option.some.inj ho
          have e35 := hpre ⟨35, .guard⟩ (by simp) rfl
          clear hpre ho
          obtain ⟨e35, d35⟩ := e35
          rw [upd_of e35]
          clear e35
          have HBX := Lib.hid hbx
          clear hbx
          refine wpOp_step rfl (fun K hK => ?_)
          simp only [upd, reduceIte, Nat.reduceEqDiff]
          go_simp
          exact hK _ _ ⟨_, rfl, rfl, HBX.out.set (by decide) (by decide) (by decide) (by decide)⟩
        · obtain rfl := Option.some.inj ho
          have e38 := hpre ⟨38, .data⟩ (by simp) rfl
          have e35 := hpre ⟨35, .guard⟩ (by simp) rfl
          clear hpre ho
          obtain ⟨e38, d38⟩ := e38
          obtain ⟨e35, d35⟩ := e35
          rw [upd_of e38]
          rw [upd_of e35]
          clear e38 e35
          have HBX := Lib.hid hbx
          clear hbx
          refine wpOp_step rfl (fun K hK => ?_)
          simp only [upd, reduceIte, Nat.reduceEqDiff]
          have CAL := Lib.hid (HBX.out.done d35)
          go_simp
          go_wp2_with (go_at_call 19; refine (hTH.out _ CAL.out).mono ?_; rintro e w7 ⟨a9, c9, m9, rfl, ho9, hb9⟩)
          obtain rfl : m = m9 := HM2.out.symm.trans ho9.1
          exact ⟨_, rfl, ⟨_, _, rfl⟩, (HBX.out.grow (CAL.out.grow hb9) d35).set (by decide) (by decide) (by decide) (by decide)⟩
        · obtain rfl := Option.some.inj ho
          have e39 := hpre ⟨39, .data⟩ (by simp) rfl
          have e35 := hpre ⟨35, .guard⟩ (by simp) rfl
          clear hpre ho
          obtain ⟨e39, d39⟩ := e39
          obtain ⟨a9, c9, e39⟩ := e39
          obtain ⟨e35, d35⟩ := e35
          rw [upd_of e39]
          rw [upd_of e35]
          clear e39 e35
          have HBX := Lib.hid hbx
          clear hbx
          refine wpOp_step rfl (fun K hK => ?_)
          simp only [upd, reduceIte, Nat.reduceEqDiff]
          go_simp
          exact hK _ _ ⟨_, rfl, rfl, HBX.out.set (by decide) (by decide) (by decide) (by decide)⟩
        · obtain rfl := Option.some.inj ho
          have e37 := hpre ⟨37, .data⟩ (by simp) rfl
          have e40 := hpre ⟨40, .data⟩ (by simp) rfl
          have e35 := hpre ⟨35, .guard⟩ (by simp) rfl
          clear hpre ho
          obtain ⟨e37, d37⟩ := e37
          obtain ⟨e40, d40⟩ := e40
          obtain ⟨e35, d35⟩ := e35
          rw [upd_of e37]
          rw [upd_of e40]
          rw [upd_of e35]
          clear e37 e40 e35
          have HBX := Lib.hid hbx
          clear hbx
          refine wpOp_step rfl (fun K hK => ?_)
          simp only [upd, reduceIte, Nat.reduceEqDiff]
          have NQ : ((m : Int) != (m : Int)) = false := by simp
          go_simp
          exact hK _ _ ⟨_, rfl, rfl, HBX.out.set (by decide) (by decide) (by decide) (by decide)⟩
        · obtain rfl := Option.some.inj ho
          have e35 := hpre ⟨35, .data⟩ (by simp) rfl
          have e41 := hpre ⟨41, .data⟩ (by simp) rfl
          clear hpre ho
          obtain ⟨e35, d35⟩ := e35
          obtain ⟨e41, d41⟩ := e41
          rw [upd_of e35]
          rw [upd_of e41]
          clear e35 e41
          have HBX := Lib.hid hbx
          clear hbx
          refine wpOp_step rfl (fun K hK => ?_)
          simp only [upd, reduceIte, Nat.reduceEqDiff]
          go_simp
          exact hK _ _ ⟨_, rfl, rfl, HBX.out.set (by decide) (by decide) (by decide) (by decide)⟩
      · intro l y wx hbx hall
        have e42 := (hall 42 (by decide)).1
        have hfin := hbx.done (hall 35 (by decide)).2
        rw [upd_of e42]
        clear e42 hall hbx
        simp only [upd, reduceIte, Nat.reduceEqDiff]
        have HF := Lib.hid (show Two w wx c X Y L1 Q1 from hfin)
        clear hfin
        go_wp2
        go_roundw
        case rel => exact ⟨k + 1, by first | rfl | simp, by omega, by rw [FIN.out.1, FIN.out.2]; exact HF.out⟩
        case measure => simp [intOf]; omega
    · have hge : (n2 : Int) ≤ (k : Int) := by omega
      obtain rfl : k = n2 := by omega
      have hq1 : q.take k = q := List.take_of_length_le (by rw [HQ.out.1]; omega)
      have hLk := LEN.out k
      have hQk := RLEN.out k
      have hSk := SIM.out k
      rw [hq1] at hLk hQk hSk
      have HT1 := Lib.hid (show Two w wl c X Y (runI c q L0) (runR c q Q0) from by have := HT.out; rwa [hq1] at this)
      have T1 := Lib.hid (HT1.out.things (by omega))
      have T2 := Lib.hid (fun (W : World) (hb : Below wl.heap.size wl W) => (HT1.out.grow hb).rthings HC.out.1 HC.out.2 (by omega))
      have heq := things_tell hSk
      have hln : (tell c (runI c q L0)).length ≤ 200 := by rw [tell_len]; exact hLk
      have HH := Lib.hid (And.intro heq hln)
      clear hLk hQk hSk hq1 heq hln LEN RLEN SIM HT
      go_wp2_with fail
      refine T1.out.mono ?_
      rintro e w5 ⟨a5, c5, m5, rfl, ho5, hb5⟩
      have HO5 := Lib.hid ho5
      have HB5 := Lib.hid hb5
      clear ho5 hb5
      go_wp2_with fail
      refine (T2.out _ HB5.out).mono ?_
      rintro e w6 ⟨a6, c6, m6, rfl, ho6, hb6⟩
      have HO6 := Lib.hid ho6
      have HB6 := Lib.hid hb6
      clear ho6 hb6
      go_wp2_with fail
      refine (rsame_any _ (thsIn_own (HO5.out.below HB6.out)) (thsIn_own HO6.out) (by have := HO5.out.1; have := HH.out.2; omega)).mono ?_
      rintro e w7 ⟨rfl, hb7⟩
      have htrue : decide (tell c (runI c q L0) = things c (runR c q Q0)) = true := by simp [HH.out.1]
      rw [htrue]
      have HB7 := Lib.hid hb7
      clear hb7 htrue
      go_wp2
      go_returns
      exact ⟨X, Y, rfl, ((HT1.out.grow HB5.out).grow HB6.out).grow HB7.out⟩
end Go.Proofs.Ytphfcfnbefikiaa
