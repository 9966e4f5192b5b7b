/- The contract of Check: the first event that breaks a rule. -/
import Derived.Test.YtejfcmgnacimgaaDoorC1
import Derived.Test.YtejfcmgnacimgaaDoorC2
import Derived.Test.YtejfcmgnacimgaaDoorC3
namespace Go.Proofs.YtejfcmgnacimgaaDoor
open Go.RowKit Go.ChangeMaps
set_option linter.unusedVariables false
set_option linter.unusedSimpArgs false

theorem setF_ok {s : RS} (h : s.Ok) (t k : Int) (g : Int × Int) : (setF s t k g).Ok := by unfold setF; split; exact h; exact setG_ok h _ _
theorem setF_wok {s : RS} (h : s.Wok) (t k : Int) (g : Int × Int) : (setF s t k g).Wok := by unfold setF; split; exact h; exact h
theorem noteF_ok {s : RS} (h : s.Ok) (at_ t : Int) (e : Ev) (n : Nat) : (noteF s at_ t e n).Ok := by
  unfold noteF
  repeat' (first | exact h | exact setSl_ok h _ _ | exact setF_ok h _ _ _ | split)
theorem endS_w (x : Sl) (j : Nat) : 0 ≤ (endS x).ws j ∧ (endS x).ws j ≤ 18446744073709551615 := by simp [endS]
theorem noteF_wok {s : RS} (h : s.Wok) (at_ t : Int) (e : Ev) (n : Nat) : (noteF s at_ t e n).Wok := by
  unfold noteF
  repeat' (first | exact h | exact setSl_wok h _ _ (fun j => endS_w (s.sl n) j) | exact setSl_wok h _ _ (h n) | exact setF_wok h _ _ _ | split)
theorem followF_ok {s : RS} (h : s.Ok) (at_ : Int) (e : Ev) : (followF s at_ e).Ok := by
  unfold followF
  cases hT : thB s e.th
  · rw [if_pos (by simp)]; exact h
  · rw [if_neg (by simp)]
    split
    · unfold clearF; split; exact setG_ok h _ _; exact setF_ok h _ _ _
    · split
      · exact noteF_ok h _ _ _ _
      · split
        · unfold writeF
          split
          · split
            · exact setSl_ok h _ _
            · exact h
          · exact (pubF_own _ _ (thB_yes hT) _ _ _).2 h
        · exact h
theorem followF_wok {s : RS} (h : s.Wok) (at_ : Int) (e : Ev) (he : e.Ok) : (followF s at_ e).Wok := by
  unfold followF
  split
  · exact h
  · split
    · unfold clearF; split; exact h; exact setF_wok h _ _ _
    · split
      · exact noteF_wok h _ _ _ _
      · split
        · unfold writeF
          split
          · split
            · refine setSl_wok h _ _ fun j => ?_
              simp only [wrS]
              split
              · exact he.new
              · exact h _ j
            · exact h
          · exact pubF_wok h _ _ _ _
        · exact h

structure Vd where
  at_ : Int
  fault : Int
  th : Int
  slot : Int
def Vd.val (v : Vd) : Value := .agg #[.int .i64 v.at_, .int .i64 v.fault, .int .i64 v.th, .int .i64 v.slot]
def noV : Vd := ⟨-1, 0, 0, 0⟩

def chkF : RS → Nat → List Ev → Vd
  | _, _, [] => noV
  | s, i, e :: l => if judgeF s e = 0 then chkF (followF s i e) (i + 1) l else ⟨i, judgeF s e, e.th, (subj s e).1⟩

def stF : RS → Nat → List Ev → RS
  | s, _, [] => s
  | s, i, e :: l => stF (followF s i e) (i + 1) l

/-- An event lies at a place. -/
def EvIn (b off : Nat) (e : Ev) (w : World) : Prop := ∀ k v, (evCells e)[k]? = some v → w.cell? ⟨b, off + k, none⟩ = some v
/-- A slice of events. -/
def EvsIn (ad : Option Addr) (es : List Ev) (w : World) : Prop := ∀ j e, es[j]? = some e → ∃ b off, ad = some ⟨b, off, none⟩ ∧ EvIn b (off + j * 16) e w

theorem EvIn.below {b off : Nat} {e : Ev} {w w' : World} (h : EvIn b off e w) (hb : Below w.heap.size w w') : EvIn b off e w' := fun k v hk => keep hb (h k v hk)
theorem EvsIn.below {ad : Option Addr} {es : List Ev} {w w' : World} (h : EvsIn ad es w) (hb : Below w.heap.size w w') : EvsIn ad es w' := fun j e hj => by
  obtain ⟨b, off, h1, h2⟩ := h j e hj
  exact ⟨b, off, h1, h2.below hb⟩

section
variable {ops : Array Oper} {rest : List Oper} {o : Oper} {a : Act} {Q : Exit → Act → World → Prop}
theorem info54 : (Tryd.prog.info? 54).map (·.size) = some 16 := by kernel_rfl
theorem wpList_row54 (w : World) (hg : o.guard = none) (x y : Operand) (hop : o.op = Op.store 54 x y) (e : Ev) (B : Nat) (hx : a.eval x = .pointer (some ⟨B, 0, none⟩)) (hy : a.eval y = .agg (evCells e))
    (old : Array Value) (hw : w.heap[B]? = some (.cells old 54 (0, 0))) (ho : old.size = 16)
    (hK : ∀ w', Below B w w' → w'.heap[B]? = some (.cells (evCells e) 54 (0, 0)) → w'.heap.size = w.heap.size → wpList Tryd.prog ops Q rest (a.put o.dst undef) w') :
    wpList Tryd.prog ops Q (o :: rest) a w := by
  refine wpList_plain hg fun K' hK' => ?_
  refine wp_store_row 54 x y hop B (evCells e) hx hy 54 old hw info54 ho (by unfold evCells; simp [Value.oneCell']) (hK' _ _ ?_)
  have hoth : ∀ k, k ≠ B → (w.setRow B (evCells e)).heap[k]? = w.heap[k]? := fun k hk => by
    simp only [World.setRow, Array.getElem?_modify]; rw [if_neg (by omega)]
  exact hK _ ⟨rfl, rfl, rfl, by simp [World.setRow], fun k hk => hoth k (by omega)⟩ (setRow_heap w B old (evCells e) 54 (0, 0) hw) (by simp [World.setRow])
end
theorem EvAt.row {w : World} {B : Nat} {e : Ev} (h : w.heap[B]? = some (.cells (evCells e) 54 (0, 0))) : EvAt B e w := by
  constructor <;> simp [World.cell?, h, evCells]

theorem rs0_ok {T B a b : Int} {m : Nat} (hB : 0 ≤ B ∧ B ≤ 1000) (hm : (m : Int) = 1 + clamp a 4096 + clamp b 4096) : (rs0 (clamp T 16) B (clamp a 4096) (clamp b 4096) m (endS zSl)).Ok :=
  ⟨clamp_bd (by decide), hB, clamp_bd (by decide), clamp_bd (by decide), hm⟩
theorem rs0_wok (T B a b : Int) (m : Nat) : (rs0 T B a b m (endS zSl)).Wok := fun i j => endS_w _ j

/-- What Check goes by, of facts. -/
def start (T B a b : Int) : RS := rs0 (clamp T 16) B (clamp a 4096) (clamp b 4096) (1 + clamp a 4096 + clamp b 4096).toNat (endS zSl)

theorem chk_step {s : RS} {i : Nat} {e : Ev} {l : List Ev} (h : judgeF s e = 0) : chkF s i (e :: l) = chkF (followF s i e) (i + 1) l := by
  rw [chkF, if_pos h]
theorem chk_stop {s : RS} {i : Nat} {e : Ev} {l : List Ev} (h : judgeF s e ≠ 0) : chkF s i (e :: l) = ⟨i, judgeF s e, e.th, (subj s e).1⟩ := by
  rw [chkF, if_neg h]

set_option maxHeartbeats 8000000 in
set_option maxRecDepth 100000 in
theorem check_any (T B a b : Int) (hB : 0 ≤ B ∧ B ≤ 1000) (ad : Option Addr) (len cap : Nat) (es : List Ev) (hl : es.length = len) (hlen : len ≤ 300) (hes : ∀ e ∈ es, e.Ok) (w : World) (hz : Sz w) (hin : EvsIn ad es w) :
    Calls Tryd.prog 14 #[facts T B a b, .slice ad len cap] w fun x w' => x = .returned (chkF (start T B a b) 0 es).val ∧ Below w.heap.size w w' := by
  have hxa := clamp_bd (x := a) (show (0 : Int) ≤ 4096 by decide)
  have hxb := clamp_bd (x := b) (show (0 : Int) ≤ 4096 by decide)
  have hm : ((1 + clamp a 4096 + clamp b 4096).toNat : Int) = 1 + clamp a 4096 + clamp b 4096 := by omega
  have HOK := Lib.hid (rs0_ok (T := T) hB hm)
  have HWK := Lib.hid (rs0_wok (clamp T 16) B (clamp a 4096) (clamp b 4096) (1 + clamp a 4096 + clamp b 4096).toNat)
  have HNR := fun w hz => newReplay_any T B a b hB _ hm w hz
  have hb0 : Below w.heap.size w ((w.alloc (.cells #[.int .i64 T, .int .i64 B, .int .i64 a, .int .i64 b] 24)).alloc (.cells #[.int .i64 0, .int .i64 0, .int .i64 0, .int .i64 0] 43)) := by go_grown
  have v0 : ((w.alloc (.cells #[.int .i64 T, .int .i64 B, .int .i64 a, .int .i64 b] 24)).alloc (.cells #[.int .i64 0, .int .i64 0, .int .i64 0, .int .i64 0] 43)).heap[w.heap.size + 1]? = some (.cells #[.int .i64 0, .int .i64 0, .int .i64 0, .int .i64 0] 43 (0, 0)) := alloc2_heap _ _ _
  have HB0 := Lib.hid hb0
  have HV0 := Lib.hid v0
  have HZ := Lib.hid (hz.below hb0)
  have HIN := Lib.hid hin
  have hz0 := hz
  have hsz0 : ((w.alloc (.cells #[.int .i64 T, .int .i64 B, .int .i64 a, .int .i64 b] 24)).alloc (.cells #[.int .i64 0, .int .i64 0, .int .i64 0, .int .i64 0] 43)).heap.size = w.heap.size + 2 := by simp
  clear hxa hxb hm hb0 hz hin v0 hz0
  unfold start
  generalize rs0 (clamp T 16) B (clamp a 4096) (clamp b 4096) (1 + clamp a 4096 + clamp b 4096).toNat (endS zSl) = s0 at *
  unfold facts at HNR ⊢
  go_enter Tryd.func14, Tryd.ntmps14
  go_wp2_with fail
  generalize (w.alloc (.cells #[.int .i64 T, .int .i64 B, .int .i64 a, .int .i64 b] 24)).alloc (.cells #[.int .i64 0, .int .i64 0, .int .i64 0, .int .i64 0] 43) = w0 at *
  refine (HNR _ HZ.out).mono ?_
  rintro x w1 ⟨R, S, M, rfl, hr, hb1, hS, hM⟩
  have HR1 := Lib.hid hr
  have HB1 := Lib.hid hb1
  have hSw : w.heap.size + 2 ≤ S := by omega
  have hMw : w.heap.size + 2 ≤ M := by omega
  have hS0 : S ≠ 0 := by omega
  have hl3 : (len : Int) ≤ 300 := by omega
  have HL := Lib.hid hl
  clear hr hb1 hS hM HNR hl
  go_wp2_with fail
  go_loopw [14] (fun v wr => ∃ (j : Nat) (s : RS), j ≤ len ∧ v = .int .i64 j ∧ RepAt R S M s wr ∧ s.Ok ∧ s.Wok ∧ chkF s0 0 es = chkF s j (es.drop j) ∧ Below (w.heap.size + 2) w0 wr) (fun v _ => len - (intOf v).toNat)
  case atStart => exact ⟨0, s0, by omega, rfl, HR1.out, HOK.out, HWK.out, rfl, by rw [← hsz0]; exact HB1.out⟩
  case round =>
    rename_i wr
    obtain ⟨j, s, hj, rfl, hr, hok, hwk, hchk, hb⟩ := hrel
    have HR := Lib.hid hr
    have HKO := Lib.hid hok
    have HKW := Lib.hid hwk
    have HCH := Lib.hid hchk
    have HB := Lib.hid hb
    have hj3 : (j : Int) ≤ 300 := by omega
    have hzr : w.heap.size + 2 ≤ wr.heap.size := by rw [← hsz0]; exact hb.size
    clear hr hok hwk hchk hb
    by_cases hlt : j < len
    · have hjl : j < es.length := by rw [HL.out]; exact hlt
      obtain ⟨e, he⟩ : ∃ e, es[j]? = some e := ⟨es[j], List.getElem?_eq_getElem hjl⟩
      have hdrop : es.drop j = e :: es.drop (j + 1) := by
        rw [List.drop_eq_getElem_cons hjl]
        have := List.getElem?_eq_getElem hjl
        rw [he] at this
        rw [Option.some.inj this]
      have HD := Lib.hid hdrop
      have HEO := Lib.hid (hes e (List.mem_of_getElem? he))
      obtain ⟨b, off, had, hev0⟩ := HIN.out j e he
      have hbw : Below w.heap.size w wr := HB0.out.trans (HB.out.mono (by omega))
      have hev : EvIn b (off + j * 16) e wr := hev0.below hbw
      subst had
      have m0 : wr.cell? ⟨b, off + j * 16, none⟩ = some (.int .i64 e.seq) := hev 0 _ rfl
      have m1 : wr.cell? ⟨b, off + j * 16 + 1, none⟩ = some (.int .i64 e.th) := hev 1 _ rfl
      have m2 : wr.cell? ⟨b, off + j * 16 + 2, none⟩ = some (.int .i64 e.by_) := hev 2 _ rfl
      have m3 : wr.cell? ⟨b, off + j * 16 + 3, none⟩ = some (.int .i64 e.kind) := hev 3 _ rfl
      have m4 : wr.cell? ⟨b, off + j * 16 + 4, none⟩ = some (.int .i64 e.at_) := hev 4 _ rfl
      have m5 : wr.cell? ⟨b, off + j * 16 + 5, none⟩ = some (.int .u64 e.old) := hev 5 _ rfl
      have m6 : wr.cell? ⟨b, off + j * 16 + 6, none⟩ = some (.int .u64 e.new) := hev 6 _ rfl
      have m7 : wr.cell? ⟨b, off + j * 16 + 7, none⟩ = some (.bool e.ok) := hev 7 _ rfl
      have m8 : wr.cell? ⟨b, off + j * 16 + 8, none⟩ = some (.int .i64 e.nk) := hev 8 _ rfl
      have m9 : wr.cell? ⟨b, off + j * 16 + 9, none⟩ = some (.int .i64 e.slot) := hev 9 _ rfl
      have m10 : wr.cell? ⟨b, off + j * 16 + 10, none⟩ = some (.int .i64 e.life) := hev 10 _ rfl
      have m11 : wr.cell? ⟨b, off + j * 16 + 11, none⟩ = some (.int .i64 e.guard) := hev 11 _ rfl
      have m12 : wr.cell? ⟨b, off + j * 16 + 12, none⟩ = some (.int .i64 e.read) := hev 12 _ rfl
      have m13 : wr.cell? ⟨b, off + j * 16 + 13, none⟩ = some (.int .i64 e.cls) := hev 13 _ rfl
      have m14 : wr.cell? ⟨b, off + j * 16 + 14, none⟩ = some (.int .u64 e.n) := hev 14 _ rfl
      have m15 : wr.cell? ⟨b, off + j * 16 + 15, none⟩ = some (.int .i64 e.code) := hev 15 _ rfl
      have hlt' : (j : Int) < len := by omega
      have hjn : (0 : Int) ≤ j := by omega
      clear hjl he hdrop hev0 hbw hev
      go_wp2_with
        (refine wpList_row54 _ rfl _ _ rfl e _ rfl rfl _ (al_heap_new _ _) rfl ?_
         intro w3 hb3 k3 k3s
         have HE3 := Lib.hid (EvAt.row k3)
         have hbr : Below wr.heap.size wr w3 := Below.trans (by go_grown) (hb3.mono (by simp))
         have HR3 := Lib.hid (HR.out.below hbr)
         have HB3 := Lib.hid (HB.out.trans (hbr.mono hzr))
         have hz3 : wr.heap.size < w3.heap.size := by rw [k3s]; simp
         have n0 := HE3.out.c0
         have n1 := HE3.out.c1
         have n2 := HE3.out.c2
         have n3 := HE3.out.c3
         have n4 := HE3.out.c4
         have n5 := HE3.out.c5
         have n6 := HE3.out.c6
         have n7 := HE3.out.c7
         have n8 := HE3.out.c8
         have n9 := HE3.out.c9
         have n10 := HE3.out.c10
         have n11 := HE3.out.c11
         have n12 := HE3.out.c12
         have n13 := HE3.out.c13
         have n14 := HE3.out.c14
         have n15 := HE3.out.c15
         clear hb3 k3 k3s hbr m0 m1 m2 m3 m4 m5 m6 m7 m8 m9 m10 m11 m12 m13 m14 m15)
      refine (judge_any HKO.out e HEO.out _ HR3.out).mono ?_
      rintro x w4 ⟨rfl, hb4⟩
      have HE4 := Lib.hid (HE3.out.below hb4)
      have HR4 := Lib.hid (HR3.out.below hb4)
      have HB4 := Lib.hid (HB3.out.trans (hb4.mono (by omega)))
      have hz4 : w.heap.size + 2 ≤ w4.heap.size := by have := hb4.size; omega
      clear hb4 HR3 HE3 HB3 hz3 n0 n1 n2 n3 n4 n5 n6 n7 n8 n9 n10 n11 n12 n13 n14 n15
      by_cases hj0 : judgeF s e = 0
      · rw [hj0]
        have HS := Lib.hid (chk_step (i := j) (l := es.drop (j + 1)) hj0)
        clear hj0
        have n0 := HE4.out.c0
        have n1 := HE4.out.c1
        have n2 := HE4.out.c2
        have n3 := HE4.out.c3
        have n4 := HE4.out.c4
        have n5 := HE4.out.c5
        have n6 := HE4.out.c6
        have n7 := HE4.out.c7
        have n8 := HE4.out.c8
        have n9 := HE4.out.c9
        have n10 := HE4.out.c10
        have n11 := HE4.out.c11
        have n12 := HE4.out.c12
        have n13 := HE4.out.c13
        have n14 := HE4.out.c14
        have n15 := HE4.out.c15
        go_wp2_with fail
        refine (follow_any hS0 HKO.out HKW.out j e HEO.out _ HR4.out).mono ?_
        rintro x w5 ⟨rfl, hr5, hk5⟩
        have hb5 : Below (w.heap.size + 2) w4 w5 := hk5.below hSw hMw hz4
        have HF := Lib.hid (show RepAt R S M (followF s j e) w5 ∧ (followF s j e).Ok ∧ (followF s j e).Wok ∧ chkF s0 0 es = chkF (followF s j e) (j + 1) (es.drop (j + 1)) ∧ Below (w.heap.size + 2) w0 w5 from
          ⟨hr5, followF_ok HKO.out _ _, followF_wok HKW.out _ _ HEO.out, by rw [HCH.out, HD.out]; exact HS.out, HB4.out.trans hb5⟩)
        clear hr5 hk5 hb5 n0 n1 n2 n3 n4 n5 n6 n7 n8 n9 n10 n11 n12 n13 n14 n15
        go_wp2
        go_roundw
        case rel => exact ⟨j + 1, _, by omega, by go_num, HF.out⟩
        case measure => simp [intOf]; omega
      · have hjb : (judgeF s e != 0) = true := by simpa using hj0
        have HS := Lib.hid (chk_stop (i := j) (l := es.drop (j + 1)) hj0)
        have n1 := HE4.out.c1
        clear hj0
        have hv : w4.heap[w.heap.size + 1]? = some (.cells #[.int .i64 0, .int .i64 0, .int .i64 0, .int .i64 0] 43 (0, 0)) := (HB4.out.block _ (by omega)).trans HV0.out
        have hva : w4.cell? ⟨w.heap.size + 1, 0, none⟩ = some (.int .i64 0) := row_cell hv 0
        have hvb : w4.cell? ⟨w.heap.size + 1, 1, none⟩ = some (.int .i64 0) := row_cell hv 1
        have hvc : w4.cell? ⟨w.heap.size + 1, 2, none⟩ = some (.int .i64 0) := row_cell hv 2
        have hvd : w4.cell? ⟨w.heap.size + 1, 3, none⟩ = some (.int .i64 0) := row_cell hv 3
        have hvf : ∀ o, w4.frozen? ⟨w.heap.size + 1, o, none⟩ = false := fun o => row_frozen hv o
        clear hv
        go_wp2
        have f0 : ∀ u, (w4.setCell ⟨w.heap.size + 1, 0, none⟩ u).cell? ⟨w.heap.size + 1, 0, none⟩ = some u := fun u => cset_same hva
        have f1 : ∀ r u, ((w4.setCell ⟨w.heap.size + 1, 0, none⟩ r).setCell ⟨w.heap.size + 1, 1, none⟩ u).cell? ⟨w.heap.size + 1, 1, none⟩ = some u := fun r u => cset_same ((cset_other (by simp)).trans hvb)
        have f2 : ∀ q r u, (((w4.setCell ⟨w.heap.size + 1, 0, none⟩ q).setCell ⟨w.heap.size + 1, 1, none⟩ r).setCell ⟨w.heap.size + 1, 2, none⟩ u).cell? ⟨w.heap.size + 1, 2, none⟩ = some u := fun q r u => cset_same ((cset_other (by simp)).trans ((cset_other (by simp)).trans hvc))
        have f3 : ∀ p q r u, ((((w4.setCell ⟨w.heap.size + 1, 0, none⟩ p).setCell ⟨w.heap.size + 1, 1, none⟩ q).setCell ⟨w.heap.size + 1, 2, none⟩ r).setCell ⟨w.heap.size + 1, 3, none⟩ u).cell? ⟨w.heap.size + 1, 3, none⟩ = some u := fun p q r u => cset_same ((cset_other (by simp)).trans ((cset_other (by simp)).trans ((cset_other (by simp)).trans hvd)))
        refine bodyPost_ret (v := .agg #[.int .i64 j, .int .i64 (judgeF s e), .int .i64 e.th, .int .i64 (subj s e).1]) (by simp [results, Tryd.results14, go_sem, f0, f1, f2, f3]) rfl ?_
        refine ⟨?_, HB0.out.trans (Below.mono (by
          exact ((((HB4.out.mono (show w.heap.size ≤ w.heap.size + 2 by omega)).setCell (by simp) _).setCell (by simp) _).setCell (by simp) _).setCell (by simp) _) (Nat.le_refl _))⟩
        rw [HCH.out, HD.out, HS.out]
        rfl
    · obtain rfl : j = len := by omega
      have hv : wr.heap[w.heap.size + 1]? = some (.cells #[.int .i64 0, .int .i64 0, .int .i64 0, .int .i64 0] 43 (0, 0)) := (HB.out.block _ (by omega)).trans HV0.out
      have hva : wr.cell? ⟨w.heap.size + 1, 0, none⟩ = some (.int .i64 0) := row_cell hv 0
      have hvb : wr.cell? ⟨w.heap.size + 1, 1, none⟩ = some (.int .i64 0) := row_cell hv 1
      have hvc : wr.cell? ⟨w.heap.size + 1, 2, none⟩ = some (.int .i64 0) := row_cell hv 2
      have hvd : wr.cell? ⟨w.heap.size + 1, 3, none⟩ = some (.int .i64 0) := row_cell hv 3
      have hvf : ∀ o, wr.frozen? ⟨w.heap.size + 1, o, none⟩ = false := fun o => row_frozen hv o
      clear hv
      go_wp2
      have f0 : ∀ u, (wr.setCell ⟨w.heap.size + 1, 0, none⟩ u).cell? ⟨w.heap.size + 1, 0, none⟩ = some u := fun u => cset_same hva
      have f1 : ∀ r u, ((wr.setCell ⟨w.heap.size + 1, 0, none⟩ r).setCell ⟨w.heap.size + 1, 1, none⟩ u).cell? ⟨w.heap.size + 1, 1, none⟩ = some u := fun r u => cset_same ((cset_other (by simp)).trans hvb)
      have f2 : ∀ q r u, (((wr.setCell ⟨w.heap.size + 1, 0, none⟩ q).setCell ⟨w.heap.size + 1, 1, none⟩ r).setCell ⟨w.heap.size + 1, 2, none⟩ u).cell? ⟨w.heap.size + 1, 2, none⟩ = some u := fun q r u => cset_same ((cset_other (by simp)).trans ((cset_other (by simp)).trans hvc))
      have f3 : ∀ p q r u, ((((wr.setCell ⟨w.heap.size + 1, 0, none⟩ p).setCell ⟨w.heap.size + 1, 1, none⟩ q).setCell ⟨w.heap.size + 1, 2, none⟩ r).setCell ⟨w.heap.size + 1, 3, none⟩ u).cell? ⟨w.heap.size + 1, 3, none⟩ = some u := fun p q r u => cset_same ((cset_other (by simp)).trans ((cset_other (by simp)).trans ((cset_other (by simp)).trans hvd)))
      refine bodyPost_ret (v := .agg #[.int .i64 (-1), .int .i64 0, .int .i64 0, .int .i64 0]) (by simp [results, Tryd.results14, go_sem, f0, f1, f2, f3]) rfl ?_
      refine ⟨?_, HB0.out.trans (Below.mono (by
          exact ((((HB.out.mono (show w.heap.size ≤ w.heap.size + 2 by omega)).setCell (by simp) _).setCell (by simp) _).setCell (by simp) _).setCell (by simp) _) (Nat.le_refl _))⟩
      rw [HCH.out, List.drop_of_length_le (by rw [HL.out]; exact Nat.le_refl _)]
      rfl
end Go.Proofs.YtejfcmgnacimgaaDoor
