/- A replay of no slots; the contract of replayed: the replay of a whole list. -/
import Derived.Test.YtejfcmgnacimgaaDoorC4
namespace Go.Proofs.YtejfcmgnacimgaaDoor
open Go.RowKit Go.ChangeMaps
set_option linter.unusedVariables false
set_option linter.unusedSimpArgs false

/-- Facts of three threads and no slot. -/
structure NoneS (s : RS) : Prop where
  T : s.T = 3
  B : s.B = 0
  a : s.a = 0
  b : s.b = 0
  m : s.m = 1
  st : (s.sl 0).st = 0

theorem NoneS.has {s : RS} (h : NoneS s) (i : Int) : hasB s i = false := by
  unfold hasB
  rw [h.m]
  by_cases h1 : 1 ≤ i <;> simp <;> omega
theorem NoneS.own {s : RS} (h : NoneS s) (t i : Int) : ownB s t i = false := by
  unfold ownB
  rw [h.has, Bool.false_and]
theorem NoneS.fnd {s : RS} (h : NoneS s) (p : Int) : (fndS s.B s.a s.b p).1 = 0 := by
  unfold fndS
  rw [h.B, h.a, h.b]
  split
  · rfl
  · rw [if_neg (by omega), if_neg (by omega)]
theorem NoneS.subj {s : RS} (h : NoneS s) (e : Ev) : (subj s e).1 = 0 := by
  unfold Go.Proofs.YtejfcmgnacimgaaDoor.subj
  split
  · exact h.fnd _
  · rw [h.has, if_neg (by simp)]
theorem NoneS.setG {s : RS} (h : NoneS s) (t : Int) (g : Nat → Int × Int) : NoneS (setG s t g) := ⟨h.T, h.B, h.a, h.b, h.m, h.st⟩
theorem NoneS.setF {s : RS} (h : NoneS s) (t k : Int) (g : Int × Int) : NoneS (setF s t k g) := by
  unfold Go.Proofs.YtejfcmgnacimgaaDoor.setF
  split
  · exact h
  · exact h.setG _ _
theorem NoneS.follow {s : RS} (h : NoneS s) (i : Int) (e : Ev) : NoneS (followF s i e) := by
  unfold followF
  split
  · exact h
  · split
    · unfold clearF
      split
      · exact h.setG _ _
      · exact h.setF _ _ _
    · rw [h.has, Bool.and_false, if_neg (by simp)]
      split
      · unfold writeF
        rw [h.own, if_neg (by simp)]
        unfold pubF
        rw [h.own, if_neg (by simp)]
        exact h
      · exact h
theorem NoneS.start : NoneS (start 3 0 0 0) := ⟨by decide, by decide, by decide, by decide, by decide, by decide⟩
theorem NoneS.st' {s : RS} (h : NoneS s) : ∀ (es : List Ev) (i : Nat), NoneS (stF s i es) := by
  intro es
  induction es generalizing s with
  | nil => exact fun _ => h
  | cons e es ih => exact fun i => ih (h.follow i e) (i + 1)

def badB (e : Ev) : Bool := e.kind == 5 && (decide (0 ≤ e.th) && (decide (e.th ≤ 3) && (e.nk == 3 || (e.nk == 4 || (e.nk == 8 || e.nk == 9)))))
theorem NoneS.judge {s : RS} (h : NoneS s) (e : Ev) : (badB e = false → judgeF s e = 0) ∧ (badB e = true → judgeF s e ≠ 0) := by
  have h1 : thB s e.th = (decide (0 ≤ e.th) && decide (e.th ≤ 3)) := by unfold thB; rw [h.T]
  unfold judgeF
  simp only [h.subj, h.own, h1, h.st, Int.toNat_zero]
  unfold badB ntB
  cases e.kind == 5 <;> cases decide (0 ≤ e.th) <;> cases decide (e.th ≤ 3) <;> cases e.nk == 3 <;> cases e.nk == 4 <;> cases e.nk == 8 <;> cases e.nk == 9 <;> simp

set_option maxHeartbeats 8000000 in
set_option maxRecDepth 100000 in
theorem replayed_any (T B a b : Int) (hB : 0 ≤ B ∧ B ≤ 1000) (ad : Option Addr) (len cap : Nat) (es : List Ev) (hl : es.length = len) (hlen : len ≤ 300) (hes : ∀ e ∈ es, e.Ok) (w : World) (hz : Sz w) (hin : EvsIn ad es w) :
    Calls Tryd.prog 25 #[facts T B a b, .slice ad len cap] w fun x w' => ∃ R S M, x = .returned (.pointer (some ⟨R, 0, none⟩)) ∧ RepAt R S M (stF (start T B a b) 0 es) w' ∧ Below w.heap.size w w' := by
  have hxa := clamp_bd (x := a) (show (0 : Int) ≤ 4096 by decide)
  have hxb := clamp_bd (x := b) (show (0 : Int) ≤ 4096 by decide)
  have hm : ((1 + clamp a 4096 + clamp b 4096).toNat : Int) = 1 + clamp a 4096 + clamp b 4096 := by omega
  have HOK := Lib.hid (rs0_ok (T := T) hB hm)
  have HWK := Lib.hid (rs0_wok (clamp T 16) B (clamp a 4096) (clamp b 4096) (1 + clamp a 4096 + clamp b 4096).toNat)
  have HNR := fun w hz => newReplay_any T B a b hB _ hm w hz
  have hb0 : Below w.heap.size w (w.alloc (.cells #[.int .i64 T, .int .i64 B, .int .i64 a, .int .i64 b] 24)) := by go_grown
  have HB0 := Lib.hid hb0
  have HZ := Lib.hid (hz.below hb0)
  have HIN := Lib.hid hin
  have hsz0 : (w.alloc (.cells #[.int .i64 T, .int .i64 B, .int .i64 a, .int .i64 b] 24)).heap.size = w.heap.size + 1 := by simp
  have g0 : (w.alloc (.cells #[.int .i64 T, .int .i64 B, .int .i64 a, .int .i64 b] 24)).cell? ⟨w.heap.size, 0, none⟩ = some (.int .i64 T) := by simp [go_sem]
  have g1 : (w.alloc (.cells #[.int .i64 T, .int .i64 B, .int .i64 a, .int .i64 b] 24)).cell? ⟨w.heap.size, 1, none⟩ = some (.int .i64 B) := by simp [go_sem]
  have g2 : (w.alloc (.cells #[.int .i64 T, .int .i64 B, .int .i64 a, .int .i64 b] 24)).cell? ⟨w.heap.size, 2, none⟩ = some (.int .i64 a) := by simp [go_sem]
  have g3 : (w.alloc (.cells #[.int .i64 T, .int .i64 B, .int .i64 a, .int .i64 b] 24)).cell? ⟨w.heap.size, 3, none⟩ = some (.int .i64 b) := by simp [go_sem]
  clear hxa hxb hm hb0 hz hin
  unfold start
  generalize rs0 (clamp T 16) B (clamp a 4096) (clamp b 4096) (1 + clamp a 4096 + clamp b 4096).toNat (endS zSl) = s0 at *
  unfold facts at HNR ⊢
  go_enter Tryd.func25, Tryd.ntmps25
  go_wp2_with fail
  generalize w.alloc (.cells #[.int .i64 T, .int .i64 B, .int .i64 a, .int .i64 b] 24) = w0 at *
  refine (HNR _ HZ.out).mono ?_
  rintro x w1 ⟨R, S, M, rfl, hr, hb1, hS, hM⟩
  have HR1 := Lib.hid hr
  have HB1 := Lib.hid hb1
  have hSw : w.heap.size + 1 ≤ S := by omega
  have hMw : w.heap.size + 1 ≤ M := by omega
  have hS0 : S ≠ 0 := by omega
  have hl3 : (len : Int) ≤ 300 := by omega
  have HL := Lib.hid hl
  clear hr hb1 hS hM HNR hl g0 g1 g2 g3
  go_wp2_with fail
  go_loopw [12] (fun v wr => ∃ (j : Nat) (s : RS), j ≤ len ∧ v = .int .i64 j ∧ RepAt R S M s wr ∧ s.Ok ∧ s.Wok ∧ stF s0 0 es = stF s j (es.drop j) ∧ Below (w.heap.size + 1) w0 wr) (fun v _ => len - (intOf v).toNat)
  case atStart => exact ⟨0, s0, by omega, rfl, HR1.out, HOK.out, HWK.out, rfl, by rw [← hsz0]; exact HB1.out⟩
  case round =>
    obtain ⟨j, s, hj, rfl, hr, hok, hwk, hchk, hb⟩ := hrel
    have HR := Lib.hid hr
    have HKO := Lib.hid hok
    have HKW := Lib.hid hwk
    have HCH := Lib.hid hchk
    have HB := Lib.hid hb
    have hj3 : (j : Int) ≤ 300 := by omega
    have hzr : w.heap.size + 1 ≤ wr.heap.size := by rw [← hsz0]; exact hb.size
    clear hr hok hwk hchk hb
    by_cases hlt : j < len
    · have hjl : j < es.length := by rw [HL.out]; exact hlt
      obtain ⟨e, he⟩ : ∃ e, es[j]? = some e := ⟨es[j], List.getElem?_eq_getElem hjl⟩
      have hdrop : es.drop j = e :: es.drop (j + 1) := by
        rw [List.drop_eq_getElem_cons hjl]
        have := List.getElem?_eq_getElem hjl
        rw [he] at this
        rw [Option.some.inj this]
      have HD := Lib.hid hdrop
      have HEO := Lib.hid (hes e (List.mem_of_getElem? he))
      obtain ⟨b', off, had, hev0⟩ := HIN.out j e he
      have hbw : Below w.heap.size w wr := HB0.out.trans (HB.out.mono (by omega))
      have hev : EvIn b' (off + j * 16) e wr := hev0.below hbw
      subst had
      have m0 : wr.cell? ⟨b', off + j * 16, none⟩ = some (.int .i64 e.seq) := hev 0 _ rfl
      have m1 : wr.cell? ⟨b', off + j * 16 + 1, none⟩ = some (.int .i64 e.th) := hev 1 _ rfl
      have m2 : wr.cell? ⟨b', off + j * 16 + 2, none⟩ = some (.int .i64 e.by_) := hev 2 _ rfl
      have m3 : wr.cell? ⟨b', off + j * 16 + 3, none⟩ = some (.int .i64 e.kind) := hev 3 _ rfl
      have m4 : wr.cell? ⟨b', off + j * 16 + 4, none⟩ = some (.int .i64 e.at_) := hev 4 _ rfl
      have m5 : wr.cell? ⟨b', off + j * 16 + 5, none⟩ = some (.int .u64 e.old) := hev 5 _ rfl
      have m6 : wr.cell? ⟨b', off + j * 16 + 6, none⟩ = some (.int .u64 e.new) := hev 6 _ rfl
      have m7 : wr.cell? ⟨b', off + j * 16 + 7, none⟩ = some (.bool e.ok) := hev 7 _ rfl
      have m8 : wr.cell? ⟨b', off + j * 16 + 8, none⟩ = some (.int .i64 e.nk) := hev 8 _ rfl
      have m9 : wr.cell? ⟨b', off + j * 16 + 9, none⟩ = some (.int .i64 e.slot) := hev 9 _ rfl
      have m10 : wr.cell? ⟨b', off + j * 16 + 10, none⟩ = some (.int .i64 e.life) := hev 10 _ rfl
      have m11 : wr.cell? ⟨b', off + j * 16 + 11, none⟩ = some (.int .i64 e.guard) := hev 11 _ rfl
      have m12 : wr.cell? ⟨b', off + j * 16 + 12, none⟩ = some (.int .i64 e.read) := hev 12 _ rfl
      have m13 : wr.cell? ⟨b', off + j * 16 + 13, none⟩ = some (.int .i64 e.cls) := hev 13 _ rfl
      have m14 : wr.cell? ⟨b', off + j * 16 + 14, none⟩ = some (.int .u64 e.n) := hev 14 _ rfl
      have m15 : wr.cell? ⟨b', off + j * 16 + 15, none⟩ = some (.int .i64 e.code) := hev 15 _ rfl
      have hlt' : (j : Int) < len := by omega
      have hjn : (0 : Int) ≤ j := by omega
      clear hjl he hdrop hev0 hbw hev
      go_wp2_with
        (refine wpList_row54 _ rfl _ _ rfl e _ rfl rfl _ (al_heap_new _ _) rfl ?_
         intro w3 hb3 k3 k3s
         have HE3 := Lib.hid (EvAt.row k3)
         have hbr : Below wr.heap.size wr w3 := Below.trans (by go_grown) (hb3.mono (by simp))
         have HR3 := Lib.hid (HR.out.below hbr)
         have HB3 := Lib.hid (HB.out.trans (hbr.mono hzr))
         have hz3 : wr.heap.size < w3.heap.size := by rw [k3s]; simp
         have n0 := HE3.out.c0
         have n1 := HE3.out.c1
         have n2 := HE3.out.c2
         have n3 := HE3.out.c3
         have n4 := HE3.out.c4
         have n5 := HE3.out.c5
         have n6 := HE3.out.c6
         have n7 := HE3.out.c7
         have n8 := HE3.out.c8
         have n9 := HE3.out.c9
         have n10 := HE3.out.c10
         have n11 := HE3.out.c11
         have n12 := HE3.out.c12
         have n13 := HE3.out.c13
         have n14 := HE3.out.c14
         have n15 := HE3.out.c15
         clear hb3 k3 k3s hbr m0 m1 m2 m3 m4 m5 m6 m7 m8 m9 m10 m11 m12 m13 m14 m15)
      refine (follow_any hS0 HKO.out HKW.out j e HEO.out _ HR3.out).mono ?_
      rintro x w5 ⟨rfl, hr5, hk5⟩
      have hb5 : Below (w.heap.size + 1) w3 w5 := hk5.below hSw hMw (by omega)
      have HF := Lib.hid (show RepAt R S M (followF s j e) w5 ∧ (followF s j e).Ok ∧ (followF s j e).Wok ∧ stF s0 0 es = stF (followF s j e) (j + 1) (es.drop (j + 1)) ∧ Below (w.heap.size + 1) w0 w5 from
        ⟨hr5, followF_ok HKO.out _ _, followF_wok HKW.out _ _ HEO.out, by rw [HCH.out, HD.out]; rfl, HB3.out.trans hb5⟩)
      clear hr5 hk5 hb5 n0 n1 n2 n3 n4 n5 n6 n7 n8 n9 n10 n11 n12 n13 n14 n15
      go_wp2
      go_roundw
      case rel => exact ⟨j + 1, _, by omega, by go_num, HF.out⟩
      case measure => simp [intOf]; omega
    · obtain rfl : j = len := by omega
      have HX := Lib.hid (show stF s0 0 es = s by rw [HCH.out, List.drop_of_length_le (by rw [HL.out]; exact Nat.le_refl _)]; rfl)
      go_wp2
      go_returns
      exact ⟨R, S, M, rfl, by rw [HX.out]; exact HR.out, HB0.out.trans (HB.out.mono (by omega))⟩

theorem sl71x (b : Nat) : ∃ X, ∀ W, (Instr.sliceAt 71 (.slice (some ⟨b, 0, none⟩) 1 1) (some (.int .i64 1)) none none).run Tryd.prog W = .ok (.slice X 0 0) W := ⟨some ⟨b, 0, none⟩, fun W => by kernel_rfl⟩
end Go.Proofs.YtejfcmgnacimgaaDoor
