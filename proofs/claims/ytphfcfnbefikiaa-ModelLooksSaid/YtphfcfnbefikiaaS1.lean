/- Two lists of things compared: the document's Same, slices.Equal. -/
import Derived.Test.YtphfcfnbefikiaaC1
import Derived.Laws.StructEq
namespace Go.Proofs.Ytphfcfnbefikiaa
open Go.RowKit
set_option linter.unusedVariables false
set_option linter.unusedSimpArgs false

theorem und40 : Try.prog.underlying 40 = some (.struct (Try.prog.fieldsOf 40)) := by kernel_rfl
theorem und51 : Try.prog.underlying 51 = some (.struct (Try.prog.fieldsOf 51)) := by kernel_rfl
theorem held40 : Try.prog.stoodInHeld 40 = false := by kernel_rfl
theorem held51 : Try.prog.stoodInHeld 51 = false := by kernel_rfl
theorem guard40 : Try.prog.eqGuardType Try.prog.depth 40 = false := by kernel_rfl
theorem guard51 : Try.prog.eqGuardType Try.prog.depth 51 = false := by kernel_rfl
theorem eqIn51 (a b c d : Int) (w : World) : (Op.equalIn 10000 51 (.agg #[.int .u64 a, .int .u64 b]) (.agg #[.int .u64 c, .int .u64 d])).run Try.prog w = .ok (decide ((a, b) = (c, d))) w := by
  rw [show (10000 : Nat) = 9999 + 1 from rfl, run_equalIn_agg w 9999 51 _ _ und51 held51]
  have u3 := Try.underlying38
  have a3 := Try.isAgg38
  have z3 := Try.sizeOf38
  simp only [Program.fieldsOf, Try.underlying51]
  go_simp
  by_cases h1 : a = c <;> by_cases h2 : b = d <;> simp [h1, h2]
theorem neq51 (a b c d : Int) (w : World) : (binOp .neq 51 (.agg #[.int .u64 a, .int .u64 b]) (.agg #[.int .u64 c, .int .u64 d])).run Try.prog w = .ok (.bool (!decide ((a, b) = (c, d)))) w := by
  rw [run_neq_struct, eqIn51]; rfl
theorem eqIn40 (a b c d : Int) (p q : Bool) (w : World) : (Op.equalIn 10000 40 (.agg #[.int .i64 a, .bool p, .int .u64 b]) (.agg #[.int .i64 c, .bool q, .int .u64 d])).run Try.prog w = .ok (decide ((a, p, b) = (c, q, d))) w := by
  rw [show (10000 : Nat) = 9999 + 1 from rfl, run_equalIn_agg w 9999 40 _ _ und40 held40]
  have u3 := Try.underlying38
  have a3 := Try.isAgg38
  have z3 := Try.sizeOf38
  have u4 := Try.underlying4
  have a4 := Try.isAgg4
  have z4 := Try.sizeOf4
  have u5 := Try.underlying34
  have a5 := Try.isAgg34
  have z5 := Try.sizeOf34
  simp only [Program.fieldsOf, Try.underlying40]
  go_simp
  by_cases h1 : a = c <;> by_cases h2 : b = d <;> by_cases h3 : p = q <;> simp [h1, h2, h3]
theorem neq40 (a b c d : Int) (p q : Bool) (w : World) : (binOp .neq 40 (.agg #[.int .i64 a, .bool p, .int .u64 b]) (.agg #[.int .i64 c, .bool q, .int .u64 d])).run Try.prog w = .ok (.bool (!decide ((a, p, b) = (c, q, d)))) w := by
  rw [run_neq_struct, eqIn40]; rfl
theorem eql40 (a b c d : Int) (p q : Bool) (w : World) : (binOp .eql 40 (.agg #[.int .i64 a, .bool p, .int .u64 b]) (.agg #[.int .i64 c, .bool q, .int .u64 d])).run Try.prog w = .ok (.bool (decide ((a, p, b) = (c, q, d)))) w := by
  rw [run_eql_struct, eqIn40]; rfl

theorem lists_ext {l1 l2 : List Th} {n : Nat} (h1 : l1.length = n) (h2 : l2.length = n) (h : ∀ j, j < n → l1[j]? = l2[j]?) : l1 = l2 := by
  apply List.ext_getElem?
  intro j
  by_cases hj : j < n
  · exact h j hj
  · rw [List.getElem?_eq_none (by omega), List.getElem?_eq_none (by omega)]

set_option maxHeartbeats 4000000 in
theorem rsame_any {n1 n2 cap1 cap2 : Nat} {a1 a2 : Option Addr} {l1 l2 : List Th} (w : World) (h1 : ThsIn a1 n1 l1 w) (h2 : ThsIn a2 n2 l2 w) (hn : n1 ≤ 2000) :
    Calls Try.prog 24 #[.slice a1 n1 cap1, .slice a2 n2 cap2] w fun e w' => e = .returned (.bool (decide (l1 = l2))) ∧ Below w.heap.size w w' := by
  have H1 := Lib.hid h1
  have H2 := Lib.hid h2
  have NE := neq51
  have GU := guard51
  clear h1 h2
  by_cases hne : n1 = n2
  · subst hne
    have hsame : ((n1 : Int) != (n1 : Int)) = false := by simp
    go_enter Try.func24, Try.ntmps24
    go_wp2_with fail
    go_loopw [5] (fun a wr => ∃ i q : Nat, a = i64 i ∧ i ≤ n1 ∧ wr = w.drewN q ∧ ∀ j, j < i → l1[j]? = l2[j]?) (fun a _ => n1 - (intOf a).toNat)
    case atStart => exact ⟨0, 0, rfl, by omega, rfl, fun j hj => by omega⟩
    case round =>
      obtain ⟨i, q, rfl, hi, rfl, hj⟩ := hrel
      have HJ := Lib.hid hj
      clear hj
      by_cases hlt : i < n1
      · obtain ⟨t, ht⟩ : ∃ t, l1[i]? = some t := ⟨_, List.getElem?_eq_getElem (by rw [H1.out.1]; exact hlt)⟩
        obtain ⟨s, hs⟩ : ∃ s, l2[i]? = some s := ⟨_, List.getElem?_eq_getElem (by rw [H2.out.1]; exact hlt)⟩
        obtain ⟨b1, o1, rfl, x1, x2⟩ := H1.out.2 i t ht
        obtain ⟨b2, o2, rfl, y1, y2⟩ := H2.out.2 i s hs
        have hlt' : (i : Int) < (n1 : Int) := by omega
        have u1 : ∀ q, (w.drewN q).cell? ⟨b1, o1 + i * 2, none⟩ = some (.int .u64 t.1) := fun q => x1
        have u2 : ∀ q, (w.drewN q).cell? ⟨b1, o1 + i * 2 + 1, none⟩ = some (.int .u64 t.2) := fun q => x2
        have u3 : ∀ q, (w.drewN q).cell? ⟨b2, o2 + i * 2, none⟩ = some (.int .u64 s.1) := fun q => y1
        have u4 : ∀ q, (w.drewN q).cell? ⟨b2, o2 + i * 2 + 1, none⟩ = some (.int .u64 s.2) := fun q => y2
        have HT := Lib.hid ht
        have HS := Lib.hid hs
        clear x1 x2 y1 y2 ht hs
        obtain ⟨t1, t2⟩ := t
        obtain ⟨s1, s2⟩ := s
        simp only at u1 u2 u3 u4
        by_cases k1 : t1 = s1
        · by_cases k2 : t2 = s2
          · subst k1; subst k2
            go_wp2_with fail
            go_quiet (fail)
            go_wp2
            go_roundw
            case rel => exact ⟨i + 1, q + nq, by first | rfl | simp, by omega, by first | rfl | simp, fun j hj => by
              rcases Nat.lt_or_ge j i with g | g
              · exact HJ.out j g
              · obtain rfl : j = i := by omega
                rw [HT.out, HS.out]⟩
            case measure => simp [intOf]; omega
          · have HN := Lib.hid (show decide (l1 = l2) = false by
              simp only [decide_eq_false_iff_not]
              intro e
              rw [e] at HT
              have := HT.out.symm.trans HS.out
              simp only [Option.some.injEq, Prod.mk.injEq] at this
              exact k2 this.2)
            go_wp2_with fail
            go_quiet (fail)
            go_wp2
            go_returns
            exact ⟨by rw [HN.out]; rfl, (below_drewN _ w _).trans (below_drewN _ _ _)⟩
        · have HN := Lib.hid (show decide (l1 = l2) = false by
            simp only [decide_eq_false_iff_not]
            intro e
            rw [e] at HT
            have := HT.out.symm.trans HS.out
            simp only [Option.some.injEq, Prod.mk.injEq] at this
            exact k1 this.1)
          go_wp2_with fail
          go_quiet (fail)
          go_wp2
          go_returns
          exact ⟨by rw [HN.out]; rfl, (below_drewN _ w _).trans (below_drewN _ _ _)⟩
      · have hge : (n1 : Int) ≤ (i : Int) := by omega
        have HN := Lib.hid (show decide (l1 = l2) = true by
          simp only [decide_eq_true_eq]
          exact lists_ext H1.out.1 H2.out.1 fun j hj => HJ.out j (by omega))
        go_wp2
        go_returns
        exact ⟨by rw [HN.out]; rfl, below_drewN _ w _⟩
  · have hsame : ((n1 : Int) != (n2 : Int)) = true := by simp; omega
    have HN := Lib.hid (show decide (l1 = l2) = false by
      simp only [decide_eq_false_iff_not]
      intro e
      exact hne (by rw [← H1.out.1, ← H2.out.1, e]))
    clear hne
    go_enter Try.func24, Try.ntmps24
    go_wp2
    go_returns
    exact ⟨by rw [HN.out]; rfl, by go_grown⟩

set_option maxHeartbeats 4000000 in
theorem equal_any {n1 n2 cap1 cap2 : Nat} {a1 a2 : Option Addr} {l1 l2 : List Th} (w : World) (h1 : ThsIn a1 n1 l1 w) (h2 : ThsIn a2 n2 l2 w) (hn : n1 ≤ 2000) :
    Calls Try.prog 34 #[.slice a1 n1 cap1, .slice a2 n2 cap2] w fun e w' => e = .returned (.bool (decide (l1 = l2))) ∧ Below w.heap.size w w' := by
  have H1 := Lib.hid h1
  have H2 := Lib.hid h2
  have NE := neq51
  have GU := guard51
  clear h1 h2
  by_cases hne : n1 = n2
  · subst hne
    have hsame : ((n1 : Int) != (n1 : Int)) = false := by simp
    go_enter Try.func34, Try.ntmps34
    go_wp2_with fail
    go_loopw [13] (fun a wr => ∃ i q : Nat, a = i64 i ∧ i ≤ n1 ∧ wr = w.drewN q ∧ ∀ j, j < i → l1[j]? = l2[j]?) (fun a _ => n1 - (intOf a).toNat)
    case atStart => exact ⟨0, 0, rfl, by omega, rfl, fun j hj => by omega⟩
    case round =>
      obtain ⟨i, q, rfl, hi, rfl, hj⟩ := hrel
      have HJ := Lib.hid hj
      clear hj
      by_cases hlt : i < n1
      · obtain ⟨t, ht⟩ : ∃ t, l1[i]? = some t := ⟨_, List.getElem?_eq_getElem (by rw [H1.out.1]; exact hlt)⟩
        obtain ⟨s, hs⟩ : ∃ s, l2[i]? = some s := ⟨_, List.getElem?_eq_getElem (by rw [H2.out.1]; exact hlt)⟩
        obtain ⟨b1, o1, rfl, x1, x2⟩ := H1.out.2 i t ht
        obtain ⟨b2, o2, rfl, y1, y2⟩ := H2.out.2 i s hs
        have hlt' : (i : Int) < (n1 : Int) := by omega
        have u1 : ∀ q, (w.drewN q).cell? ⟨b1, o1 + i * 2, none⟩ = some (.int .u64 t.1) := fun q => x1
        have u2 : ∀ q, (w.drewN q).cell? ⟨b1, o1 + i * 2 + 1, none⟩ = some (.int .u64 t.2) := fun q => x2
        have u3 : ∀ q, (w.drewN q).cell? ⟨b2, o2 + i * 2, none⟩ = some (.int .u64 s.1) := fun q => y1
        have u4 : ∀ q, (w.drewN q).cell? ⟨b2, o2 + i * 2 + 1, none⟩ = some (.int .u64 s.2) := fun q => y2
        have HT := Lib.hid ht
        have HS := Lib.hid hs
        clear x1 x2 y1 y2 ht hs
        obtain ⟨t1, t2⟩ := t
        obtain ⟨s1, s2⟩ := s
        simp only at u1 u2 u3 u4
        by_cases k1 : t1 = s1
        · by_cases k2 : t2 = s2
          · subst k1; subst k2
            go_wp2_with fail
            go_quiet (fail)
            go_wp2
            go_roundw
            case rel => exact ⟨i + 1, q + nq, by first | rfl | simp, by omega, by first | rfl | simp, fun j hj => by
              rcases Nat.lt_or_ge j i with g | g
              · exact HJ.out j g
              · obtain rfl : j = i := by omega
                rw [HT.out, HS.out]⟩
            case measure => simp [intOf]; omega
          · have HN := Lib.hid (show decide (l1 = l2) = false by
              simp only [decide_eq_false_iff_not]
              intro e
              rw [e] at HT
              have := HT.out.symm.trans HS.out
              simp only [Option.some.injEq, Prod.mk.injEq] at this
              exact k2 this.2)
            go_wp2_with fail
            go_quiet (fail)
            go_wp2
            go_returns
            exact ⟨by rw [HN.out]; rfl, (below_drewN _ w _).trans (below_drewN _ _ _)⟩
        · have HN := Lib.hid (show decide (l1 = l2) = false by
            simp only [decide_eq_false_iff_not]
            intro e
            rw [e] at HT
            have := HT.out.symm.trans HS.out
            simp only [Option.some.injEq, Prod.mk.injEq] at this
            exact k1 this.1)
          go_wp2_with fail
          go_quiet (fail)
          go_wp2
          go_returns
          exact ⟨by rw [HN.out]; rfl, (below_drewN _ w _).trans (below_drewN _ _ _)⟩
      · have hge : (n1 : Int) ≤ (i : Int) := by omega
        have HN := Lib.hid (show decide (l1 = l2) = true by
          simp only [decide_eq_true_eq]
          exact lists_ext H1.out.1 H2.out.1 fun j hj => HJ.out j (by omega))
        go_wp2
        go_returns
        exact ⟨by rw [HN.out]; rfl, below_drewN _ w _⟩
  · have hsame : ((n1 : Int) != (n2 : Int)) = true := by simp; omega
    have HN := Lib.hid (show decide (l1 = l2) = false by
      simp only [decide_eq_false_iff_not]
      intro e
      exact hne (by rw [← H1.out.1, ← H2.out.1, e]))
    clear hne
    go_enter Try.func34, Try.ntmps34
    go_wp2
    go_returns
    exact ⟨by rw [HN.out]; rfl, by go_grown⟩

end Go.Proofs.Ytphfcfnbefikiaa
