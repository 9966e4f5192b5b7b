/- The chapter's row: known answers true. -/
import Derived.Test.YtejfcmgnacimgaaDoorC4
namespace Go.Proofs.YtejfcmgnacimgaaDoor
open Go.RowKit Go.ChangeMaps
set_option linter.unusedVariables false
set_option linter.unusedSimpArgs false

def k1 : Ev := ⟨0, 0, 0, 5, 0, 0, 0, false, 3, 1, 1, 0, 0, 0, 0, 0⟩
def k2 : Ev := ⟨0, 0, 1, 1, 12, 0, 0, false, 0, 0, 0, 0, 0, 0, 0, 0⟩
def k3 : Ev := ⟨0, 0, 0, 5, 0, 0, 0, false, 9, 1, 0, 0, 0, 0, 0, 0⟩
theorem kOk : ∀ e ∈ [k1, k2, k3], e.Ok := by
  intro e he
  simp at he
  rcases he with rfl | rfl | rfl <;> exact ⟨by decide +kernel, by decide +kernel, by decide +kernel⟩
theorem chk_known3 : (chkF (start 1 10 1 0) 0 [k1, k2, k3]).val = .agg #[.int .i64 2, .int .i64 7, .int .i64 0, .int .i64 1] := by kernel_rfl
theorem chk_known2 : (chkF (start 1 10 1 0) 0 [k1, k2]).val = .agg #[.int .i64 (-1), .int .i64 0, .int .i64 0, .int .i64 0] := by kernel_rfl

theorem evsIn_one {w : World} {b : Nat} {c : Array Value} {t : TypeId} {es : List Ev} (h : w.heap[b]? = some (.cells c t (0, 0))) (hc : ∀ j e, es[j]? = some e → ∀ k v, (evCells e)[k]? = some v → c[j * 16 + k]? = some v) : EvsIn (some ⟨b, 0, none⟩) es w := by
  intro j e hj
  refine ⟨b, 0, rfl, fun k v hk => ?_⟩
  rw [Nat.zero_add, row_cell h]
  exact hc j e hj k v hk

def kCells : Array Value := #[.int .i64 0, .int .i64 0, .int .i64 0, .int .i64 5, .int .i64 0, .int .u64 0, .int .u64 0, .bool false, .int .i64 3, .int .i64 1, .int .i64 1, .int .i64 0, .int .i64 0, .int .i64 0, .int .u64 0, .int .i64 0, .int .i64 0, .int .i64 0, .int .i64 1, .int .i64 1, .int .i64 12, .int .u64 0, .int .u64 0, .bool false, .int .i64 0, .int .i64 0, .int .i64 0, .int .i64 0, .int .i64 0, .int .i64 0, .int .u64 0, .int .i64 0, .int .i64 0, .int .i64 0, .int .i64 0, .int .i64 5, .int .i64 0, .int .u64 0, .int .u64 0, .bool false, .int .i64 9, .int .i64 1, .int .i64 0, .int .i64 0, .int .i64 0, .int .i64 0, .int .u64 0, .int .i64 0]
theorem k_at : ∀ j e, [k1, k2, k3][j]? = some e → ∀ k v, (evCells e)[k]? = some v → kCells[j * 16 + k]? = some v := by
  intro j e hj k v hv
  have hk : k < 16 := by
    have := (Array.getElem?_eq_some_iff.1 hv).1
    simpa [evCells] using this
  match j, hj with
  | 0, hj => obtain rfl := Option.some.inj hj; rw [← hv]; match k, hk with
    | 0, _ | 1, _ | 2, _ | 3, _ | 4, _ | 5, _ | 6, _ | 7, _ | 8, _ | 9, _ | 10, _ | 11, _ | 12, _ | 13, _ | 14, _ | 15, _ => rfl
    | k + 16, h => omega
  | 1, hj => obtain rfl := Option.some.inj hj; rw [← hv]; match k, hk with
    | 0, _ | 1, _ | 2, _ | 3, _ | 4, _ | 5, _ | 6, _ | 7, _ | 8, _ | 9, _ | 10, _ | 11, _ | 12, _ | 13, _ | 14, _ | 15, _ => rfl
    | k + 16, h => omega
  | 2, hj => obtain rfl := Option.some.inj hj; rw [← hv]; match k, hk with
    | 0, _ | 1, _ | 2, _ | 3, _ | 4, _ | 5, _ | 6, _ | 7, _ | 8, _ | 9, _ | 10, _ | 11, _ | 12, _ | 13, _ | 14, _ | 15, _ => rfl
    | k + 16, h => omega
  | j + 3, hj => simp at hj
theorem k_at2 : ∀ j e, [k1, k2][j]? = some e → ∀ k v, (evCells e)[k]? = some v → kCells[j * 16 + k]? = some v := by
  intro j e hj
  refine k_at j e ?_
  match j, hj with
  | 0, hj => exact hj
  | 1, hj => exact hj
  | j + 2, hj => simp at hj

theorem sl39 (b : Nat) (W : World) : (Instr.sliceAt 39 (.slice (some ⟨b, 0, none⟩) 3 3) none (some (.int .i64 2)) none).run Tryd.prog W = .ok (.slice (some ⟨b, 0, none⟩) 2 3) W := by kernel_rfl
set_option maxHeartbeats 8000000 in
set_option maxRecDepth 100000 in
theorem known_any (w : World) (hz : Sz w) : Calls Tryd.prog 8 #[] w fun x w' => x = .returned (.bool true) ∧ Below w.heap.size w w' := by
  obtain ⟨w2, hw2⟩ : ∃ w2, w2 = ((w.alloc (.cells #[.int .i64 1, .int .i64 10, .int .i64 1, .int .i64 0] 24)).alloc (.cells kCells 54)) := ⟨_, rfl⟩
  have f0 : w2.cell? ⟨w.heap.size, 0, none⟩ = some (.int .i64 1) := by subst hw2; simp [go_sem]
  have f1 : w2.cell? ⟨w.heap.size, 1, none⟩ = some (.int .i64 10) := by subst hw2; simp [go_sem]
  have f2 : w2.cell? ⟨w.heap.size, 2, none⟩ = some (.int .i64 1) := by subst hw2; simp [go_sem]
  have f3 : w2.cell? ⟨w.heap.size, 3, none⟩ = some (.int .i64 0) := by subst hw2; simp [go_sem]
  have hh : w2.heap[w.heap.size + 1]? = some (.cells kCells 54 (0, 0)) := by subst hw2; exact alloc2_heap _ _ _
  have hb : Below w.heap.size w w2 := by subst hw2; go_grown
  have hz2 : Sz w2 := ⟨(hb.cell (World.block_lt_of_cell? _ _ hz.1)).trans hz.1, (hb.cell (World.block_lt_of_cell? _ _ hz.2)).trans hz.2⟩
  have HB := Lib.hid hb
  have CK3 := Lib.hid (show ∀ W, Below w2.heap.size w2 W → Calls Tryd.prog 14 #[.agg #[.int .i64 1, .int .i64 10, .int .i64 1, .int .i64 0], .slice (some ⟨w.heap.size + 1, 0, none⟩) 3 3] W fun x w' => x = .returned (.agg #[.int .i64 2, .int .i64 7, .int .i64 0, .int .i64 1]) ∧ Below W.heap.size W w' by
    intro W hW
    have := check_any 1 10 1 0 (by decide) (some ⟨w.heap.size + 1, 0, none⟩) 3 3 [k1, k2, k3] rfl (by decide) kOk W (hz2.below hW) ((evsIn_one hh k_at).below hW)
    rw [chk_known3] at this
    exact this)
  have CK2 := Lib.hid (show ∀ W, Below w2.heap.size w2 W → Calls Tryd.prog 14 #[.agg #[.int .i64 1, .int .i64 10, .int .i64 1, .int .i64 0], .slice (some ⟨w.heap.size + 1, 0, none⟩) 2 3] W fun x w' => x = .returned (.agg #[.int .i64 (-1), .int .i64 0, .int .i64 0, .int .i64 0]) ∧ Below W.heap.size W w' by
    intro W hW
    have := check_any 1 10 1 0 (by decide) (some ⟨w.heap.size + 1, 0, none⟩) 2 3 [k1, k2] rfl (by decide) (fun e he => kOk e (by simp at he ⊢; rcases he with h | h <;> simp [h])) W (hz2.below hW) ((evsIn_one hh k_at2).below hW)
    rw [chk_known2] at this
    exact this)
  have hs1 : w.heap.size < w2.heap.size := World.block_lt_of_cell? _ _ f0
  clear hz hz2 hh hb
  unfold kCells at hw2
  go_enter Tryd.func8, Tryd.ntmps8
  go_wp2_with fail
  trace "ONE"
  rw [← hw2]
  clear hw2
  have hsl := fun W => sl39 (w.heap.size + 1) W
  generalize Value.agg #[.int .i64 0, .int .i64 0, .int .i64 0, .int .i64 5, .int .i64 0, .int .u64 0, .int .u64 0, .bool false, .int .i64 3, .int .i64 1, .int .i64 1, .int .i64 0, .int .i64 0, .int .i64 0, .int .u64 0, .int .i64 0] = ag0
  generalize Value.agg #[.int .i64 0, .int .i64 0, .int .i64 1, .int .i64 1, .int .i64 12, .int .u64 0, .int .u64 0, .bool false, .int .i64 0, .int .i64 0, .int .i64 0, .int .i64 0, .int .i64 0, .int .i64 0, .int .u64 0, .int .i64 0] = ag1
  generalize Value.agg #[.int .i64 0, .int .i64 0, .int .i64 0, .int .i64 5, .int .i64 0, .int .u64 0, .int .u64 0, .bool false, .int .i64 9, .int .i64 1, .int .i64 0, .int .i64 0, .int .i64 0, .int .i64 0, .int .u64 0, .int .i64 0] = ag2
  generalize Value.agg #[.int .i64 3, .int .i64 1, .int .i64 1, .int .i64 0, .int .i64 0, .int .i64 0, .int .u64 0, .int .i64 0] = ag3
  generalize Value.agg #[.int .i64 9, .int .i64 1, .int .i64 0, .int .i64 0, .int .i64 0, .int .i64 0, .int .u64 0, .int .i64 0] = ag4
  go_region_with (first
    | (go_at_call 14; ((with_reducible refine (CK3.out _ ?_).mono ?_)); (any_goals (first | (show Below _ _ _; go_grown; done) | skip)); rintro x w5 ⟨rfl, hb5⟩; have HB5 := Lib.hid hb5; have g0 := keep hb5 f0; have g1 := keep hb5 f1; have g2 := keep hb5 f2; have g3 := keep hb5 f3; clear hb5)
    | (go_at_call 14; ((with_reducible refine (CK2.out _ ?_).mono ?_)); (any_goals (first | (show Below _ _ _; exact (Below.trans (by go_grown) (HB5.out.mono (by simp))); done) | skip)); rintro x w6 ⟨rfl, hb6⟩; have HB6 := Lib.hid (HB5.out.trans (hb6.mono HB5.out.size)); clear hb6))
  trace "THREE"
  all_goals
    go_wp2
    go_returns
    exact ⟨rfl, HB.out.trans (Below.mono (Below.trans (by go_grown) HB6.out) HB.out.size)⟩
end Go.Proofs.YtejfcmgnacimgaaDoor
