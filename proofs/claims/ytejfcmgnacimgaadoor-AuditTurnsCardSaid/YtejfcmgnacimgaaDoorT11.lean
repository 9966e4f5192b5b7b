/- What AuditTurns' walks lean on: the rows that it lays at first, its stories as slices of events. -/
import Derived.Test.YtejfcmgnacimgaaDoorT10
namespace Go.Proofs.YtejfcmgnacimgaaDoor
open Go.RowKit Go.ChangeMaps
set_option linter.unusedVariables false
set_option linter.unusedSimpArgs false

section
variable (w : World) (R : Array Value) (a b : Int)
theorem rows3a : (((w.alloc (.cells #[.int .i64 2, .int .i64 5, .int .i64 a, .int .i64 b] 24)).alloc (.cells R 54)).alloc (.cells #[.int .i64 (-1), .int .i64 0, .int .i64 0, .int .i64 0] 43)).heap[w.heap.size]? = some (.cells #[.int .i64 2, .int .i64 5, .int .i64 a, .int .i64 b] 24 (0, 0)) := by
  rw [al_heap_old _ _ (by simp; omega), al_heap_old _ _ (by simp)]
  exact al_heap_new _ _
theorem rows3b : (((w.alloc (.cells #[.int .i64 2, .int .i64 5, .int .i64 a, .int .i64 b] 24)).alloc (.cells R 54)).alloc (.cells #[.int .i64 (-1), .int .i64 0, .int .i64 0, .int .i64 0] 43)).heap[w.heap.size + 1]? = some (.cells R 54 (0, 0)) := by
  rw [al_heap_old _ _ (by simp)]
  exact alloc2_heap _ _ _
theorem rows3c : (((w.alloc (.cells #[.int .i64 2, .int .i64 5, .int .i64 a, .int .i64 b] 24)).alloc (.cells R 54)).alloc (.cells #[.int .i64 (-1), .int .i64 0, .int .i64 0, .int .i64 0] 43)).heap[w.heap.size + 2]? = some (.cells #[.int .i64 (-1), .int .i64 0, .int .i64 0, .int .i64 0] 43 (0, 0)) := by
  have := alloc2_heap (w.alloc (.cells #[.int .i64 2, .int .i64 5, .int .i64 a, .int .i64 b] 24)) (.cells R 54) (.cells #[.int .i64 (-1), .int .i64 0, .int .i64 0, .int .i64 0] 43)
  simpa using this
theorem rows3d : Below w.heap.size w (((w.alloc (.cells #[.int .i64 2, .int .i64 5, .int .i64 a, .int .i64 b] 24)).alloc (.cells R 54)).alloc (.cells #[.int .i64 (-1), .int .i64 0, .int .i64 0, .int .i64 0] 43)) := by go_grown
end

theorem flat_at : ∀ (es : List Ev) (j : Nat) (e : Ev), es[j]? = some e → ∀ k v, (evCells e)[k]? = some v → (es.flatMap fun e => (evCells e).toList)[j * 16 + k]? = some v
  | [], j, e, hj, k, v, hv => by simp at hj
  | x :: l, 0, e, hj, k, v, hv => by
    obtain rfl := Option.some.inj hj
    have hk : k < (evCells x).toList.length := by
      have := (Array.getElem?_eq_some_iff.1 hv).1
      simpa using this
    rw [List.flatMap_cons, Nat.zero_mul, Nat.zero_add, List.getElem?_append_left hk]
    simpa using hv
  | x :: l, j + 1, e, hj, k, v, hv => by
    have h16 : (evCells x).toList.length = 16 := rfl
    rw [List.flatMap_cons, List.getElem?_append_right (by omega), h16, show (j + 1) * 16 + k - 16 = j * 16 + k by omega]
    exact flat_at l j e hj k v hv

theorem evsIn_row {w : World} {b : Nat} {t : TypeId} {es : List Ev} (h : w.heap[b]? = some (.cells (rowOf es) t (0, 0))) : EvsIn (some ⟨b, 0, none⟩) es w := by
  intro j e hj
  refine ⟨b, 0, rfl, fun k v hk => ?_⟩
  rw [Nat.zero_add, row_cell h]
  unfold rowOf
  simpa using flat_at es j e hj k v hk

def okEv (e : Ev) : Bool := (Lit.int .i64 e.th).wf && (decide (-9223372036854775808 ≤ e.at_) && (decide (e.at_ ≤ 9223372036854775807) && (decide (0 ≤ e.new) && decide (e.new ≤ 18446744073709551615))))
theorem okEv_ok {e : Ev} (h : okEv e = true) : e.Ok := by
  unfold okEv at h
  rw [Bool.and_eq_true] at h
  have h2 := h.2
  simp only [Bool.and_eq_true, decide_eq_true_eq] at h2
  exact ⟨h.1, ⟨h2.1, h2.2.1⟩, ⟨h2.2.2.1, h2.2.2.2⟩⟩
def allOk : Bool := (List.range 2).all fun c => (List.range 10).all fun turn => (List.range 2).all fun t => (List.range 12).all fun g => (story turn t c g).all okEv
theorem allOk_true : allOk = true := by kernel_rfl
theorem story_ok (k t g : Nat) (hk : k < 10) (ht : t < 2) (hg : g < 12) (c : Nat) (hc : c < 2) : ∀ e ∈ story (k : Nat) t c g, e.Ok := by
  have h1 := List.all_eq_true.1 allOk_true c (List.mem_range.2 hc)
  have h2 := List.all_eq_true.1 h1 k (List.mem_range.2 hk)
  have h3 := List.all_eq_true.1 h2 t (List.mem_range.2 ht)
  have h4 := List.all_eq_true.1 h3 g (List.mem_range.2 hg)
  exact fun e he => okEv_ok (List.all_eq_true.1 h4 e he)
end Go.Proofs.YtejfcmgnacimgaaDoor
