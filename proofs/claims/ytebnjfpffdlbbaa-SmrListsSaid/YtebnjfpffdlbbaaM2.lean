/- smr's New, of any number of threads. -/
import Derived.Test.YtebnjfpffdlbbaaM1
namespace Go.Proofs.Ytebnjfpffdlbbaa
open Go.RowKit
set_option linter.unusedVariables false
set_option linter.unusedSimpArgs false

def led (i : Nat) : Array Value := #[.slice none 0 0, .int .i64 0]
theorem info76 : (Try.prog.info? 76).map (fun i => (i.zero, i.size, i.bytes)) = some (some (.pointer none), 1, 8) := by kernel_rfl
theorem cfgC_T (T : Nat) (h : 1 ≤ T ∧ T ≤ 16) : cfgC T 0 0 0 0 0 0 = cfg T 0 0 1 0 1 1 := by
  have e : cl (T : Int) 1 16 = T := by unfold cl; omega
  unfold cfgC
  rw [e]
  have e1 : cl 0 0 4096 = 0 := by decide
  have e2 : cl 0 1 256 = 1 := by decide
  have e3 : cl 0 0 32 = 0 := by decide
  have e4 : cl 0 1 64 = 1 := by decide
  have e5 : cl 0 1 1099511627711 = 1 := by decide
  rw [e1, e2, e3, e4, e5]

/-- A base's cells at first. -/
def bcells (T : Nat) (wv : Value) (at_ : Int) : Array Value := #[.int .i64 T, .int .i64 0, .int .i64 0, .int .i64 1, .int .i64 0, .int .i64 1, .int .u64 1, wv, .pointer none, .pointer none, .pointer none, .int .i64 at_, .slice none 0 0]

set_option maxHeartbeats 8000000 in
set_option maxRecDepth 100000 in
theorem sNew_l (T : Nat) (hT : 1 ≤ T ∧ T ≤ 16) (wo : Option Addr) (at_ : Int) (w : World) :
    Calls Try.prog 19 #[.agg #[.int .i64 T, .int .i64 0, .int .i64 0, .int .i64 0, .int .i64 0, .int .i64 0, .int .u64 0], .pointer wo, .pointer none, .pointer none, .pointer none, .int .i64 at_] w fun e w' =>
      ∃ B v ys Ls w0, e = .returned (.pointer (some ⟨B, 0, none⟩)) ∧ Mk B 12 76 79 led (B + 1) (T + 1) v ys Ls w0 w' ∧ Below w.heap.size w w0 ∧ w.heap.size ≤ B ∧ w0.heap[B]? = some (.cells (bcells T (.pointer wo) at_) 69 (0, 0)) := by
  obtain ⟨i, hi, hz, h1, h8⟩ : ∃ i, Try.prog.info? 76 = some i ∧ i.zero = some (.pointer none) ∧ i.size = 1 ∧ i.bytes = 8 := by
    have := info76
    cases hh : Try.prog.info? 76 with
    | none => rw [hh] at this; cases this
    | some i => rw [hh] at this; simp at this; exact ⟨i, rfl, this.1, this.2.1, this.2.2⟩
  have C1 : ∀ w, Calls Try.prog 9 #[.agg #[.int .i64 T, .int .i64 0, .int .i64 0, .int .i64 0, .int .i64 0, .int .i64 0, .int .u64 0]] w fun e w' => e = .returned (.agg #[.int .i64 T, .int .i64 0, .int .i64 0, .int .i64 1, .int .i64 0, .int .i64 1, .int .u64 1]) ∧ Below w.heap.size w w' := fun w => by
    have := clamp_any T 0 0 0 0 0 0 w
    rw [cfgC_T T hT] at this
    exact this
  have hT16 : (T : Int) ≤ 16 := by omega
  go_enter Try.func19, Try.ntmps19
  go_wp2_with fail
  refine (C1 _).mono ?_
  rintro e w1 ⟨rfl, hb1⟩
  have HB1 := Lib.hid (below_then (show Below w.heap.size w _ by go_grown) hb1)
  clear hb1 C1
  go_wp2_with fail
  obtain ⟨w0, hw0⟩ : ∃ w0, w0 = w1.alloc (.cells (bcells T (.pointer wo) at_) 69) := ⟨_, rfl⟩
  have hq : w0.heap[w1.heap.size]? = some (.cells (bcells T (.pointer wo) at_) 69 (0, 0)) := by rw [hw0]; exact al_heap_new _ _
  have hb0 : Below w.heap.size w w0 := below_then HB1.out (by rw [hw0]; go_grown)
  have hs0 : w0.heap.size = w1.heap.size + 1 := by rw [hw0]; simp
  have fz : ∀ o, w0.frozen? ⟨w1.heap.size, o, none⟩ = false := fun o => by rw [hw0]; simp [go_sem]
  have ct : w0.cell? ⟨w1.heap.size, 0, none⟩ = some (.int .i64 T) := row_cell hq 0
  unfold bcells at hw0
  rw [← hw0]
  have HN0 := Lib.hid (show Mk w1.heap.size 12 76 79 led (w1.heap.size + 1) 0 (.slice none 0 0) [] (fun _ => 0) w0 w0 from
    ⟨row_cell hq 12, World.ownsRow_nil _ _ _ _, fun i hi => by omega, fun i hi => by omega, fun i j _ hj => by omega, fz, fun _ _ => rfl, by omega, by omega, Nat.le_refl _, rfl, rfl, rfl, fun _ _ _ => rfl⟩)
  have HQ := Lib.hid (show _ ∧ _ ∧ _ from ⟨hq, hb0, HB1.out.size⟩)
  clear hq hb0 hs0 fz hw0 HB1
  go_wp2_with fail
  go_loopw [29] (fun x wr => ∃ (k : Nat) (ad : Option Addr) (cap : Nat) (ys : List Value) (Ts : Nat → Nat), k ≤ T + 1 ∧ x = .int .i64 k ∧ Mk w1.heap.size 12 76 79 led (w1.heap.size + 1) k (.slice ad k cap) ys Ts w0 wr) (fun x _ => T + 1 - (intOf x).toNat)
  case atStart => exact ⟨0, _, _, _, _, by omega, rfl, HN0.out⟩
  case round =>
    obtain ⟨k, ad, cap, ys, Ts, hk, rfl, hn⟩ := hrel
    have HN := Lib.hid hn
    have c1 := hn.c1
    have fW := hn.f 12
    have hWl : w1.heap.size < wr.heap.size := World.block_lt_of_cell? _ _ c1
    clear hn ct
    by_cases hlt : k < T + 1
    · have hlt' : (k : Int) < (T : Int) + 1 := by omega
      go_wp2_with (first
        | (at_builtin; refine wpList_append_lies _ rfl (.tmp 35) (.tmp 38) 67 rfl (w1.heap.size + 1) 76 i (.pointer none) 1 8 Try.underlying67 hi hz h1 h8 rfl (by decide) (.slice ad k cap) k ys rfl ?_ ⟨wr.heap.size + 1, 0, none⟩ 1 1 [.pointer (some ⟨wr.heap.size, 0, none⟩)] rfl rfl ?_ ?_ (by decide) (by unfold maxLen; omega) ?_ ?_ (wr.heap.size + 2) ?_ ?_
           · exact own_below HN.out.rg (by go_grown)
           · exact (news1 (by simp [go_sem]))
           · (intro u hu; simp at hu; subst hu; rfl)
           · omega
           · (have := HN.out.hb0; have := HN.out.hsz; simp; omega)
           · simp
           intro g cap2 w4 hown2 hgrow hat hlt2
           obtain ⟨R1, R2, R3⟩ := HN.out.step (o := .cells #[.pointer (some ⟨wr.heap.size, 0, none⟩)] 76) hown2 hgrow hat
           have HR := Lib.hid R3
           clear hown2 hgrow hat hlt2 R3))
      exact ⟨⟨k + 1, _, _, _, _, by omega, by go_num, HR.out⟩, by simp [intOf]; omega⟩
    · obtain rfl : k = T + 1 := by omega
      go_wp2
      go_returns
      exact ⟨_, _, _, _, w0, rfl, HN.out, HQ.out.2.1, HQ.out.2.2, HQ.out.1⟩
end Go.Proofs.Ytebnjfpffdlbbaa
