/- What is answered of no object, and of a zero one. -/
import Derived.Test.YtphfcfnbefikiaaD3
namespace Go.Proofs.Ytphfcfnbefikiaa
open Go.RowKit Go.Shelf
set_option linter.unusedVariables false
set_option linter.unusedSimpArgs false
attribute [local go_sem] Oper.semAt_some

/-- No object: the nil pointer, or one to a zero object. -/
def Mis (x : Option Addr) (w : World) : Prop := x = none ∨ ∃ X, x = some ⟨X, 0, none⟩ ∧ w.cell? ⟨X, 1, none⟩ = some (.pointer none)
theorem Mis.below {x : Option Addr} {w w' : World} (h : Mis x w) (hb : Below w.heap.size w w') : Mis x w' := by
  rcases h with h | ⟨X, h1, h2⟩
  · exact .inl h
  · exact .inr ⟨X, h1, keep hb h2⟩
theorem mis_missing {x : Option Addr} {w : World} (h : Mis x w) : Calls Try.prog 32 #[.pointer x] w fun e w' => e = .returned (.bool true) ∧ w = w' := by
  rcases h with rfl | ⟨X, rfl, h2⟩
  · exact missing_nil w
  · exact missing_zero w h2
theorem mis_client {x : Option Addr} {w : World} (h : Mis x w) : Calls Try.prog 27 #[.pointer x] w fun e w' => e = .returned (i64 0) ∧ w = w' := by
  rcases h with rfl | ⟨X, rfl, h2⟩
  · exact client_nil w
  · exact client_zero w h2
theorem mis_len {x : Option Addr} {w : World} (h : Mis x w) : Calls Try.prog 18 #[.pointer x] w fun e w' => e = .returned (i64 0) ∧ w = w' := by
  rcases h with rfl | ⟨X, rfl, h2⟩
  · exact len_nil w
  · exact len_zero w h2
theorem mis_copy {x : Option Addr} {w : World} (h : Mis x w) : Calls Try.prog 20 #[.pointer x] w fun e w' => e = .returned (.pointer none) ∧ w = w' := by
  have MIS := Lib.hid (mis_missing h)
  clear h
  go_enter Try.func20, Try.ntmps20
  go_wp2_with fail
  refine MIS.out.mono ?_
  rintro e w1 ⟨rfl, rfl⟩
  go_wp2
  go_returns
  exact ⟨rfl, rfl⟩
theorem mis_do {x : Option Addr} {w : World} (h : Mis x w) (o k y : Int) : Calls Try.prog 16 #[.pointer x, i64 o, u64 k, u64 y] w fun e w' => e = .returned (.agg #[.int .i64 1, .bool false, .int .u64 0]) ∧ Below w.heap.size w w' := by
  have MIS := Lib.hid (fun (W : World) (hb : Below w.heap.size w W) => mis_missing (h.below hb))
  have hb0 : Below w.heap.size w (w.alloc (.cells #[.int .i64 0, .bool false, .int .u64 0] 40)) := by go_grown
  have HB0 := Lib.hid hb0
  clear h hb0
  go_enter Try.func16, Try.ntmps16
  go_wp2_with fail
  refine (MIS.out _ HB0.out).mono ?_
  rintro e w1 ⟨rfl, rfl⟩
  go_wp2
  go_returns
  exact ⟨rfl, by go_grown⟩

theorem all1_none (n : Nat) (hn : 1 ≤ n) (l Bx : Nat) (x : Option Addr) (W : World) (hBx : W.cell? ⟨Bx, 0, none⟩ = some (.pointer x)) (hm : Mis x W) :
    CallsIn Fence.wide n Try.prog 35 #[.func (.yield l) #[] #[], P Bx] W fun e W' => (∃ v, e = .returned v) ∧ W = W' := by
  have MIS := Lib.hid (mis_missing hm)
  clear hm
  have f32 : Fence.wide.fn 32 := trivial
  refine callsIn_of_wp Try.func35 rfl trivial ?_ rfl
  simp only [Try.ntmps35, List.size_toArray, List.length_cons, List.length_nil, Nat.reduceAdd, Nat.reduceSub, Array.replicate_succ, Array.replicate_zero, List.push_toArray, List.append_toArray, List.nil_append, List.cons_append]
  gi_wp2_with (gi_at_call 32; refine (callsIn_wide.2 MIS.out).mono ?_; rintro e w1 ⟨rfl, rfl⟩)
  go_returns
  exact ⟨⟨_, rfl⟩, rfl⟩

theorem none_stops (n : Nat) (hn : 1 ≤ n) (Bx : Nat) (x : Option Addr) (w : World) (hBx : w.cell? ⟨Bx, 0, none⟩ = some (.pointer x)) (hm : Mis x w) :
    SeqStopsK Fence.wide n Try.prog 35 #[P Bx] (fun x : Th => #[thV x]) (fun _ _ => True) (fun ys => ys = []) (fun _ => False) 0 w := fun l J Jx W hW hJ _ hY h0 => by
  refine (all1_none n hn l Bx x W (keep hW hBx) (hm.below hW)).mono ?_
  rintro e W' ⟨h1, rfl⟩
  exact ⟨h1, .inl ⟨[], rfl, h0⟩⟩

/-- What a loop over nothing leaves. -/
def IN (n0 B3 : Nat) (o : Go.Obj) (w : World) (_ : List Th) (W : World) : Prop := W.heap[B3]? = some o ∧ Below n0 w W
theorem in_own {n0 B3 B : Nat} {o : Go.Obj} {w : World} (ho : o.isCells = true) (hB : n0 ≤ B) (hn : n0 ≤ w.heap.size) : OwnFrom B (IN n0 B3 o w) := fun pre W W' row h hg hr => by
  refine ⟨?_, h.2.grown hg (Nat.le_trans hn h.2.size) (fun k e => Nat.le_trans hB (hr k e).1)⟩
  rw [hg.block B3 (Array.getElem?_eq_some_iff.1 h.1).1 (fun e => by
    obtain ⟨_, o', ho', hc'⟩ := hr B3 e.symm
    rw [h.1] at ho'; obtain rfl := Option.some.inj ho'; rw [ho] at hc'; cases hc')]
  exact h.1
theorem in_alloc {n0 B3 : Nat} {o : Go.Obj} {w W : World} {pre : List Th} (h : IN n0 B3 o w pre W) (hn : n0 ≤ w.heap.size) (o' : Go.Obj) : IN n0 B3 o w pre (W.alloc o') := by
  have hb : Below W.heap.size W (W.alloc o') := by go_grown
  exact ⟨(hb.block _ (Array.getElem?_eq_some_iff.1 h.1).1).trans h.1, h.2.trans (hb.mono (Nat.le_trans hn h.2.size))⟩

set_option maxHeartbeats 4000000 in
set_option maxRecDepth 100000 in
theorem mis_things {x : Option Addr} (w : World) (hm : Mis x w) :
    Calls Try.prog 25 #[.pointer x] w fun e w' => e = .returned (.slice none 0 0) ∧ Below w.heap.size w w' := by
  refine (callsIn_wide (n := 6)).1 ?_
  have f23 : Fence.wide.fn 23 := trivial
  have HM := Lib.hid hm
  clear hm
  refine callsIn_of_wp_marks Try.func25 rfl trivial ?_ rfl
  simp only [Try.ntmps25, List.size_toArray, List.length_cons, List.length_nil, Nat.reduceAdd, Nat.reduceSub, Array.replicate_succ, Array.replicate_zero, List.push_toArray, List.append_toArray, List.nil_append, List.cons_append]
  gi_wp2_with (gi_at_call 23; refine (callsIn_wide.2 (all_any x _)).mono ?_; rintro e w1 ⟨rfl, rfl⟩)
  have hB0 : Below w.heap.size w ((w.alloc (.cells #[.slice none 0 0] 22)).alloc (.cells #[.pointer x] 26)) := by go_grown
  have g4 : ((w.alloc (.cells #[.slice none 0 0] 22)).alloc (.cells #[.pointer x] 26)).cell? ⟨w.heap.size + 1, 0, none⟩ = some (.pointer x) := by simp [go_sem]
  have g5 : ((w.alloc (.cells #[.slice none 0 0] 22)).alloc (.cells #[.pointer x] 26)).heap[w.heap.size]? = some (.cells #[.slice none 0 0] 22 (0, 0)) := alloc1_heap w _ _
  have hsz : ((w.alloc (.cells #[.slice none 0 0] 22)).alloc (.cells #[.pointer x] 26)).heap.size = w.heap.size + 2 := by simp
  have hMis := HM.out.below hB0
  obtain ⟨W0, hW0⟩ : ∃ W0, (w.alloc (.cells #[.slice none 0 0] 22)).alloc (.cells #[.pointer x] 26) = W0 := ⟨_, rfl⟩
  rw [hW0] at hB0 g4 g5 hsz hMis ⊢
  clear hW0
  refine wpIn_rangeFunc_ownH rfl (by omega) (gf := 35) (lb := #[P (w.heap.size + 1)]) rfl trivial (enters_of Try.func35 (by kernel_rfl) rfl)
    (none_stops 5 (by omega) (w.heap.size + 1) x W0 g4 hMis) (fun _ _ => trivial) (fun _ _ _ _ _ _ _ _ => trivial) (Below.refl _ _) (fun _ => rfl)
    (IN w.heap.size w.heap.size (.cells #[.slice none 0 0] 22 (0, 0)) w) (fun _ _ _ => False) (in_own rfl (by omega) (Nat.le_refl _)) (fun _ _ _ _ _ hs _ _ => hs)
    ⟨g5, hB0⟩ (fun _ _ _ => True) (fun _ _ _ _ _ _ _ _ _ => trivial)
    ?assign ?body ?done ?stop
  case assign =>
    intro l pre x W K hI hK
    unfold thV
    gi_wp2
    exact hK _ _ ((KeepsOthers.alloc _ _).from _) trivial (in_alloc hI (Nat.le_refl _) _) trivial
  case body =>
    rintro l pre x a' W hl - - - hlt
    omega
  case done =>
    rintro D ys W hD rfl ⟨h1, h4⟩ hK
    have k1 : W.cell? ⟨w.heap.size, 0, none⟩ = some (.slice none 0 0) := by simp [World.cell?, h1]
    gi_wp2
    refine ⟨by simp, .inl ⟨_, _, rfl, run_takeDeferred hK, ?_⟩⟩
    refine ⟨_, results_tmp rfl _ _ _, rfl, h4.grown (grownBy_putObj' W D _) (by have := h4.size; omega) (fun k e => by cases e; omega)⟩
  case stop =>
    rintro D c' pre W _ h _ _
    exact h.elim
end Go.Proofs.Ytphfcfnbefikiaa
