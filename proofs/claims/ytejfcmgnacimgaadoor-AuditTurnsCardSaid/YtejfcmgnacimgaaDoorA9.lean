/- The contracts of clear, protect and note. -/
import Derived.Test.YtejfcmgnacimgaaDoorA8
namespace Go.Proofs.YtejfcmgnacimgaaDoor
open Go.RowKit Go.ChangeMaps Go.Maps
set_option linter.unusedVariables false
set_option linter.unusedSimpArgs false

set_option maxHeartbeats 4000000 in
set_option maxRecDepth 100000 in
theorem clear_any {R S M : Nat} {s : RS} (t : Int) (ht : (Lit.int .i64 t).wf = true) (k : Int) (w : World) (h : RepAt R S M s w) :
    Calls Tryd.prog 35 #[.pointer (some ⟨R, 0, none⟩), .int .i64 t, .int .i64 k] w fun e w' => e = .returned (.tuple #[]) ∧ RepAt R S M (clearF s t k) w' ∧ Kq w.heap.size S M w w' := by
  have HH := Lib.hid h
  have c5 := h.r5
  clear h
  by_cases h0 : k < 0
  · have hf : clearF s t k = setG s t (fun _ => (0, 0)) := by simp [clearF, h0]
    rw [hf]
    clear hf
    go_enter Tryd.func35, Tryd.ntmps35
    go_wp2_with
      (refine wpList_del _ rfl _ _ rfl rfl rfl HH.out.map ht ?_
       rintro w1 hm ⟨b, rfl⟩
       have HM := Lib.hid hm
       clear hm)
    go_returns
    exact ⟨rfl, HH.out.set_map b t _ HM.out, (Kq.refl _ _ _ _).set_M b⟩
  · have hf : clearF s t k = setF s t k (0, 0) := by simp [clearF, h0]
    rw [hf]
    have h0' : decide (k < 0) = false := by simpa using h0
    clear hf h0
    go_enter Tryd.func35, Tryd.ntmps35
    go_wp2_with fail
    refine (set_any t ht k 0 0 _ HH.out).mono ?_
    rintro e w1 ⟨rfl, hr⟩
    have HR := Lib.hid hr
    clear hr
    go_wp2
    go_returns
    exact ⟨rfl, HR.out⟩

def nCells (e : Ev) : Array Value := #[.int .i64 e.nk, .int .i64 e.slot, .int .i64 e.life, .int .i64 e.guard, .int .i64 e.read, .int .i64 e.cls, .int .u64 e.n, .int .i64 e.code]
def protF (s : RS) (t : Int) (n : Nat) (g : Int) (b : Bool) : RS := setF s t g (if b then ((n : Int), (s.sl n).ends) else (0, 0))

set_option maxHeartbeats 4000000 in
set_option maxRecDepth 100000 in
theorem protect_any {R S M : Nat} {s : RS} (t : Int) (ht : (Lit.int .i64 t).wf = true) (e : Ev) (n : Nat) (hn : n < s.m) (hs : e.slot = (n : Int)) (b : Bool) (w : World) (h : RepAt R S M s w) :
    Calls Tryd.prog 44 #[.pointer (some ⟨R, 0, none⟩), .int .i64 t, .agg (nCells e), .bool b] w fun x w' => x = .returned (.tuple #[]) ∧ RepAt R S M (protF s t n e.guard b) w' ∧ Kq w.heap.size S M w w' := by
  have HH := Lib.hid h
  have hbb : Below w.heap.size w ((w.alloc (.cells (nCells e) 51)).alloc (.cells #[.int .i64 0, .int .i64 0] 92)) := by go_grown
  have hb := h.below hbb
  have r4 := hb.r4
  obtain ⟨-, -, -, -, -, d5⟩ := hb.slot hn
  have e1 : ((w.alloc (.cells (nCells e) 51)).alloc (.cells #[.int .i64 0, .int .i64 0] 92)).cell? ⟨w.heap.size, 1, none⟩ = some (.int .i64 n) := by simp [go_sem, nCells, hs]
  have e3 : ((w.alloc (.cells (nCells e) 51)).alloc (.cells #[.int .i64 0, .int .i64 0] 92)).cell? ⟨w.heap.size, 3, none⟩ = some (.int .i64 e.guard) := by simp [go_sem, nCells]
  have f0 : ((w.alloc (.cells (nCells e) 51)).alloc (.cells #[.int .i64 0, .int .i64 0] 92)).cell? ⟨w.heap.size + 1, 0, none⟩ = some (.int .i64 0) := by simp [go_sem]
  have f1 : ((w.alloc (.cells (nCells e) 51)).alloc (.cells #[.int .i64 0, .int .i64 0] 92)).cell? ⟨w.heap.size + 1, 1, none⟩ = some (.int .i64 0) := by simp [go_sem]
  have z : ∀ j, ((w.alloc (.cells (nCells e) 51)).alloc (.cells #[.int .i64 0, .int .i64 0] 92)).frozen? ⟨w.heap.size + 1, j, none⟩ = false := by intro j; simp [go_sem]
  have HB := Lib.hid hbb
  have HS := Lib.hid hs
  clear h hb hbb hs
  unfold protF
  cases b
  · rw [if_neg (by simp)]
    go_enter Tryd.func44, Tryd.ntmps44
    go_wp2_with fail
    generalize (w.alloc (.cells (nCells e) 51)).alloc (.cells #[.int .i64 0, .int .i64 0] 92) = w1 at *
    refine (set_any t ht e.guard 0 0 _ (HH.out.below HB.out)).mono ?_
    rintro x w2 ⟨rfl, hr, hk⟩
    have HR := Lib.hid (⟨hr, (Kq.of_below HB.out (Nat.le_refl _)).trans (hk.mono HB.out.size)⟩ : _ ∧ Kq w.heap.size S M w w2)
    clear hr hk
    go_wp2
    go_returns
    exact ⟨rfl, HR.out⟩
  · rw [if_pos rfl]
    go_enter Tryd.func44, Tryd.ntmps44
    go_wp2_with fail
    generalize (w.alloc (.cells (nCells e) 51)).alloc (.cells #[.int .i64 0, .int .i64 0] 92) = w1 at *
    refine wp_region_still_tail 12 (by kernel_rfl) (by kernel_rfl) ?_
    simp only [List.take_succ_cons, List.take_zero, List.drop_succ_cons, List.drop_zero]
    repeat still_step
    refine wpStill_nil ?_
    change wpList _ _ _ _ _ (World.drew w1)
    go_wp2_with fail
    have hb2 : Below w.heap.size w (((World.drew w1).setCell ⟨w.heap.size + 1, 0, none⟩ (.int .i64 n)).setCell ⟨w.heap.size + 1, 1, none⟩ (.int .i64 (s.sl n).ends)) := (HB.out.drew.setCell (by simp) _).setCell (by simp) _
    refine (set_any t ht e.guard n (s.sl n).ends _ (HH.out.below hb2)).mono ?_
    rintro x w2 ⟨rfl, hr, hk⟩
    have HR := Lib.hid (⟨hr, (Kq.of_below hb2 (Nat.le_refl _)).trans (hk.mono hb2.size)⟩ : _ ∧ Kq w.heap.size S M w w2)
    clear hr hk hb2
    go_wp2
    go_returns
    exact ⟨rfl, HR.out⟩

theorem RepAt.slot3 {R S M : Nat} {s : RS} {w : World} (h : RepAt R S M s w) (hS0 : S ≠ 0) (n : Nat) (hn : n < s.m) (k1 k2 k3 : Nat) (g1 : k1 < 14) (g2 : k2 < 14) (g3 : k3 < 14) (v1 v2 v3 : Value) (x : Sl)
    (hx : ∀ j, j < 14 → scell x j = if j = k3 then v3 else if j = k2 then v2 else if j = k1 then v1 else scell (s.sl n) j) :
    RepAt R S M (setSl s n x) (((w.setCell ⟨S, n * 14 + k1, none⟩ v1).setCell ⟨S, n * 14 + k2, none⟩ v2).setCell ⟨S, n * 14 + k3, none⟩ v3) := by
  refine h.moved hS0 (fun k hk => by rw [Below.heap_setCell _ _ _ _ hk, Below.heap_setCell _ _ _ _ hk, Below.heap_setCell _ _ _ _ hk]) (by simp) rfl rfl rfl rfl rfl rfl ?_
    (fun o => by rw [World.frozen?_setCell, World.frozen?_setCell, World.frozen?_setCell]; exact h.sf o)
  have one : ∀ (w : World) (q : Nat) (u : Value) (o : Nat) (c : Value), w.cell? ⟨S, o, none⟩ = some c → (w.setCell ⟨S, q, none⟩ u).cell? ⟨S, o, none⟩ = some (if o = q then u else c) := by
    intro w q u o c hc
    by_cases e : o = q
    · subst e; rw [if_pos rfl]; exact cset_same hc
    · rw [if_neg e, cset_other (fun e3 => e (by have h := congrArg Addr.off e3; simp only at h; omega))]; exact hc
  intro i hi j hj
  have h1 := one _ (n * 14 + k3) v3 _ _ (one _ (n * 14 + k2) v2 _ _ (one _ (n * 14 + k1) v1 _ _ (h.sc i hi j hj)))
  rw [h1]
  by_cases e : i = n
  · subst e
    simp only [setSl, if_pos, hx j hj, Nat.add_left_cancel_iff]
  · simp only [setSl, if_neg e]
    rw [if_neg (by omega), if_neg (by omega), if_neg (by omega)]
end Go.Proofs.YtejfcmgnacimgaaDoor
