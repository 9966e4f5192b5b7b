/- vmem's Events, alone: a copy in new memory. -/
import Derived.Test.YtebnjfpffdlbbaaV1
import Derived.Lib.SlFresh
namespace Go.Proofs.Ytebnjfpffdlbbaa
open Go.RowKit
set_option linter.unusedVariables false
set_option linter.unusedSimpArgs false

/-- An append of n elements onto a slice without room and without elements. -/
theorem grow_app {w : World} {base g n c : Nat} {xs : List Value} (hn : 1 ≤ n) (hn2 : n ≤ 100000) (hown : w.ownsRow base 61 16 (.slice (some ⟨g, 0, none⟩) n c) n xs) (b0 : Addr) :
    ∃ cap w', (Builtin.append_ #[53, 53] 53 #[.slice (some b0) 0 0, .slice (some ⟨g, 0, none⟩) n c]).run Try.prog w = .ok (.slice (some ⟨w.heap.size, 0, none⟩) n cap) w' ∧
      w'.ownsRow w.heap.size 61 16 (.slice (some ⟨w.heap.size, 0, none⟩) n cap) n xs ∧ Below w.heap.size w w' := by
  obtain ⟨i, z, hi, hz, hc, h1, h8⟩ : ∃ i z, Try.prog.info? 61 = some i ∧ i.zero = some z ∧ z.cells.size = 16 ∧ i.size = 16 ∧ i.bytes = 128 := by
    have := info61
    cases hh : Try.prog.info? 61 with
    | none => rw [hh] at this; cases this
    | some i => rw [hh] at this; simp at this; obtain ⟨⟨z, hz, h0⟩, h1, h2⟩ := this; exact ⟨i, z, rfl, hz, h0, h1, h2⟩
  have hlen := hown.1
  have hr := run_append_grow (P := Try.prog) w 53 53 61 i z Try.underlying53 hi hz b0 0 0 [] (by simp) (by intro j v hj; simp at hj) ⟨g, 0, none⟩ n c xs (by rw [h1]; exact hlen)
    (fun j v hj => by
      have hj' : j < xs.length := (List.getElem?_eq_some_iff.1 hj).1
      have ha : (⟨g, 0, none⟩ : Addr).add j = ⟨g, j, none⟩ := by unfold Addr.add; split <;> simp_all
      rw [ha, hown.cellAt j (by omega), hj])
    (by omega) (by omega) (growslice_fits (by omega) (by rw [h8]; omega))
  simp only [Nat.zero_add] at hr
  have hge := grownCap_ge w n 0 61
  have hcm : grownCap w n 0 61 ≤ maxLen := grownCap_le_maxLen _ n 0 61 (by unfold maxLen; omega)
  generalize grownCap w n 0 61 = cap at hr hge hcm
  refine ⟨cap, _, hr, ⟨hlen, Or.inr ⟨w.heap.size, cap, #[] ++ xs.toArray ++ Builtin.zeroCells z.cells (cap - n), rfl, Nat.le_refl _, ?_, hge, hcm, ?_, ?_⟩⟩, ⟨rfl, rfl, rfl, by simp, fun k hk => Below.heap_alloc w.drew _ k hk⟩⟩
  · exact al_heap_new w.drew _
  · have hzs : (Builtin.zeroCells z.cells (cap - n)).size = (cap - n) * 16 := by simp [Builtin.zeroCells, hc]
    rw [Array.size_append, Array.size_append, hzs]
    have : xs.toArray.size = n * 16 := by simpa using hlen
    rw [this]
    show 0 + n * 16 + (cap - n) * 16 = cap * 16
    omega
  · rw [← hlen]; simp

set_option maxHeartbeats 4000000 in
set_option maxRecDepth 100000 in
theorem clone_l {w : World} {base g n c : Nat} {xs : List Value} (hn : 1 ≤ n) (hn2 : n ≤ 100000) (hown : w.ownsRow base 61 16 (.slice (some ⟨g, 0, none⟩) n c) n xs) :
    Calls Try.prog 45 #[.slice (some ⟨g, 0, none⟩) n c] w fun e w' => ∃ h cap, e = .returned (.slice (some ⟨h, 0, none⟩) n cap) ∧ w'.ownsRow w.heap.size 61 16 (.slice (some ⟨h, 0, none⟩) n cap) n xs ∧ Below w.heap.size w w' := by
  have HOWN := Lib.hid hown
  have heq : ∀ W, (binOp BinOp.eql 53 (.slice (some ⟨g, 0, none⟩) n c) (.slice none 0 0)).run Try.prog W = .ok (.bool false) W := fun W => by kernel_rfl
  clear hown
  go_enter Try.func45, Try.ntmps45
  go_wp2_with (first
    | (at_builtin
       obtain ⟨cap, w3, hr, hown2, hb⟩ := grow_app hn hn2 (HOWN.out.alloc (.cells #[] 61)) ⟨w.heap.size, 0, none⟩
       refine Lib.wpList_append_run_sl _ rfl (.tmp 5) (.tmp 6) 53 rfl _ _ rfl rfl hr ?_
       have HO := Lib.hid hown2
       have HB := Lib.hid hb
       clear hr hown2 hb))
  go_returns
  refine ⟨_, cap, rfl, ?_, ?_⟩
  · have h1 : (w.alloc (.cells #[] 61)).heap.size = w.heap.size + 1 := by simp
    have h2 := HO.out
    rw [h1] at h2
    exact own_base h2 (Nat.le_succ _)
  · exact Below.trans (show Below w.heap.size w (w.alloc (.cells #[] 61)) by go_grown) (HB.out.mono (by simp))

set_option maxHeartbeats 4000000 in
set_option maxRecDepth 100000 in
theorem clone_nil (w : World) : Calls Try.prog 45 #[.slice none 0 0] w fun e w' => e = .returned (.slice none 0 0) ∧ w' = w := by
  have heq : ∀ W, (binOp BinOp.eql 53 (.slice none 0 0) (.slice none 0 0)).run Try.prog W = .ok (.bool true) W := fun W => by kernel_rfl
  go_enter Try.func45, Try.ntmps45
  go_wp2
  go_returns
  exact ⟨rfl, rfl⟩

/-- Not missing: a world with threads. -/
theorem wmissing_l {w : World} {W m c : Nat} {ad : Option Addr} (h : w.cell? ⟨W, 1, none⟩ = some (.slice ad m c)) (hm : 1 ≤ m) :
    Calls Try.prog 41 #[.pointer (some ⟨W, 0, none⟩)] w fun e w' => e = .returned (.bool false) ∧ w' = w := by
  have hm' : ((m : Int) == 0) = false := by simp; omega
  go_enter Try.func41, Try.ntmps41
  go_wp2
  go_returns
  exact ⟨rfl, rfl⟩

theorem events_l {w : World} {W m c' base g n c : Nat} {ad : Option Addr} {xs : List Value} (h1 : w.cell? ⟨W, 1, none⟩ = some (.slice ad m c')) (hm : 1 ≤ m) (h3 : w.cell? ⟨W, 3, none⟩ = some (.slice (some ⟨g, 0, none⟩) n c)) (hn : 1 ≤ n) (hn2 : n ≤ 100000) (hown : w.ownsRow base 61 16 (.slice (some ⟨g, 0, none⟩) n c) n xs) :
    Calls Try.prog 28 #[.pointer (some ⟨W, 0, none⟩)] w fun e w' => ∃ h cap, e = .returned (.slice (some ⟨h, 0, none⟩) n cap) ∧ w'.ownsRow w.heap.size 61 16 (.slice (some ⟨h, 0, none⟩) n cap) n xs ∧ Below w.heap.size w w' := by
  have HOWN := Lib.hid hown
  have H1 := Lib.hid h1
  clear hown h1
  go_enter Try.func28, Try.ntmps28
  go_wp2_with fail
  refine (wmissing_l H1.out hm).mono ?_
  rintro x w2 ⟨rfl, rfl⟩
  go_wp2_with fail
  refine (clone_l hn hn2 HOWN.out).mono ?_
  rintro x w3 ⟨h, cap, rfl, ho, hb⟩
  have HO := Lib.hid ho
  have HB := Lib.hid hb
  clear ho hb
  go_wp2
  go_returns
  exact ⟨h, cap, rfl, HO.out, HB.out⟩
theorem events_nil {w : World} {W m c' : Nat} {ad : Option Addr} (h1 : w.cell? ⟨W, 1, none⟩ = some (.slice ad m c')) (hm : 1 ≤ m) (h3 : w.cell? ⟨W, 3, none⟩ = some (.slice none 0 0)) :
    Calls Try.prog 28 #[.pointer (some ⟨W, 0, none⟩)] w fun e w' => e = .returned (.slice none 0 0) ∧ w' = w := by
  have H1 := Lib.hid h1
  clear h1
  go_enter Try.func28, Try.ntmps28
  go_wp2_with fail
  refine (wmissing_l H1.out hm).mono ?_
  rintro x w2 ⟨rfl, rfl⟩
  go_wp2_with fail
  refine (clone_nil _).mono ?_
  rintro x w3 ⟨rfl, rfl⟩
  go_wp2
  go_returns
  exact ⟨rfl, rfl⟩
end Go.Proofs.Ytebnjfpffdlbbaa
