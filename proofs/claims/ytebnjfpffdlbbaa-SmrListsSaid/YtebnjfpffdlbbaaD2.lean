/- What a slice of slots that were retired reads as; the law SmrLists whole. -/
import Derived.Test.YtebnjfpffdlbbaaD1
import Derived.Test.YtebnjfpffdlbbaaB6
namespace Go.Proofs.Ytebnjfpffdlbbaa
open Go.ChangeShapes Go.WideShapes Go.ChangeAt Go.WideMaps Go.WideElems Go.Deep Go.RowKit
set_option linter.unusedVariables false
set_option linter.unusedSimpArgs false

theorem law_lists (t : Int) (ad : Option Addr) (n cap : Nat) (hnm : n ≤ 9223372036854775807) (gf : Nat → O) (hok : OksIn n gf) (w : World) (hin : OldsIn ad n gf w) :
    Calls Try.prog 6 #[.int .i64 t, .slice ad n cap] w fun e w' => e = .returned (.bool true) ∧ Below w.heap.size w w' := by
  by_cases h : t < 1 ∨ 16 < t ∨ 60 < n
  · exact lists_few t ad n cap hnm h w
  · obtain ⟨T, rfl⟩ := Int.eq_ofNat_of_zero_le (show 0 ≤ t by omega)
    exact lists_main T (by omega) ad n cap (by omega) gf hok w hin

section
variable {H : Type} {enc : TypeId × Value → H} {w : World} {base : Nat} {spare : Nat → Bool} {held : Bool}

theorem open_olds {fuel : Nat} {y0 : Option Addr} {y1 y2 : Nat} {x : DataW H × List MemPlace} (h : DataW.trod enc Try.prog w base spare held fuel 43 (Value.slice y0 y1 y2).cells.toList = some x) :
    ∃ gf : Nat → O, y1 ≤ 9223372036854775807 ∧ OldsIn y0 y1 gf w ∧ OksIn y1 gf := by
  rcases open_slice Try.underlying43 h with ⟨h0, -⟩ | ⟨a, len, cap, m, n, D, Pl, hcs, hb, hl, hm, hmm, hx, hi⟩
  · obtain ⟨rfl, rfl, rfl⟩ := slice_one h0
    exact ⟨fun _ => (0, 0, 0), by omega, fun i hi => absurd hi (by omega), fun i hi => absurd hi (by omega)⟩
  · obtain ⟨rfl, rfl, rfl⟩ := slice_one hcs
    have hlm : y1 ≤ m := by rw [hmm]; split <;> omega
    rw [cells30] at hi
    have hev : ∀ i, i < y1 → ∃ o : O, (∀ j, j < 3 → w.cell? ((a.add (i * 3)).add j) = (ent o)[j]?) ∧ (0 ≤ o.1 ∧ o.1 < 18446744073709551616) ∧ (0 ≤ o.2.1 ∧ o.2.1 < 18446744073709551616) ∧ (0 ≤ o.2.2 ∧ o.2.2 < 18446744073709551616) := by
      intro i hil
      obtain ⟨cs', hc, ht⟩ := hi i (by omega)
      obtain ⟨_, hcl, hat⟩ := World.cells?_some hc
      obtain ⟨h, b, s, e, w1, w2, w3⟩ := open_old3 ht hcl
      refine ⟨(h, b, s), fun j hj => ?_, w1, w2, w3⟩
      have := hat j (by omega)
      rw [this, e]
      match j, hj with
      | 0, _ => rfl
      | 1, _ => rfl
      | 2, _ => rfl
    obtain ⟨G, hG⟩ := choose_lt hev
    refine ⟨G, by unfold maxLen at hm; omega, fun i hi' => ?_, fun i hi' => (hG i hi').2⟩
    have h0 := (hG i hi').1 0 (by decide)
    have h0' : w.cell? ((a.add (i * 3)).add 0) = some (.int .u64 (G i).1) := h0
    have h00 : w.cell? ((a.add (0 * 3)).add 0) = some (.int .u64 (G 0).1) := (hG 0 (by omega)).1 0 (by decide)
    rw [show (a.add (0 * 3)).add 0 = a by simp [Addr.add]] at h00
    have hs := spot_none h00
    refine ⟨a.block, a.off, by rw [← hs], fun j hj => ?_⟩
    have := (hG i hi').1 j hj
    rw [add_add, add_spot hs] at this
    rw [show a.off + i * 3 + j = a.off + (i * 3 + j) by omega]
    exact this
end
end Go.Proofs.Ytebnjfpffdlbbaa
