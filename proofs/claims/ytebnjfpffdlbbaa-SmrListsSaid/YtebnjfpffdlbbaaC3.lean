/- The contracts of a base's looks, of one that New has made: Word, Global, Config, World, Retired. -/
import Derived.Test.YtebnjfpffdlbbaaM2
import Derived.Deep.QuietTactic
import Derived.BigQuiet
namespace Go.Proofs.Ytebnjfpffdlbbaa
open Go.RowKit
set_option linter.unusedVariables false
set_option linter.unusedSimpArgs false

/-- What a base has. -/
structure Bs (B T : Nat) (wo : Option Addr) (at_ : Int) (g c : Nat) (Ls : Nat → Nat) (w : World) : Prop where
  cs : ∀ j, j < 12 → w.cell? ⟨B, j, none⟩ = (bcells T (.pointer wo) at_)[j]?
  c12 : w.cell? ⟨B, 12, none⟩ = some (.slice (some ⟨g, 0, none⟩) (T + 1) c)
  rows : ∀ i, i < T + 1 → w.cell? ⟨g, i, none⟩ = some (.pointer (some ⟨Ls i, 0, none⟩))
  hT : 1 ≤ T ∧ T ≤ 16

theorem Bs.below {B T : Nat} {wo : Option Addr} {at_ : Int} {g c : Nat} {Ls : Nat → Nat} {w w' : World} (h : Bs B T wo at_ g c Ls w) (hb : Below w.heap.size w w') : Bs B T wo at_ g c Ls w' := by
  have h0 := World.block_lt_of_cell? _ _ h.c12
  exact ⟨fun j hj => by rw [hb.cell (p := ⟨B, j, none⟩) h0]; exact h.cs j hj, keep hb h.c12, fun i hi => keep hb (h.rows i hi), h.hT⟩

theorem bs_of {B T : Nat} {wo : Option Addr} {at_ : Int} {v : Value} {ys : List Value} {Ls : Nat → Nat} {w0 w : World} (hT : 1 ≤ T ∧ T ≤ 16) (h : Mk B 12 76 79 led (B + 1) (T + 1) v ys Ls w0 w) (h0 : w0.heap[B]? = some (.cells (bcells T (.pointer wo) at_) 69 (0, 0))) : ∃ g c, v = .slice (some ⟨g, 0, none⟩) (T + 1) c ∧ B < g ∧ Bs B T wo at_ g c Ls w := by
  obtain ⟨g, cap, rfl, hg, hlt⟩ := h.rg.form (by omega)
  have hlt2 := h.rg.lt g rfl
  exact ⟨g, cap, rfl, by omega, ⟨fun j hj => (h.oth j (by omega)).trans (row_cell h0 j), h.c1, fun i hi => by rw [h.rg.cellAt i (by omega)]; exact h.get i hi, hT⟩⟩

section
variable {B T : Nat} {wo : Option Addr} {at_ : Int} {g c : Nat} {Ls : Nat → Nat} {w : World}

theorem Bs.miss (h : Bs B T wo at_ g c Ls w) : Calls Try.prog 38 #[.pointer (some ⟨B, 0, none⟩)] w fun e w' => e = .returned (.bool false) ∧ w = w' :=
  missing_at w h.c12 (by simp; omega)

theorem Bs.word_in (h : Bs B T wo at_ g c Ls w) (ha : 0 ≤ at_ ∧ at_ ≤ 1000000) (t : Nat) (ht : t ≤ T) (k : Int) (hk : 0 ≤ k ∧ k < 14) :
    Calls Try.prog 20 #[.pointer (some ⟨B, 0, none⟩), .int .i64 (t : Int), .int .i64 k] w fun e w' => e = .returned (.int .i64 (at_ + 14 * t + k)) ∧ w = w' := by
  have hT := h.hT
  have c11 : w.cell? ⟨B, 11, none⟩ = some (.int .i64 at_) := h.cs 11 (by decide)
  have HL := Lib.hid (ledger_at (c := c) t (show t < T + 1 by omega) (by omega) w h.c12 (h.rows t (by omega)))
  obtain ⟨hk0, hk1⟩ := hk
  have ht16 : (t : Int) ≤ 16 := by omega
  go_enter Try.func20, Try.ntmps20
  go_wp2_with fail
  refine HL.out.mono ?_
  rintro e w1 ⟨rfl, rfl⟩
  go_wp2
  go_returns
  exact ⟨rfl, rfl⟩

theorem Bs.word_out (h : Bs B T wo at_ g c Ls w) (t k : Int) (hk : t < 0 ∨ (T : Int) < t ∨ k < 0 ∨ 14 ≤ k) :
    Calls Try.prog 20 #[.pointer (some ⟨B, 0, none⟩), .int .i64 t, .int .i64 k] w fun e w' => e = .returned (.int .i64 (-1)) ∧ w = w' := by
  have hT := h.hT
  by_cases ht : t < 0 ∨ (T : Int) < t
  · have HL := Lib.hid (ledger_out (ad := some ⟨g, 0, none⟩) (n := T + 1) (c := c) t (by omega) w h.c12 (by simp; omega))
    clear hk ht h hT
    go_enter Try.func20, Try.ntmps20
    go_wp2_with fail
    refine HL.out.mono ?_
    rintro e w1 ⟨rfl, rfl⟩
    go_wp2
    go_returns
    exact ⟨rfl, rfl⟩
  · obtain ⟨t, rfl⟩ := Int.eq_ofNat_of_zero_le (show 0 ≤ t by omega)
    have HL := Lib.hid (ledger_at (c := c) t (show t < T + 1 by omega) (by omega) w h.c12 (h.rows t (by omega)))
    by_cases k0 : k < 0
    · clear hk ht h hT
      go_enter Try.func20, Try.ntmps20
      go_wp2_with fail
      refine HL.out.mono ?_
      rintro e w1 ⟨rfl, rfl⟩
      go_wp2
      go_returns
      exact ⟨rfl, rfl⟩
    · have k1 : 14 ≤ k := by omega
      have k0' : decide (k < 0) = false := by simpa using k0
      clear hk ht h hT k0
      go_enter Try.func20, Try.ntmps20
      go_wp2_with fail
      refine HL.out.mono ?_
      rintro e w1 ⟨rfl, rfl⟩
      go_wp2
      go_returns
      exact ⟨rfl, rfl⟩

theorem Bs.global (h : Bs B T wo at_ g c Ls w) (ha : 0 ≤ at_ ∧ at_ ≤ 1000000) :
    Calls Try.prog 21 #[.pointer (some ⟨B, 0, none⟩)] w fun e w' => e = .returned (.int .i64 (at_ + 14 * (T + 1))) ∧ Below w.heap.size w w' := by
  have hT := h.hT
  have c11 : w.cell? ⟨B, 11, none⟩ = some (.int .i64 at_) := h.cs 11 (by decide)
  have c12 := h.c12
  have HL := Lib.hid h.miss
  have hT16 : (T : Int) ≤ 16 := by omega
  clear h
  go_enter Try.func21, Try.ntmps21
  go_wp2_with fail
  refine HL.out.mono ?_
  rintro e w1 ⟨rfl, rfl⟩
  go_wp2_with fail
  go_quiet (fail)
  go_wp2
  go_returns
  exact ⟨rfl, below_drewN (Below.refl _ _) _⟩

theorem Bs.config (h : Bs B T wo at_ g c Ls w) :
    Calls Try.prog 22 #[.pointer (some ⟨B, 0, none⟩)] w fun e w' => e = .returned (.agg #[.int .i64 T, .int .i64 0, .int .i64 0, .int .i64 1, .int .i64 0, .int .i64 1, .int .u64 1]) ∧ Below w.heap.size w w' := by
  have hBl := World.block_lt_of_cell? _ _ h.c12
  simp only at hBl
  have c0 : w.cell? ⟨B, 0, none⟩ = some (.int .i64 T) := h.cs 0 (by decide)
  have c1 : w.cell? ⟨B, 1, none⟩ = some (.int .i64 0) := h.cs 1 (by decide)
  have c2 : w.cell? ⟨B, 2, none⟩ = some (.int .i64 0) := h.cs 2 (by decide)
  have c3 : w.cell? ⟨B, 3, none⟩ = some (.int .i64 1) := h.cs 3 (by decide)
  have c4 : w.cell? ⟨B, 4, none⟩ = some (.int .i64 0) := h.cs 4 (by decide)
  have c5 : w.cell? ⟨B, 5, none⟩ = some (.int .i64 1) := h.cs 5 (by decide)
  have c6 : w.cell? ⟨B, 6, none⟩ = some (.int .u64 1) := h.cs 6 (by decide)
  have hb : ∀ o, Below w.heap.size w (w.alloc o) := fun o => (Below.refl _ _).alloc (Nat.le_refl _) _
  have HL := Lib.hid (fun o => (h.below (hb o)).miss)
  clear h
  go_enter Try.func22, Try.ntmps22
  go_wp2_with fail
  refine (HL.out _).mono ?_
  rintro e w1 ⟨rfl, rfl⟩
  go_wp2
  go_returns
  exact ⟨rfl, by go_grown⟩

theorem Bs.world (h : Bs B T wo at_ g c Ls w) :
    Calls Try.prog 25 #[.pointer (some ⟨B, 0, none⟩)] w fun e w' => e = .returned (.pointer wo) ∧ w = w' := by
  have c7 : w.cell? ⟨B, 7, none⟩ = some (.pointer wo) := h.cs 7 (by decide)
  have HL := Lib.hid h.miss
  clear h
  go_enter Try.func25, Try.ntmps25
  go_wp2_with fail
  refine HL.out.mono ?_
  rintro e w1 ⟨rfl, rfl⟩
  go_wp2
  go_returns
  exact ⟨rfl, rfl⟩
end
end Go.Proofs.Ytebnjfpffdlbbaa
