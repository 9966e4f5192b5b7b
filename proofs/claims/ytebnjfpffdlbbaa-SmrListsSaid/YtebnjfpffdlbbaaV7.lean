/- vmem's Threads and Setup, alone. -/
import Derived.Test.YtebnjfpffdlbbaaV6
namespace Go.Proofs.Ytebnjfpffdlbbaa
open Go.RowKit
set_option linter.unusedVariables false
set_option linter.unusedSimpArgs false

theorem threads_l {w : World} {W m c : Nat} {ad : Option Addr} (h : w.cell? ⟨W, 1, none⟩ = some (.slice ad (m + 1) c)) (hm : m ≤ 16) :
    Calls Try.prog 42 #[.pointer (some ⟨W, 0, none⟩)] w fun e w' => e = .returned (.int .i64 m) ∧ w' = w := by
  have H := Lib.hid h
  have hm' : (m : Int) ≤ 16 := by omega
  go_enter Try.func42, Try.ntmps42
  go_wp2_with fail
  refine (wmissing_l H.out (by omega)).mono ?_
  rintro e w2 ⟨rfl, rfl⟩
  go_wp2
  go_returns
  exact ⟨rfl, rfl⟩

theorem threads_q {w : World} {W m c : Nat} {ad : Option Addr} (h : w.cell? ⟨W, 1, none⟩ = some (.slice ad (m + 1) c)) (hm : m ≤ 16) (n : Nat) :
    Calls Try.prog 42 #[.pointer (some ⟨W, 0, none⟩)] (w.drewN n) fun e w' => e = .returned (.int .i64 m) ∧ ∃ j, w' = w.drewN j :=
  (threads_l (w := w.drewN n) h hm).mono fun _ _ ⟨h1, h2⟩ => ⟨h1, n, h2⟩

set_option maxHeartbeats 4000000 in
theorem setup_l {w : World} {W g T m c base : Nat} {ys : List Value} (h : w.cell? ⟨W, 1, none⟩ = some (.slice (some ⟨g, 0, none⟩) (m + 1) c)) (hm : m ≤ 16) (hown : w.ownsRow base 48 1 (.slice (some ⟨g, 0, none⟩) (m + 1) c) (m + 1) ys) (hy : ys[m]? = some (.pointer (some ⟨T, 0, none⟩))) :
    Calls Try.prog 24 #[.pointer (some ⟨W, 0, none⟩)] w fun e w' => e = .returned (.pointer (some ⟨T, 0, none⟩)) ∧ ∃ j, w' = w.drewN j := by
  have H := Lib.hid h
  have hg : w.cell? ⟨g, m, none⟩ = some (.pointer (some ⟨T, 0, none⟩)) := by rw [hown.cellAt m (by omega)]; exact hy
  have hm' : (m : Int) < (m : Int) + 1 := by omega
  clear hown hy
  go_enter Try.func24, Try.ntmps24
  go_wp2_with fail
  refine (wmissing_l H.out (by omega)).mono ?_
  rintro e w2 ⟨rfl, rfl⟩
  go_wp2_with fail
  go_quiet ((go_at_call 42; exact threads_q H.out hm _))
  go_wp2
  go_returns
  exact ⟨rfl, _, rfl⟩
end Go.Proofs.Ytebnjfpffdlbbaa
