/- The contract of judge: which rule an event breaks, and which slot it is about. -/
import Derived.Test.YtejfcmgnacimgaaDoorA5
namespace Go.Proofs.YtejfcmgnacimgaaDoor
open Go.RowKit
set_option linter.unusedVariables false
set_option linter.unusedSimpArgs false

theorem isAccess_q (k : Int) (w : World) (n : Nat) : Calls Tryd.prog 28 #[.int .i64 k] (w.drewN n) fun e w' => e = .returned (.bool (accB k)) ∧ ∃ j, w' = w.drewN j :=
  (isAccess_any k _).mono fun e w' ⟨h1, h2⟩ => ⟨h1, n, h2.symm⟩
theorem follows_q (k l : Int) (w : World) (n : Nat) : Calls Tryd.prog 32 #[.int .i64 k, .int .i64 l] (w.drewN n) fun e w' => e = .returned (.bool (folB k l)) ∧ ∃ j, w' = w.drewN j :=
  (follows_any k l _).mono fun e w' ⟨h1, h2⟩ => ⟨h1, n, h2.symm⟩
theorem follows_v (k l : Int) {v : Bool} (h : folB k l = v) (w : World) (n : Nat) : Calls Tryd.prog 32 #[.int .i64 k, .int .i64 l] (w.drewN n) fun e w' => e = .returned (.bool v) ∧ ∃ j, w' = w.drewN j := by
  subst h; exact follows_q k l w n
theorem EvAt.drewN {E : Nat} {e : Ev} {w : World} (h : EvAt E e w) (n : Nat) : EvAt E e (w.drewN n) := h.below (below_drewN (Below.refl _ _) n)
theorem notes_v (E : Nat) (e : Ev) (k : Int) {v : Bool} (hv : ntB e k = v) (w : World) (h : EvAt E e w) (n : Nat) : Calls Tryd.prog 29 #[.int .i64 k, .pointer (some ⟨E, 0, none⟩)] (w.drewN n) fun e w' => e = .returned (.bool v) ∧ ∃ j, w' = w.drewN j := by
  subst hv
  exact (notes_any E e k _ (h.drewN n)).mono fun e w' ⟨h1, h2⟩ => ⟨h1, n, h2.symm⟩
theorem notes_e (E : Nat) (e : Ev) (k : Int) {v : Bool} (hv : ntB e k = v) (w : World) (h : EvAt E e w) : Calls Tryd.prog 29 #[.int .i64 k, .pointer (some ⟨E, 0, none⟩)] w fun e w' => e = .returned (.bool v) ∧ w = w' := by
  subst hv; exact notes_any E e k w h
end Go.Proofs.YtejfcmgnacimgaaDoor
