/- What After answers of no slots: nothing. -/
import Derived.Test.YtejfcmgnacimgaaDoorQ1
namespace Go.Proofs.YtejfcmgnacimgaaDoor
open Go.RowKit Go.ChangeMaps
set_option linter.unusedVariables false
set_option linter.unusedSimpArgs false

set_option maxHeartbeats 8000000 in
set_option maxRecDepth 100000 in
theorem after_any (ad : Option Addr) (len cap : Nat) (es : List Ev) (hl : es.length = len) (hlen : len ≤ 300) (hes : ∀ e ∈ es, e.Ok) (w : World) (hz : Sz w) (hin : EvsIn ad es w) :
    Calls Tryd.prog 16 #[facts 3 0 0 0, .slice ad len cap] w fun x w' => x = .returned (.slice none 0 0) ∧ Below w.heap.size w w' := by
  have HRP := fun w hz hin => replayed_any 3 0 0 0 (by decide) ad len cap es hl hlen hes w hz hin
  have hb0 : Below w.heap.size w (w.alloc (.cells #[.int .i64 3, .int .i64 0, .int .i64 0, .int .i64 0] 24)) := by go_grown
  have HB0 := Lib.hid hb0
  have HZ := Lib.hid (hz.below hb0)
  have HIN := Lib.hid (hin.below hb0)
  have HNO := Lib.hid (NoneS.start.st' es 0)
  clear hb0 hz hin hl hlen hes
  unfold facts at HRP ⊢
  go_enter Tryd.func16, Tryd.ntmps16
  go_wp2_with fail
  refine (HRP _ HZ.out HIN.out).mono ?_
  rintro x w1 ⟨R, S, M, rfl, hr, hb1⟩
  have r4 := hr.r4
  rw [HNO.out.m] at r4
  have HB1 := Lib.hid (HB0.out.trans (hb1.mono HB0.out.size))
  obtain ⟨X, hX⟩ := sl71x S
  clear hr hb1 HRP
  go_wp2_with fail
  refine wp_loop_rounds 1 ?_
  rw [rounds_succ]
  go_wp2
  go_returns
  exact ⟨rfl, HB1.out⟩
end Go.Proofs.YtejfcmgnacimgaaDoor
