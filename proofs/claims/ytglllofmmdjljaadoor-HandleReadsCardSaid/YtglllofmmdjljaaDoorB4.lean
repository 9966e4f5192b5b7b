/- The chapter's known rows answer true; the tables must read as the program lays them. -/
import Derived.Test.YtglllofmmdjljaaDoorB3
namespace Go.Proofs.YtglllofmmdjljaaDoor
open Go.RowKit Go.Sort Go.Lib

theorem known_pack1 (w : World) : Calls Tryd.prog 9 #[.int .i64 5, .int .i64 0, .int .u64 0] w fun e w' => e = .returned (.int .u64 5) ∧ w = w' :=
  pack_yes 5 0 0 rfl (by omega) w
theorem known_pack2 (w : World) : Calls Tryd.prog 9 #[.int .i64 1, .int .i64 3, .int .u64 2] w fun e w' => e = .returned (.int .u64 46137345) ∧ w = w' :=
  pack_yes 1 3 2 rfl (by omega) w
theorem known_read1 (w : World) (hL : Laid w) : Calls Tryd.prog 24 #[.string ⟨#[48, 53]⟩] w fun e w' => e = .returned (.tuple #[.int .u64 0, .int .i64 8]) ∧ Below w.heap.size w w' := by
  have h := read_any ⟨#[48, 53]⟩ w hL
  rw [show readH ⟨#[48, 53]⟩ = none by decide +kernel] at h
  exact h
theorem known_read2 (w : World) (hL : Laid w) : Calls Tryd.prog 24 #[.string ⟨#[53, 64, 48]⟩] w fun e w' => e = .returned (.tuple #[.int .u64 0, .int .i64 8]) ∧ Below w.heap.size w w' := by
  have h := read_any ⟨#[53, 64, 48]⟩ w hL
  rw [show readH ⟨#[53, 64, 48]⟩ = none by decide +kernel] at h
  exact h
theorem known_read3 (w : World) (hL : Laid w) : Calls Tryd.prog 24 #[.string ⟨#[53, 226, 128, 179, 226, 128, 178]⟩] w fun e w' => e = .returned (.tuple #[.int .u64 0, .int .i64 8]) ∧ Below w.heap.size w w' := by
  have h := read_any ⟨#[53, 226, 128, 179, 226, 128, 178]⟩ w hL
  rw [show readH ⟨#[53, 226, 128, 179, 226, 128, 178]⟩ = none by decide +kernel] at h
  exact h
theorem known_text1 (w : World) (hL : Laid w) : Calls Tryd.prog 23 #[.int .u64 5] w fun e w' => e = .returned (.string ⟨#[53]⟩) ∧ Below w.heap.size w w' := by
  have h := text_any 5 (by omega) w hL
  rw [show textOf 5 = [53] by decide +kernel] at h
  exact h
theorem known_text2 (w : World) (hL : Laid w) : Calls Tryd.prog 23 #[.int .u64 46137345] w fun e w' => e = .returned (.string ⟨#[49, 226, 128, 178, 226, 128, 179, 64, 50]⟩) ∧ Below w.heap.size w w' := by
  have h := text_any 46137345 (by omega) w hL
  rw [show textOf 46137345 = [49, 226, 128, 178, 226, 128, 179, 64, 50] by decide +kernel] at h
  exact h

set_option maxHeartbeats 1000000 in
set_option maxRecDepth 100000 in
theorem known_any (w : World) (hL : Laid w) : Calls Tryd.prog 12 #[] w fun e w' => e = .returned (.bool true) ∧ Below w.heap.size w w' := by
  go_enter Tryd.func12, Tryd.ntmps12
  go_wp2_with fail
  refine (known_pack1 _).mono ?_
  rintro e w1 ⟨rfl, rfl⟩
  go_wp2_with fail
  refine (known_pack2 _).mono ?_
  rintro e w1 ⟨rfl, rfl⟩
  go_wp2_with fail
  refine (known_read1 _ hL).mono ?_
  rintro e w1 ⟨rfl, hb1⟩
  have hL1 := hL.next hb1
  go_wp2_with fail
  refine (known_read2 _ hL1).mono ?_
  rintro e w2 ⟨rfl, hb2⟩
  have hL2 := hL1.next hb2
  go_wp2_with fail
  refine (known_read3 _ hL2).mono ?_
  rintro e w3 ⟨rfl, hb3⟩
  have hL3 := hL2.next hb3
  go_wp2_with fail
  refine (known_text1 _ hL3).mono ?_
  rintro e w4 ⟨rfl, hb4⟩
  have hL4 := hL3.next hb4
  go_wp2_with fail
  refine (known_text2 _ hL4).mono ?_
  rintro e w5 ⟨rfl, hb5⟩
  go_wp2
  go_ret
  exact ⟨rfl, bt (bt (bt (bt hb1 hb2) hb3) hb4) hb5⟩
end Go.Proofs.YtglllofmmdjljaaDoor
