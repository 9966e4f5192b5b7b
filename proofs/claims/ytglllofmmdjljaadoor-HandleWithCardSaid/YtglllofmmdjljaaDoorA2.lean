/- What strconv.FormatUint answers at base 10, for any word; at 100 and more the table of tens must read as its text lays it. -/
import Derived.Test.YtglllofmmdjljaaDoorA1
import Derived.Test.YtglllofmmdjljaaDoorShelf
import Derived.Lib.Walk
import Derived.Lib.ItoaWalk
import Derived.Lib.ItoaMem
import Derived.Lib.AppendIntMem
import Derived.BigCall
import Derived.BigGuard
namespace Go.Proofs.YtglllofmmdjljaaDoor
open Go.RowKit Go.Sort Go.Lib

set_option maxHeartbeats 400000 in
theorem fu_small (u : Nat) (hu : u < 100) (w : World) :
    Calls Tryd.prog 37 #[.int .u64 u, .int .i64 10] w fun e w' => e = .returned (.string ⟨(Lib.decDigits u).toArray⟩) ∧ w = w' := by
  go_enter Tryd.func37, Tryd.ntmps37
  go_wp2_with (go_at_call 42; refine (Tryd.internal_strconv_small u hu _).mono ?_; rintro e w' ⟨rfl, rfl⟩)
  go_ret
  exact ⟨rfl, rfl⟩

theorem digits_le (u : Nat) (h1 : 1 ≤ u) (h2 : u < 18446744073709551616) : Lib.nDigits u ≤ 20 := by
  have h := Lib.numDigits_eq u h1 h2
  split at h <;> omega

/-- A world in which the numeral of u stands at the head of block b, byte by byte. -/
def Stands (b u : Nat) (w : World) : Prop := ∀ (j : Nat) (hj : j < (Lib.decDigits u).length), w.cell? ⟨b, j, none⟩ = some (.int .u8 ((Lib.decDigits u)[j].toNat : Int))

/-- formatBase10 into a new array of 24 bytes: behind it the numeral stands there, and nothing older has turned. -/
theorem fmt_new (u : Nat) (h1 : 1 ≤ u) (h2 : u < 18446744073709551616) (w : World) :
    Calls Tryd.prog 44 #[.slice (some ⟨w.heap.size, 0, none⟩) (Lib.nDigits u) 24, .int .u64 u] (w.alloc (.cells Lib.zeros24 57))
      fun e w' => e = .returned (.tuple #[]) ∧ Stands w.heap.size u w' ∧ Below w.heap.size w w' := by
  have hn := digits_le u h1 h2
  have hz := Lib.holds_zero0 w 57 (Lib.nDigits u) (by omega)
  have hs : (Array.replicate (Lib.nDigits u) (0 : UInt8)).size = Lib.nDigits u := Array.size_replicate
  have hc := Tryd.internal_strconv_formatBase10 w.heap.size 0 24 u _ _ hz (hs.symm ▸ Lib.lt_pow_nDigits u) h2 (by omega)
  rw [hs] at hc
  refine hc.mono fun e w' ⟨he, n, v, dk, hw, hi⟩ => ⟨he, fun j hj => ?_, ?_⟩
  · subst hw
    have hj' : j < dk.size := by rw [hi.size, ← Lib.decDigits_length]; exact hj
    have hr := cell?_putRow (fun (b : UInt8) => Value.int .u8 (b.toNat : Int)) _ w.heap.size 0 _ dk hz (by rw [hi.size, hs]) j hj'
    rw [Nat.zero_add] at hr
    rw [World.cell?_drewN, hr, Lib.row_is_numeral hi j hj]
  · obtain ⟨os, ho⟩ := Lib.fin_at w (.cells Lib.zeros24 57) dk n 0
    rw [hw, ho]
    exact Lib.below_grow w.heap.size w (Nat.le_refl _) n os

/-- The bytes that stand there, made a string. -/
theorem string_of (b u : Nat) (w : World) (h : Stands b u w) : (convert 59 9 (.slice (some ⟨b, 0, none⟩) (Lib.nDigits u) 24)).run Tryd.prog w = .ok (.string ⟨(Lib.decDigits u).toArray⟩) w := by
  have hr := run_convert_bytes_back (P := Tryd.prog) w 59 9 5 ⟨b, 0, none⟩ 24 (Lib.decDigits u) Tryd.underlying59 Tryd.underlying5 Tryd.underlying9
    (fun j hj => by rw [Lib.add_plain, Nat.zero_add]; exact h j hj)
  rwa [Lib.decDigits_length] at hr

/-- The array's first bytes, as a slice. -/
theorem head_of (b n : Nat) (hn : n ≤ 24) (w : World) : (Instr.sliceAt 57 (.pointer (some ⟨b, 0, none⟩)) none (some (.int .i64 (n : Int))) none).run Tryd.prog w = .ok (.slice (some ⟨b, 0, none⟩) n 24) w := by
  have hl : Tryd.prog.arrayLen 57 = 24 := by kernel_rfl
  rw [run_sliceAt_array_h w 57 ⟨b, 0, none⟩ (by kernel_rfl) .i64 (n : Int) (by omega) (by rw [hl]; omega)]
  go_simp

set_option maxHeartbeats 400000 in
set_option maxRecDepth 100000 in
theorem fu_big (u : Nat) (hu : 100 ≤ u) (h2 : u < 18446744073709551616) (w : World)
    (htab : Lib.TabIs Tryd.prog w "internal/strconv.uint64pow10" .u64 Lib.pow10Tab) :
    Calls Tryd.prog 37 #[.int .u64 u, .int .i64 10] w fun e w' => e = .returned (.string ⟨(Lib.decDigits u).toArray⟩) ∧ Below w.heap.size w w' := by
  have h1 : 1 ≤ u := by omega
  have hn := digits_le u h1 h2
  have hh := head_of w.heap.size (Lib.nDigits u) (by omega)
  have hf := Lib.hid (fmt_new u h1 h2 w)
  have hi : (100 : Int) ≤ (u : Int) := by omega
  go_enter Tryd.func37, Tryd.ntmps37
  go_wp2_with (go_at_call 43; refine (Tryd.internal_strconv_numDigits u h1 h2 _ (Lib.tabIs_alloc htab _)).mono ?_; rintro e w' ⟨rfl, rfl⟩)
  refine hf.out.mono ?_
  rintro e w2 ⟨rfl, hs, hb⟩
  have hc := string_of w.heap.size u w2 hs
  go_wp2
  go_ret
  exact ⟨rfl, hb⟩
end Go.Proofs.YtglllofmmdjljaaDoor
