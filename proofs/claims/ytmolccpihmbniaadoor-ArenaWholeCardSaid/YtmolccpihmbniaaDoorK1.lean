/- The chapter's rows: 'known' answers true in whatever world, and makes only new memory; the table 'sizes' must read as the program lays it. -/
import Derived.Test.YtmolccpihmbniaaDoorB3
namespace Go.Proofs.YtmolccpihmbniaaDoor
open Go.RowKit
set_option linter.unusedVariables false
set_option linter.unusedSimpArgs false

/-- The table, an arena, and all old memory, as they were. -/
structure On (w0 : World) (A : Nat) (r : Ar) (w : World) : Prop where
  z : Sz w
  a : At A r w
  b : Below w0.heap.size w0 w
theorem On.next {w0 : World} {A : Nat} {r : Ar} {w w' : World} (h : On w0 A r w) (hb : Below w.heap.size w w') : On w0 A r w' := ⟨h.z.below hb, h.a.below hb, h.b.trans (hb.mono h.b.size)⟩

def kr (L : Nat) : Ar := ⟨1, 3, 4, 10, 22, 32, .pointer (some ⟨L, 0, none⟩)⟩
theorem kr_sm {L : Nat} : Sm (kr L) := by constructor <;> simp [kr]

set_option maxHeartbeats 4000000 in
set_option maxRecDepth 100000 in
theorem known_any (w : World) (hs : Sz w) :
    Calls Tryd.prog 10 #[] w fun e w' => e = .returned (.bool true) ∧ Below w.heap.size w w' := by
  go_enter Tryd.func10, Tryd.ntmps10
  go_wp2_with fail
  refine (begin_any 40 10 2 1 (by decide) (by decide) (by decide) (by decide) (by decide) _ hs).mono ?_
  rintro e w1 ⟨A, L, rfl, hN, hb⟩
  have HO0 := Lib.hid (show On w A (kr L) w1 from ⟨hs.below hb, hN.at_, hb⟩)
  clear hN hb
  go_wp2_with fail
  refine (of_any A (kr L) kr_sm 9 _ HO0.out.z HO0.out.a).mono ?_
  rintro e w2 ⟨rfl, hb⟩
  have HO1 := Lib.hid (HO0.out.next hb)
  clear hb HO0
  rw [show ofI (kr L) 9 = 0 from (by simp [kr, plc, ofI, ofB]), show ofK (kr L) 9 = 0 from (by rfl), show ofB (kr L) 9 = false from (by simp [kr, plc, ofI, ofB])]
  go_wp2_with fail
  refine (of_any A (kr L) kr_sm 15 _ HO1.out.z HO1.out.a).mono ?_
  rintro e w3 ⟨rfl, hb⟩
  have HO2 := Lib.hid (HO1.out.next hb)
  clear hb HO1
  rw [show ofI (kr L) 15 = 1 from (by simp [kr, plc, ofI, ofB]), show ofK (kr L) 15 = 3 from (by rfl), show ofB (kr L) 15 = true from (by simp [kr, plc, ofI, ofB])]
  go_wp2_with fail
  refine (of_any A (kr L) kr_sm 31 _ HO2.out.z HO2.out.a).mono ?_
  rintro e w4 ⟨rfl, hb⟩
  have HO3 := Lib.hid (HO2.out.next hb)
  clear hb HO2
  rw [show ofI (kr L) 31 = 3 from (by simp [kr, plc, ofI, ofB]), show ofK (kr L) 31 = 7 from (by rfl), show ofB (kr L) 31 = true from (by simp [kr, plc, ofI, ofB])]
  go_wp2_with fail
  refine (of_any A (kr L) kr_sm 32 _ HO3.out.z HO3.out.a).mono ?_
  rintro e w5 ⟨rfl, hb⟩
  have HO4 := Lib.hid (HO3.out.next hb)
  clear hb HO3
  rw [show ofI (kr L) 32 = 0 from (by simp [kr, plc, ofI, ofB]), show ofK (kr L) 32 = 0 from (by rfl), show ofB (kr L) 32 = false from (by simp [kr, plc, ofI, ofB])]
  go_wp2_with fail
  refine (aWords_any 2 1 (by decide) (by decide) _ HO4.out.z).mono ?_
  rintro e w6 ⟨rfl, hb⟩
  have HO5 := Lib.hid (HO4.out.next hb)
  clear hb HO4
  rw [show (6 * 2 + 10 * 1 : Int) = 22 from (by simp [kr, plc, ofI, ofB])]
  go_wp2_with fail
  refine (link_any A (kr L) kr_sm 1 _ HO5.out.z HO5.out.a).mono ?_
  rintro e w7 ⟨rfl, hb⟩
  have HO6 := Lib.hid (HO5.out.next hb)
  clear hb HO5
  rw [show plc (kr L) 1 0 0 = 10 from (by simp [kr, plc, ofI, ofB])]
  go_wp2_with fail
  refine (at_any A (kr L) kr_sm 1 0 _ HO6.out.z HO6.out.a).mono ?_
  rintro e w8 ⟨rfl, hb⟩
  have HO7 := Lib.hid (HO6.out.next hb)
  clear hb HO6
  rw [show plc (kr L) 1 2 0 = 12 from (by simp [kr, plc, ofI, ofB])]
  go_wp2_with fail
  refine (at_any A (kr L) kr_sm 2 3 _ HO7.out.z HO7.out.a).mono ?_
  rintro e w9 ⟨rfl, hb⟩
  have HO8 := Lib.hid (HO7.out.next hb)
  clear hb HO7
  rw [show plc (kr L) 2 2 3 = 21 from (by simp [kr, plc, ofI, ofB])]
  go_wp2_with fail
  refine (birth_any A (kr L) kr_sm 3 _ HO8.out.z HO8.out.a).mono ?_
  rintro e w10 ⟨rfl, hb⟩
  have HO9 := Lib.hid (HO8.out.next hb)
  clear hb HO8
  rw [show plc (kr L) 3 1 0 = 23 from (by simp [kr, plc, ofI, ofB])]
  go_wp2_with fail
  refine (at_any A (kr L) kr_sm 3 7 _ HO9.out.z HO9.out.a).mono ?_
  rintro e w11 ⟨rfl, hb⟩
  have HO10 := Lib.hid (HO9.out.next hb)
  clear hb HO9
  rw [show plc (kr L) 3 2 7 = 31 from (by simp [kr, plc, ofI, ofB])]
  go_wp2_with fail
  refine (class_any A (kr L) kr_sm 3 _ HO10.out.a (show fnd 3 (kr L).i0 (kr L).i1 (kr L).i2 = (1, 0, true) from rfl)).mono ?_
  rintro e w12 ⟨rfl, hb⟩
  have HO11 := Lib.hid (HO10.out.next hb)
  clear hb HO10
  rw [show clsOf 1 true = 1 from (by rfl)]
  go_wp2
  go_returns
  exact ⟨rfl, HO11.out.b⟩

end Go.Proofs.YtmolccpihmbniaaDoor
