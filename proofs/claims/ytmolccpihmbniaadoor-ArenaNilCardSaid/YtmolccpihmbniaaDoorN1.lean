/- The law ArenaNil answers true in whatever world; the table must read as the program lays it. -/
import Derived.Test.YtmolccpihmbniaaDoorC1
namespace Go.Proofs.YtmolccpihmbniaaDoor
open Go.RowKit
set_option linter.unusedVariables false
set_option linter.unusedSimpArgs false

set_option maxHeartbeats 4000000 in
set_option maxRecDepth 100000 in
theorem law_nil (w : World) (hs : Sz w) :
    Calls Tryd.prog 8 #[] w fun e w' => e = .returned (.bool true) ∧ Below w.heap.size w w' := by
  have h0 : On w w.heap.size zr (w.alloc (.cells #[.int .i64 0, .int .i64 0, .int .i64 0, .int .i64 0, .int .i64 0, .int .i64 0, .pointer none] 51)) := by
    have hb : Below w.heap.size w (w.alloc (.cells #[.int .i64 0, .int .i64 0, .int .i64 0, .int .i64 0, .int .i64 0, .int .i64 0, .pointer none] 51)) := by go_grown
    refine ⟨hs.below hb, ?_, hb⟩
    constructor <;> simp [go_sem, zr]
  generalize hB : w.heap.size = B at h0
  have HBB := Lib.hid hB
  clear hB
  have HO0 := Lib.hid h0
  clear h0
  have f1 : fnd 1 zr.i0 zr.i1 zr.i2 = (0, 0, false) := rfl
  have f0 : fnd 0 zr.a0 zr.a1 zr.a2 = (0, 0, false) := rfl
  have F1 := Lib.hid f1
  have F0 := Lib.hid f0
  clear f1 f0
  go_enter Tryd.func8, Tryd.ntmps8
  go_wp2_with fail
  rw [HBB.out]
  refine (aNew_nil (-1) (-1) 0 _).mono ?_
  rintro e w1 ⟨rfl, hb⟩
  have HO1 := Lib.hid (HO0.out.next hb)
  clear hb HO0
  go_wp2_with fail
  refine (of_nil 0 _).mono ?_
  rintro e w2 ⟨rfl, hb⟩
  have HO2 := Lib.hid (HO1.out.next hb)
  clear hb HO1
  go_wp2_with fail
  refine (of_no B zr zr_sm 0 _ HO2.out.a F0.out).mono ?_
  rintro e w3 ⟨rfl, hb⟩
  have HO3 := Lib.hid (HO2.out.next hb)
  clear hb HO2
  go_wp2_with fail
  refine (leads_nil 1 (by decide) (by decide) _).mono ?_
  rintro e w4 ⟨rfl, hb⟩
  have HO4 := Lib.hid (HO3.out.next hb)
  clear hb HO3
  go_wp2_with fail
  refine (len_nil _).mono ?_
  rintro e w5 ⟨rfl, hb⟩
  have HO5 := Lib.hid (HO4.out.next hb)
  clear hb HO4
  go_wp2_with fail
  refine (len_zero B _ HO5.out.a).mono ?_
  rintro e w6 ⟨rfl, hb⟩
  have HO6 := Lib.hid (HO5.out.next hb)
  clear hb HO5
  go_wp2_with fail
  refine (cap_nil 0 _).mono ?_
  rintro e w7 ⟨rfl, hb⟩
  have HO7 := Lib.hid (HO6.out.next hb)
  clear hb HO6
  go_wp2_with fail
  refine (cap_zero1 B _ HO7.out.a).mono ?_
  rintro e w8 ⟨rfl, hb⟩
  have HO8 := Lib.hid (HO7.out.next hb)
  clear hb HO7
  go_wp2_with fail
  refine (born_nil 1 _).mono ?_
  rintro e w9 ⟨rfl, hb⟩
  have HO9 := Lib.hid (HO8.out.next hb)
  clear hb HO8
  go_wp2_with fail
  refine (life_nil 1 _).mono ?_
  rintro e w10 ⟨rfl, hb⟩
  have HO10 := Lib.hid (HO9.out.next hb)
  clear hb HO9
  go_wp2_with fail
  refine (born_no B zr zr_sm 1 _ HO10.out.a F1.out).mono ?_
  rintro e w11 ⟨rfl, hb⟩
  have HO11 := Lib.hid (HO10.out.next hb)
  clear hb HO10
  go_wp2_with fail
  refine (class_nil 1 _).mono ?_
  rintro e w12 ⟨rfl, hb⟩
  have HO12 := Lib.hid (HO11.out.next hb)
  clear hb HO11
  go_wp2_with fail
  refine (class_any B zr zr_sm 1 _ HO12.out.a F1.out).mono ?_
  rintro e w13 ⟨rfl, hb⟩
  have HO13 := Lib.hid (HO12.out.next hb)
  clear hb HO12
  rw [show clsOf 0 false = -1 from rfl]
  go_wp2_with fail
  refine (at_nil 1 0 _).mono ?_
  rintro e w14 ⟨rfl, hb⟩
  have HO14 := Lib.hid (HO13.out.next hb)
  clear hb HO13
  go_wp2_with fail
  refine (link_nil 1 _).mono ?_
  rintro e w15 ⟨rfl, hb⟩
  have HO15 := Lib.hid (HO14.out.next hb)
  clear hb HO14
  go_wp2_with fail
  refine (birth_any B zr zr_sm 1 _ HO15.out.z HO15.out.a).mono ?_
  rintro e w16 ⟨rfl, hb⟩
  have HO16 := Lib.hid (HO15.out.next hb)
  clear hb HO15
  rw [show plc zr 1 1 0 = -1 from by simp [plc, zr]]
  go_wp2_with fail
  refine (known_any _ HO16.out.z).mono ?_
  rintro e w17 ⟨rfl, hb⟩
  have HB := Lib.hid (HO16.out.next hb).b
  clear hb
  go_wp2
  go_returns
  exact ⟨rfl, by have h := HB.out; rwa [HBB.out] at h⟩

end Go.Proofs.YtmolccpihmbniaaDoor
