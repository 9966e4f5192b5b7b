/- What handle.Read answers for any string: the fold of the reader's step over its runes; the table of signs must read as the program lays it. -/
import Derived.Test.YtglllofmmdjljaaDoorB2
namespace Go.Proofs.YtglllofmmdjljaaDoor
open Go.RowKit Go.Sort Go.Lib

def wholeB (r : Rd) : Bool := r.ib && (r.tg == decide (r.tv ≠ 0))

set_option maxHeartbeats 400000 in
theorem whole_any (r : Rd) (w : World) (s : ByteArray) (pos : Nat) :
    Calls Tryd.prog 31 #[.pointer (some ⟨w.heap.size, 0, none⟩)] (RW w r s pos) fun e w' => e = .returned (.bool (wholeB r)) ∧ ∃ n, w' = (RW w r s pos).drewN n := by
  obtain ⟨iv, ib, ms, tg, tv, tb⟩ := r
  have c1 := RW.cell w ⟨iv, ib, ms, tg, tv, tb⟩ s pos 1
  have c3 := RW.cell w ⟨iv, ib, ms, tg, tv, tb⟩ s pos 3
  have c4 := RW.cell w ⟨iv, ib, ms, tg, tv, tb⟩ s pos 4
  simp only [rc] at c1 c3 c4
  simp at c1 c3 c4
  generalize RW w ⟨iv, ib, ms, tg, tv, tb⟩ s pos = W at *
  unfold wholeB
  simp only
  cases ib
  · go_enter Tryd.func31, Tryd.ntmps31
    go_wp2
    go_quiet (fail)
    go_wp2
    go_ret
    exact ⟨rfl, _, rfl⟩
  · by_cases htv : tv = 0
    · subst htv
      cases tg
      all_goals
        go_enter Tryd.func31, Tryd.ntmps31
        go_wp2
        go_quiet (fail)
        go_wp2
        go_ret
        exact ⟨rfl, _, rfl⟩
    · have hb : ((tv : Int) != 0) = true := by rw [bne_iff_ne]; omega
      have hd : decide (tv ≠ 0) = true := by simpa using htv
      rw [hd]
      clear hd htv
      cases tg
      all_goals
        go_enter Tryd.func31, Tryd.ntmps31
        go_wp2
        go_quiet (fail)
        go_wp2
        go_ret
        exact ⟨rfl, _, rfl⟩

def rdFrom (s : ByteArray) : Nat → Nat → Rd → Option Rd
  | 0, _, r => some r
  | f + 1, pos, r => if pos < s.size then (if (step r (Utf8.decode s pos).1).2 = true then rdFrom s f (pos + (Utf8.decode s pos).2) (step r (Utf8.decode s pos).1).1 else none) else some r

def Rd.packed (r : Rd) : Nat := r.iv + r.ms * 4194304 + r.tv * 16777216

def readH (s : ByteArray) : Option Nat :=
  match rdFrom s s.size 0 Rd.zero with
  | some r => if wholeB r = true then some r.packed else none
  | none => none

def readEnd (o : Option Nat) : Ending := match o with | some h => .returned (.tuple #[.int .u64 h, .int .i64 0]) | none => .returned (.tuple #[.int .u64 0, .int .i64 8])

theorem rdFrom_end (s : ByteArray) (b pos : Nat) (r : Rd) (h : ¬ pos < s.size) : rdFrom s b pos r = some r := by
  cases b with
  | zero => rfl
  | succ b => simp [rdFrom, h]

theorem width_pos (s : ByteArray) (pos : Nat) (h : pos < s.size) : 1 ≤ (Utf8.decode s pos).2 := by
  by_cases ha : (s[pos]'h).toNat < 128
  · rw [decode_ascii s pos h ha]
    exact Nat.le_refl _
  · exact (decode_high s pos h (by omega)).2

theorem step_ok (r : Rd) (c : Int) (h : r.Ok) : (step r c).1.Ok := by
  obtain ⟨iv, ib, ms, tg, tv, tb⟩ := r
  obtain ⟨o1, o2, o3⟩ := h
  simp only at o1 o2 o3
  unfold step
  split
  · split
    · rename_i v hv
      have := num_some hv
      exact ⟨o1, o2, by simp only; omega⟩
    · exact ⟨o1, o2, o3⟩
  · split
    · exact ⟨o1, o2, o3⟩
    · split
      · unfold markStep
        split
        · exact ⟨o1, o2, o3⟩
        · rename_i hn
          simp at hn
          exact ⟨o1, by simp only; omega, o3⟩
      · split
        · unfold markStep
          split
          · exact ⟨o1, o2, o3⟩
          · rename_i hn
            simp at hn
            exact ⟨o1, by simp only; omega, o3⟩
        · split
          · split
            · rename_i v hv
              have := num_some hv
              exact ⟨by simp only; omega, o2, o3⟩
            · exact ⟨o1, o2, o3⟩
          · exact ⟨o1, o2, o3⟩

theorem RW.below (w : World) (r : Rd) (s : ByteArray) (pos : Nat) : Below w.heap.size w (RW w r s pos) := by
  unfold RW World.iter
  exact below2 w _ _

theorem RW.iterPos (w : World) (r : Rd) (s : ByteArray) (pos : Nat) : (RW w r s pos).iterPos (w.heap.size + 1) = pos := by
  have := World.iterPos_iter (w.alloc (.cells (rc r) 48)) s pos
  simpa [RW] using this

theorem RW.next (w : World) (r : Rd) (s : ByteArray) (pos : Nat) (ty : TypeId) (h : pos < s.size) :
    (Instr.next (.pointer (some ⟨w.heap.size + 1, 0, none⟩)) true ty).run Tryd.prog (RW w r s pos) =
      .ok (.tuple #[.bool true, .int .i64 pos, .int .i32 (Utf8.decode s pos).1]) (RW w r s (pos + (Utf8.decode s pos).2)) := by
  have := run_next_any (P := Tryd.prog) (w.alloc (.cells (rc r) 48)) s pos ty h
  simpa [RW] using this
theorem RW.last (w : World) (r : Rd) (s : ByteArray) (pos : Nat) (ty : TypeId) (h : ¬ pos < s.size) :
    (Instr.next (.pointer (some ⟨w.heap.size + 1, 0, none⟩)) true ty).run Tryd.prog (RW w r s pos) = .ok (.tuple #[.bool false]) (RW w r s pos) := by
  have := run_next_end (P := Tryd.prog) (w.alloc (.cells (rc r) 48)) s pos ty h
  simpa [RW] using this

theorem cast_packed (a b c : Nat) : ((a + b * 4194304 + c * 16777216 : Nat) : Int) = (a : Int) + (b : Int) * 4194304 + (c : Int) * 16777216 := by
  rw [Int.natCast_add, Int.natCast_add, Int.natCast_mul, Int.natCast_mul]; rfl

set_option maxHeartbeats 1000000 in
set_option maxRecDepth 100000 in
theorem read_any (s : ByteArray) (w : World) (hL : Laid w) :
    Calls Tryd.prog 24 #[.string s] w fun e w' => e = readEnd (readH s) ∧ Below w.heap.size w w' := by
  have s0 := hL.s0
  have s1 := hL.s1
  go_enter Tryd.func24, Tryd.ntmps24
  go_wp2
  go_loopw [] (fun wx => ∃ (pos b : Nat) (r : Rd), wx = RW w r s pos ∧ r.Ok ∧ Hid (rdFrom s b pos r = rdFrom s s.size 0 Rd.zero) ∧ Hid (s.size ≤ pos + b)) (fun wx => s.size - wx.iterPos (w.heap.size + 1))
  case atStart => exact ⟨0, s.size, Rd.zero, rfl, ⟨by simp [Rd.zero], by simp [Rd.zero], by simp [Rd.zero]⟩, rfl, Nat.le_add_left _ _⟩
  case round =>
    obtain ⟨pos, b, r, rfl, hok, hc, hb⟩ := hrel
    by_cases hp : pos < s.size
    · have hnx := fun ty => RW.next w r s pos ty hp
      have htk := Lib.hid (take_any r hok (Utf8.decode s pos).1 w s (pos + (Utf8.decode s pos).2) s0 s1)
      have hwd := Lib.hid (width_pos s pos hp)
      have hso := step_ok r (Utf8.decode s pos).1 hok
      obtain ⟨b', hb'⟩ : ∃ b', b = b' + 1 := ⟨b - 1, by have := hb.out; omega⟩
      have hrd : Hid (rdFrom s b pos r = if (step r (Utf8.decode s pos).1).2 = true then rdFrom s b' (pos + (Utf8.decode s pos).2) (step r (Utf8.decode s pos).1).1 else none) := by
        rw [hb']; show rdFrom s (b' + 1) pos r = _; rw [rdFrom, if_pos hp]
      have HB' := Lib.hid hb'
      have HP := Lib.hid hp
      clear hb' hp
      go_wp2_with fail
      refine htk.out.mono ?_
      rintro e w1 ⟨rfl, rfl⟩
      cases hs : (step r (Utf8.decode s pos).1).2 with
      | true =>
        have HS := Lib.hid hs
        clear hs
        go_wp2
        go_roundw
        case rel => exact ⟨pos + (Utf8.decode s pos).2, b', _, rfl, hso, by show _ = _; rw [← hc.out, hrd.out, if_pos HS.out], by have := hb.out; have := HB'.out; have := hwd.out; show _ ≤ _; omega⟩
        case measure =>
          rw [RW.iterPos, RW.iterPos]
          have := hwd.out
          have := HP.out
          omega
      | false =>
        have HS := Lib.hid hs
        clear hs
        go_wp2
        go_ret2
        have hn : readH s = none := by
          unfold readH; rw [← hc.out, hrd.out, HS.out]; rfl
        exact ⟨by rw [hn]; rfl, RW.below _ _ _ _⟩
    · have hnx := fun ty => RW.last w r s pos ty hp
      have hrd := Lib.hid (hc.out.symm.trans (rdFrom_end s b pos r hp))
      have hwh := Lib.hid (whole_any r w s pos)
      clear hp hc
      go_wp2_with fail
      refine hwh.out.mono ?_
      rintro e w1 ⟨rfl, n, rfl⟩
      have c0 := RW.cell w r s pos 0
      have c2 := RW.cell w r s pos 2
      have c4 := RW.cell w r s pos 4
      have hbl := RW.below w r s pos
      obtain ⟨iv, ib, ms, tg, tv, tb⟩ := r
      obtain ⟨o1, o2, o3⟩ := hok
      simp only at o1 o2 o3
      simp only [rc] at c0 c2 c4
      simp at c0 c2 c4
      have hbl2 : Below w.heap.size w ((RW w ⟨iv, ib, ms, tg, tv, tb⟩ s pos).drewN n) := ⟨hbl.os, hbl.tape, hbl.output, hbl.size, hbl.block⟩
      rw [← World.cell?_drewN (n := n)] at c0 c2 c4
      generalize (RW w ⟨iv, ib, ms, tg, tv, tb⟩ s pos).drewN n = W at *
      cases hw : wholeB ⟨iv, ib, ms, tg, tv, tb⟩ with
      | false =>
        have hn : readH s = none := by
          unfold readH; rw [hrd.out]; simp [hw]
        have HN := Lib.hid hn
        clear hn hw
        go_wp2
        go_ret2
        exact ⟨by rw [HN.out]; rfl, hbl2⟩
      | true =>
        have hn : readH s = some (Rd.packed ⟨iv, ib, ms, tg, tv, tb⟩) := by
          unfold readH; rw [hrd.out]; simp [hw]
        have HN := Lib.hid hn
        have hmy : mayB iv ms tv = true := by unfold mayB; simp; omega
        have hpk := Lib.hid (fun W' => pack_yes iv ms tv hmy (by omega) W')
        clear hn hw hmy
        go_wp2_with fail
        refine (hpk.out _).mono ?_
        rintro e w1 ⟨rfl, rfl⟩
        go_wp2
        go_ret2
        refine ⟨?_, hbl2⟩
        rw [HN.out]
        show _ = Ending.returned (.tuple #[.int .u64 ((iv + ms * 4194304 + tv * 16777216 : Nat) : Int), .int .i64 0])
        rw [show ((iv + ms * 4194304 + tv * 16777216 : Nat) : Int) = (iv : Int) + (ms : Int) * 4194304 + (tv : Int) * 16777216 from cast_packed iv ms tv]
        rfl
end Go.Proofs.YtglllofmmdjljaaDoor
