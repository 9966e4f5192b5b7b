/- The laws HandleTexts and HandleReads answer true in whatever world, at any word and any string; the tables must read as the program lays them. -/
import Derived.Test.YtglllofmmdjljaaDoorB4
import Derived.Test.YtglllofmmdjljaaDoorF4
namespace Go.Proofs.YtglllofmmdjljaaDoor
open Go.RowKit Go.Sort Go.Lib

set_option maxHeartbeats 1000000 in
set_option maxRecDepth 100000 in
theorem refread_any (s : ByteArray) (hs : s.size ≤ 100) (w : World) :
    Calls Tryd.prog 26 #[.string s] w fun e w' => e = rEnd (refRead s.data.toList) ∧ w = w' := by
  cases hd : digR s.data.toList with
  | none =>
    have hr : Hid (refRead s.data.toList = none) := by show _ = _; unfold refRead; rw [hd]
    have hd0 : digR (s.data.toList.drop 0) = none := by simpa using hd
    have D0 := Lib.hid (dig_is s 0 (by omega) hs _ hd0)
    clear hd hd0
    go_enter Tryd.func26, Tryd.ntmps26
    go_wp2_with fail
    refine (D0.out _ rfl _).mono ?_
    rintro e w1 ⟨rfl, rfl⟩
    unfold digEnd
    go_wp2
    go_ret2
    exact ⟨by rw [hr.out]; rfl, rfl⟩
  | some nk =>
    obtain ⟨n, k⟩ := nk
    by_cases hn : 4194304 ≤ n
    · have hr : Hid (refRead s.data.toList = none) := by show _ = _; unfold refRead; rw [hd]; exact if_pos hn
      have hd0 : digR (s.data.toList.drop 0) = some (n, k) := by simpa using hd
      have D0 := Lib.hid (dig_is s 0 (by omega) hs _ hd0)
      clear hd hd0
      go_enter Tryd.func26, Tryd.ntmps26
      go_wp2_with fail
      refine (D0.out _ rfl _).mono ?_
      rintro e w1 ⟨rfl, rfl⟩
      unfold digEnd
      go_wp2
      go_ret2
      exact ⟨by rw [hr.out]; rfl, rfl⟩
    · have hr : refRead s.data.toList = refMarks s.data.toList n k := by unfold refRead; rw [hd]; exact if_neg hn
      rw [hr]
      unfold refMarks
      cases t1 : tk s.data.toList k [226, 128, 178] with
      | true =>
        cases t2 : tk s.data.toList (k + 3) [226, 128, 179] with
        | true => exact refread_3 s hs n k hd (by omega) t1 t2 w
        | false => exact refread_1 s hs n k hd (by omega) t1 t2 w
      | false =>
        cases t2 : tk s.data.toList k [226, 128, 179] with
        | true => exact refread_2 s hs n k hd (by omega) t1 t2 w
        | false => exact refread_0 s hs n k hd (by omega) t1 t2 w

theorem read_is (s : ByteArray) (o : Option Nat) (ho : readH s = o) (w : World) (hL : Laid w) :
    Calls Tryd.prog 24 #[.string s] w fun e w' => e = readEnd o ∧ Below w.heap.size w w' := by
  subst ho; exact read_any s w hL
theorem refread_is (s : ByteArray) (hs : s.size ≤ 100) (o : Option Nat) (ho : readH s = o) (w : World) :
    Calls Tryd.prog 26 #[.string s] w fun e w' => e = rEnd o ∧ w = w' := by
  subst ho; rw [readers_agree]; exact refread_any s hs w

set_option maxHeartbeats 1000000 in
set_option maxRecDepth 100000 in
theorem law_texts (h : Nat) (h1 : h < 18446744073709551616) (w : World) (hL : Laid w) :
    Calls Tryd.prog 7 #[.int .u64 h] w fun e w' => e = .returned (.bool true) ∧ Below w.heap.size w w' := by
  have hT := Lib.hid (text_any h h1)
  have hR := Lib.hid (read_is ⟨(textOf h).toArray⟩ (some h) (readH_text h h1 _ (by simp)))
  have hF := Lib.hid (reftext_any h h1)
  generalize textOf h = T at *
  go_enter Tryd.func7, Tryd.ntmps7
  go_wp2_with fail
  refine (hT.out _ hL).mono ?_
  rintro e w1 ⟨rfl, hb1⟩
  have hL1 := hL.next hb1
  go_wp2_with fail
  refine (hR.out _ hL1).mono ?_
  rintro e w2 ⟨rfl, hb2⟩
  unfold readEnd
  have hb02 := bt hb1 hb2
  have hL2 := hL.next hb02
  go_wp2_with fail
  refine (hF.out _).mono ?_
  rintro e w3 ⟨rfl, rfl⟩
  go_wp2_with fail
  refine (known_any _ hL2).mono ?_
  rintro e w4 ⟨rfl, hb4⟩
  go_wp2
  go_ret
  exact ⟨rfl, bt hb02 hb4⟩

set_option maxHeartbeats 1000000 in
set_option maxRecDepth 100000 in
theorem law_reads (s : ByteArray) (hm : s.size ≤ 9223372036854775807) (w : World) (hL : Laid w) :
    Calls Tryd.prog 8 #[.string s] w fun e w' => e = .returned (.bool true) ∧ Below w.heap.size w w' := by
  by_cases hs : s.size ≤ 100
  · clear hm
    cases ho : readH s with
    | none =>
      have hR := Lib.hid (read_is s none ho)
      have hF := Lib.hid (refread_is s hs none ho)
      clear ho
      go_enter Tryd.func8, Tryd.ntmps8
      go_wp2_with fail
      refine (hR.out _ hL).mono ?_
      rintro e w1 ⟨rfl, hb1⟩
      have hL1 := hL.next hb1
      unfold readEnd
      go_wp2_with fail
      refine (hF.out _).mono ?_
      rintro e w2 ⟨rfl, rfl⟩
      unfold rEnd
      go_wp2_with fail
      refine (known_any _ hL1).mono ?_
      rintro e w4 ⟨rfl, hb4⟩
      go_wp2
      go_ret
      exact ⟨rfl, bt hb1 hb4⟩
    | some h =>
      obtain ⟨h1, h2⟩ := readH_is ho
      have hse : s = ⟨(textOf h).toArray⟩ := by
        apply ByteArray.ext
        apply Array.ext'
        rw [← h2]
      have hR := Lib.hid (read_is s (some h) ho)
      have hF := Lib.hid (refread_is s hs (some h) ho)
      have hT := Lib.hid (text_any h h1)
      clear ho h2
      generalize textOf h = T at *
      subst hse
      have hl : T.length ≤ 100 := by simpa [ByteArray.size] using hs
      clear hs
      go_enter Tryd.func8, Tryd.ntmps8
      go_wp2_with fail
      refine (hR.out _ hL).mono ?_
      rintro e w1 ⟨rfl, hb1⟩
      have hL1 := hL.next hb1
      unfold readEnd
      go_wp2_with fail
      refine (hF.out _).mono ?_
      rintro e w2 ⟨rfl, rfl⟩
      unfold rEnd
      go_wp2_with fail
      refine (hT.out _ hL1).mono ?_
      rintro e w3 ⟨rfl, hb3⟩
      have hb03 := bt hb1 hb3
      have hL3 := hL.next hb03
      go_wp2_with fail
      refine (known_any _ hL3).mono ?_
      rintro e w4 ⟨rfl, hb4⟩
      go_wp2
      go_ret
      exact ⟨rfl, bt hb03 hb4⟩
  · have hs' : 100 < s.size := by omega
    clear hs
    go_enter Tryd.func8, Tryd.ntmps8
    go_wp2_with fail
    refine (known_any _ hL).mono ?_
    rintro e w4 ⟨rfl, hb4⟩
    go_wp2
    go_ret
    exact ⟨rfl, hb4⟩

theorem law_texts_int (h : Int) (h0 : 0 ≤ h) (h1 : h < 18446744073709551616) (w : World) (hL : Laid w) :
    Calls Tryd.prog 7 #[.int .u64 h] w fun e w' => e = .returned (.bool true) ∧ Below w.heap.size w w' := by
  obtain ⟨n, rfl⟩ := Int.eq_ofNat_of_zero_le h0
  exact law_texts n (by omega) w hL
end Go.Proofs.YtglllofmmdjljaaDoor
