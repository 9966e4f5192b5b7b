/- What the reference's Read answers for any string of at most 100 bytes. -/
import Derived.Test.YtglllofmmdjljaaDoorE3
namespace Go.Proofs.YtglllofmmdjljaaDoor
open Go.RowKit Go.Sort Go.Lib

def packN (n m t : Nat) : Nat := n + m * 4194304 + t * 16777216

def refTail (l : List UInt8) (n ms k : Nat) : Option Nat :=
  if k = l.length then some (packN n ms 0)
  else if l[k]? ≠ some 64 then none
  else match digR (l.drop (k + 1)) with
    | none => none
    | some (t, e) => if k + 1 + e = l.length ∧ t ≠ 0 ∧ t < 1099511627776 then some (packN n ms t) else none

def refMarks (l : List UInt8) (n k : Nat) : Option Nat :=
  match tk l k [226, 128, 178] with
  | true => match tk l (k + 3) [226, 128, 179] with
    | true => refTail l n 3 (k + 3 + 3)
    | false => refTail l n 1 (k + 3)
  | false => match tk l k [226, 128, 179] with
    | true => refTail l n 2 (k + 3)
    | false => refTail l n 0 k

def refRead (l : List UInt8) : Option Nat :=
  match digR l with
  | none => none
  | some (n, k) => if 4194304 ≤ n then none else refMarks l n k

def rEnd (o : Option Nat) : Ending := match o with | some h => .returned (.tuple #[.int .u64 h, .int .i64 0]) | none => .returned (.tuple #[.int .u64 0, .int .i64 8])

theorem dig_is (s : ByteArray) (a : Nat) (ha : a ≤ s.size) (hs : s.size ≤ 100) (o : Option (Nat × Nat)) (ho : digR (s.data.toList.drop a) = o) (p : Int) (hp : p = (a : Int)) (w : World) :
    Calls Tryd.prog 33 #[.string s, .int .i64 p] w fun e w' => e = digEnd a o ∧ w = w' := by
  subst ho; subst hp; exact digits_any s a ha hs w

theorem tick_is (s : ByteArray) (a : Nat) (x y z : UInt8) (hs : s.size ≤ 100) (ha : a ≤ s.size) (b : Bool) (hb : tk s.data.toList a [x, y, z] = b) (p : Int) (hp : p = (a : Int)) (w : World) :
    Calls Tryd.prog 34 #[.string s, .int .i64 p, .string ⟨#[x, y, z]⟩] w fun e w' => e = .returned (.bool b) ∧ w = w' := by
  subst hb; subst hp; exact tick_any s a x y z hs ha w

theorem cast3 (a b c : Nat) : ((a + b * 4194304 + c * 16777216 : Nat) : Int) = (a : Int) + (b : Int) * 4194304 + (c : Int) * 16777216 := by
  rw [Int.natCast_add, Int.natCast_add, Int.natCast_mul, Int.natCast_mul]; rfl

theorem rEnd_some (h : Nat) (x : Int) (e : x = (h : Int)) : Ending.returned (.tuple #[.int .u64 x, .int .i64 0]) = rEnd (some h) := by rw [e]; rfl

set_option maxHeartbeats 1000000 in
set_option maxRecDepth 100000 in
theorem refread_3 (s : ByteArray) (hs : s.size ≤ 100) (n k : Nat) (hd : digR s.data.toList = some (n, k)) (hn : n < 4194304) (t1 : tk s.data.toList k [226, 128, 178] = true) (t2 : tk s.data.toList (k + 3) [226, 128, 179] = true) (w : World) :
    Calls Tryd.prog 26 #[.string s] w fun e w' => e = rEnd (refTail s.data.toList n 3 (k + 3 + 3)) ∧ w = w' := by
  have hz : s.data.toList.length = s.size := by rfl
  have hk : k ≤ s.size := by have := digR_some hd; omega
  have hk1 : k + 3 ≤ s.size := by have := tk_le t1; omega
  have hk2 : k + 3 + 3 ≤ s.size := by have := tk_le t2; omega
  have hd0 : digR (s.data.toList.drop 0) = some (n, k) := by simpa using hd
  have D0 := Lib.hid (dig_is s 0 (by omega) hs _ hd0)
  have T1 := Lib.hid (tick_is s k 226 128 178 hs hk _ t1)
  have T2 := Lib.hid (tick_is s (k + 3) 226 128 179 hs hk1 _ t2)
  have hmy := Lib.hid (show ∀ t : Nat, t ≤ 1099511627775 → mayB n 3 t = true from fun t ht => by unfold mayB; simp; omega)
  have HZ := Lib.hid hz
  clear hd hd0 t1 t2 hz
  by_cases hend : k + 3 + 3 = s.size
  · have hr : Hid (refTail s.data.toList n 3 (k + 3 + 3) = some (packN n 3 0)) := by
      show _ = _; unfold refTail; rw [if_pos (by rw [HZ.out]; exact hend)]
    have e1 : ((k : Int) + 3 + 3 == (s.size : Int)) = true := by rw [beq_iff_eq]; omega
    clear hend
    go_enter Tryd.func26, Tryd.ntmps26
    go_wp2_with fail
    refine (D0.out _ rfl _).mono ?_
    rintro e w1 ⟨rfl, rfl⟩
    unfold digEnd
    go_wp2_with fail
    refine (T1.out _ (by omega) _).mono ?_
    rintro e w1 ⟨rfl, rfl⟩
    go_wp2_with fail
    refine (T2.out _ (by omega) _).mono ?_
    rintro e w1 ⟨rfl, rfl⟩
    go_wp2_with fail
    refine (refpack_any _ _ 0 (hmy.out 0 (by omega)) (by omega) _).mono ?_
    rintro e w1 ⟨rfl, rfl⟩
    go_wp2
    go_ret2
    refine ⟨?_, rfl⟩
    rw [hr.out]
    exact rEnd_some _ _ (by unfold packN; rw [cast3]; simp)
  · have e1 : ((k : Int) + 3 + 3 == (s.size : Int)) = false := by rw [beq_eq_false_iff_ne]; omega
    have hlt : k + 3 + 3 < s.size := by omega
    have hget : s.data.toList[k + 3 + 3]? = some s[k + 3 + 3] := by
      rw [List.getElem?_eq_getElem (by rw [HZ.out]; exact hlt)]; rfl
    by_cases h64 : s[k + 3 + 3].toNat = 64
    · have hu : s[k + 3 + 3] = 64 := UInt8.toNat_inj.1 h64
      have e64 : ((s[k + 3 + 3].toNat : Int) != 64) = false := by simp [h64]
      rw [hu] at hget
      have hrr : refTail s.data.toList n 3 (k + 3 + 3) = match digR (s.data.toList.drop (k + 3 + 3 + 1)) with
        | none => none
        | some (t, e) => if k + 3 + 3 + 1 + e = s.data.toList.length ∧ t ≠ 0 ∧ t < 1099511627776 then some (packN n 3 t) else none := by
        unfold refTail
        rw [if_neg (by rw [HZ.out]; exact hend), if_neg (by rw [hget]; simp)]
      clear hu hget
      cases hg : digR (s.data.toList.drop (k + 3 + 3 + 1)) with
      | none =>
        have D1 := Lib.hid (dig_is s (k + 3 + 3 + 1) (by omega) hs _ hg)
        have hr : Hid (refTail s.data.toList n 3 (k + 3 + 3) = none) := by show _ = _; rw [hrr, hg]
        have e5 : ((-1 : Int) != (s.size : Int)) = true := by rw [bne_iff_ne]; omega
        clear hrr hg hend h64
        go_enter Tryd.func26, Tryd.ntmps26
        go_wp2_with fail
        refine (D0.out _ rfl _).mono ?_
        rintro e w1 ⟨rfl, rfl⟩
        unfold digEnd
        go_wp2_with fail
        refine (T1.out _ (by omega) _).mono ?_
        rintro e w1 ⟨rfl, rfl⟩
        go_wp2_with fail
        refine (T2.out _ (by omega) _).mono ?_
        rintro e w1 ⟨rfl, rfl⟩
        go_wp2_with fail
        refine (D1.out _ (by omega) _).mono ?_
        rintro e w1 ⟨rfl, rfl⟩
        unfold digEnd
        go_wp2
        go_ret2
        exact ⟨by rw [hr.out]; rfl, rfl⟩
      | some te =>
        obtain ⟨t, e⟩ := te
        have hte := digR_some hg
        have D1 := Lib.hid (dig_is s (k + 3 + 3 + 1) (by omega) hs _ hg)
        by_cases hfin : k + 3 + 3 + 1 + e = s.data.toList.length ∧ t ≠ 0 ∧ t < 1099511627776
        · have hr : Hid (refTail s.data.toList n 3 (k + 3 + 3) = some (packN n 3 t)) := by show _ = _; rw [hrr, hg]; exact if_pos hfin
          obtain ⟨f1, f2, f3⟩ := hfin
          rw [HZ.out] at f1
          have e5 : (((k : Int) + 3 + 3 + 1 + (e : Int)) != (s.size : Int)) = false := by rw [bne_eq_false_iff_eq]; omega
          have e6 : ((t : Int) == 0) = false := by rw [beq_eq_false_iff_ne]; omega
          have f3d : decide ((1099511627776 : Int) ≤ (t : Int)) = false := by rw [decide_eq_false_iff_not]; omega
          have htl : t ≤ 1099511627775 := by omega
          have HT := Lib.hid (hmy.out t htl)
          clear hrr hg hend h64 f1 f2 hte htl f3
          go_enter Tryd.func26, Tryd.ntmps26
          go_wp2_with fail
          refine (D0.out _ rfl _).mono ?_
          rintro e w1 ⟨rfl, rfl⟩
          unfold digEnd
          go_wp2_with fail
          refine (T1.out _ (by omega) _).mono ?_
          rintro e w1 ⟨rfl, rfl⟩
          go_wp2_with fail
          refine (T2.out _ (by omega) _).mono ?_
          rintro e w1 ⟨rfl, rfl⟩
          go_wp2_with fail
          refine (D1.out _ (by omega) _).mono ?_
          rintro e w1 ⟨rfl, rfl⟩
          unfold digEnd
          go_wp2_with fail
          refine (refpack_any _ _ _ HT.out (Int.natCast_nonneg t) _).mono ?_
          rintro e w1 ⟨rfl, rfl⟩
          go_wp2
          go_ret2
          refine ⟨?_, rfl⟩
          rw [hr.out]
          exact rEnd_some _ _ (by unfold packN; rw [cast3]; simp)
        · have hr : Hid (refTail s.data.toList n 3 (k + 3 + 3) = none) := by show _ = _; rw [hrr, hg]; exact if_neg hfin
          rw [HZ.out] at hfin
          have hcs : (((k : Int) + 3 + 3 + 1 + (e : Int)) != (s.size : Int)) = true ∨ ((((k : Int) + 3 + 3 + 1 + (e : Int)) != (s.size : Int)) = false ∧ ((t : Int) == 0) = true) ∨ ((((k : Int) + 3 + 3 + 1 + (e : Int)) != (s.size : Int)) = false ∧ ((t : Int) == 0) = false ∧ 1099511627776 ≤ (t : Int)) := by
            rw [bne_iff_ne, bne_eq_false_iff_eq, beq_iff_eq, beq_eq_false_iff_ne]; omega
          clear hrr hg hend h64 hfin hte
          rcases hcs with f1 | ⟨f1, f2⟩ | ⟨f1, f2, f3⟩
          all_goals
            go_enter Tryd.func26, Tryd.ntmps26
            go_wp2_with fail
            refine (D0.out _ rfl _).mono ?_
            rintro e w1 ⟨rfl, rfl⟩
            unfold digEnd
            go_wp2_with fail
            refine (T1.out _ (by omega) _).mono ?_
            rintro e w1 ⟨rfl, rfl⟩
            go_wp2_with fail
            refine (T2.out _ (by omega) _).mono ?_
            rintro e w1 ⟨rfl, rfl⟩
            go_wp2_with fail
            refine (D1.out _ (by omega) _).mono ?_
            rintro e w1 ⟨rfl, rfl⟩
            unfold digEnd
            go_wp2
            go_ret2
            exact ⟨by rw [hr.out]; rfl, rfl⟩
    · have e64 : ((s[k + 3 + 3].toNat : Int) != 64) = true := by rw [bne_iff_ne]; omega
      have hr : Hid (refTail s.data.toList n 3 (k + 3 + 3) = none) := by
        show _ = _
        unfold refTail
        rw [if_neg (by rw [HZ.out]; exact hend), if_pos]
        rw [hget]
        intro e
        apply h64
        rw [Option.some.inj e]; rfl
      clear hend h64 hget
      go_enter Tryd.func26, Tryd.ntmps26
      go_wp2_with fail
      refine (D0.out _ rfl _).mono ?_
      rintro e w1 ⟨rfl, rfl⟩
      unfold digEnd
      go_wp2_with fail
      refine (T1.out _ (by omega) _).mono ?_
      rintro e w1 ⟨rfl, rfl⟩
      go_wp2_with fail
      refine (T2.out _ (by omega) _).mono ?_
      rintro e w1 ⟨rfl, rfl⟩
      go_wp2
      go_ret2
      exact ⟨by rw [hr.out]; rfl, rfl⟩

set_option maxHeartbeats 1000000 in
set_option maxRecDepth 100000 in
theorem refread_1 (s : ByteArray) (hs : s.size ≤ 100) (n k : Nat) (hd : digR s.data.toList = some (n, k)) (hn : n < 4194304) (t1 : tk s.data.toList k [226, 128, 178] = true) (t2 : tk s.data.toList (k + 3) [226, 128, 179] = false) (w : World) :
    Calls Tryd.prog 26 #[.string s] w fun e w' => e = rEnd (refTail s.data.toList n 1 (k + 3)) ∧ w = w' := by
  have hz : s.data.toList.length = s.size := by rfl
  have hk : k ≤ s.size := by have := digR_some hd; omega
  have hk1 : k + 3 ≤ s.size := by have := tk_le t1; omega
  have hk2 : k + 3 ≤ s.size := by exact hk1
  have hd0 : digR (s.data.toList.drop 0) = some (n, k) := by simpa using hd
  have D0 := Lib.hid (dig_is s 0 (by omega) hs _ hd0)
  have T1 := Lib.hid (tick_is s k 226 128 178 hs hk _ t1)
  have T2 := Lib.hid (tick_is s (k + 3) 226 128 179 hs hk1 _ t2)
  have hmy := Lib.hid (show ∀ t : Nat, t ≤ 1099511627775 → mayB n 1 t = true from fun t ht => by unfold mayB; simp; omega)
  have HZ := Lib.hid hz
  clear hd hd0 t1 t2 hz
  by_cases hend : k + 3 = s.size
  · have hr : Hid (refTail s.data.toList n 1 (k + 3) = some (packN n 1 0)) := by
      show _ = _; unfold refTail; rw [if_pos (by rw [HZ.out]; exact hend)]
    have e1 : ((k : Int) + 3 == (s.size : Int)) = true := by rw [beq_iff_eq]; omega
    clear hend
    go_enter Tryd.func26, Tryd.ntmps26
    go_wp2_with fail
    refine (D0.out _ rfl _).mono ?_
    rintro e w1 ⟨rfl, rfl⟩
    unfold digEnd
    go_wp2_with fail
    refine (T1.out _ (by omega) _).mono ?_
    rintro e w1 ⟨rfl, rfl⟩
    go_wp2_with fail
    refine (T2.out _ (by omega) _).mono ?_
    rintro e w1 ⟨rfl, rfl⟩
    go_wp2_with fail
    refine (refpack_any _ _ 0 (hmy.out 0 (by omega)) (by omega) _).mono ?_
    rintro e w1 ⟨rfl, rfl⟩
    go_wp2
    go_ret2
    refine ⟨?_, rfl⟩
    rw [hr.out]
    exact rEnd_some _ _ (by unfold packN; rw [cast3]; simp)
  · have e1 : ((k : Int) + 3 == (s.size : Int)) = false := by rw [beq_eq_false_iff_ne]; omega
    have hlt : k + 3 < s.size := by omega
    have hget : s.data.toList[k + 3]? = some s[k + 3] := by
      rw [List.getElem?_eq_getElem (by rw [HZ.out]; exact hlt)]; rfl
    by_cases h64 : s[k + 3].toNat = 64
    · have hu : s[k + 3] = 64 := UInt8.toNat_inj.1 h64
      have e64 : ((s[k + 3].toNat : Int) != 64) = false := by simp [h64]
      rw [hu] at hget
      have hrr : refTail s.data.toList n 1 (k + 3) = match digR (s.data.toList.drop (k + 3 + 1)) with
        | none => none
        | some (t, e) => if k + 3 + 1 + e = s.data.toList.length ∧ t ≠ 0 ∧ t < 1099511627776 then some (packN n 1 t) else none := by
        unfold refTail
        rw [if_neg (by rw [HZ.out]; exact hend), if_neg (by rw [hget]; simp)]
      clear hu hget
      cases hg : digR (s.data.toList.drop (k + 3 + 1)) with
      | none =>
        have D1 := Lib.hid (dig_is s (k + 3 + 1) (by omega) hs _ hg)
        have hr : Hid (refTail s.data.toList n 1 (k + 3) = none) := by show _ = _; rw [hrr, hg]
        have e5 : ((-1 : Int) != (s.size : Int)) = true := by rw [bne_iff_ne]; omega
        clear hrr hg hend h64
        go_enter Tryd.func26, Tryd.ntmps26
        go_wp2_with fail
        refine (D0.out _ rfl _).mono ?_
        rintro e w1 ⟨rfl, rfl⟩
        unfold digEnd
        go_wp2_with fail
        refine (T1.out _ (by omega) _).mono ?_
        rintro e w1 ⟨rfl, rfl⟩
        go_wp2_with fail
        refine (T2.out _ (by omega) _).mono ?_
        rintro e w1 ⟨rfl, rfl⟩
        go_wp2_with fail
        refine (D1.out _ (by omega) _).mono ?_
        rintro e w1 ⟨rfl, rfl⟩
        unfold digEnd
        go_wp2
        go_ret2
        exact ⟨by rw [hr.out]; rfl, rfl⟩
      | some te =>
        obtain ⟨t, e⟩ := te
        have hte := digR_some hg
        have D1 := Lib.hid (dig_is s (k + 3 + 1) (by omega) hs _ hg)
        by_cases hfin : k + 3 + 1 + e = s.data.toList.length ∧ t ≠ 0 ∧ t < 1099511627776
        · have hr : Hid (refTail s.data.toList n 1 (k + 3) = some (packN n 1 t)) := by show _ = _; rw [hrr, hg]; exact if_pos hfin
          obtain ⟨f1, f2, f3⟩ := hfin
          rw [HZ.out] at f1
          have e5 : (((k : Int) + 3 + 1 + (e : Int)) != (s.size : Int)) = false := by rw [bne_eq_false_iff_eq]; omega
          have e6 : ((t : Int) == 0) = false := by rw [beq_eq_false_iff_ne]; omega
          have f3d : decide ((1099511627776 : Int) ≤ (t : Int)) = false := by rw [decide_eq_false_iff_not]; omega
          have htl : t ≤ 1099511627775 := by omega
          have HT := Lib.hid (hmy.out t htl)
          clear hrr hg hend h64 f1 f2 hte htl f3
          go_enter Tryd.func26, Tryd.ntmps26
          go_wp2_with fail
          refine (D0.out _ rfl _).mono ?_
          rintro e w1 ⟨rfl, rfl⟩
          unfold digEnd
          go_wp2_with fail
          refine (T1.out _ (by omega) _).mono ?_
          rintro e w1 ⟨rfl, rfl⟩
          go_wp2_with fail
          refine (T2.out _ (by omega) _).mono ?_
          rintro e w1 ⟨rfl, rfl⟩
          go_wp2_with fail
          refine (D1.out _ (by omega) _).mono ?_
          rintro e w1 ⟨rfl, rfl⟩
          unfold digEnd
          go_wp2_with fail
          refine (refpack_any _ _ _ HT.out (Int.natCast_nonneg t) _).mono ?_
          rintro e w1 ⟨rfl, rfl⟩
          go_wp2
          go_ret2
          refine ⟨?_, rfl⟩
          rw [hr.out]
          exact rEnd_some _ _ (by unfold packN; rw [cast3]; simp)
        · have hr : Hid (refTail s.data.toList n 1 (k + 3) = none) := by show _ = _; rw [hrr, hg]; exact if_neg hfin
          rw [HZ.out] at hfin
          have hcs : (((k : Int) + 3 + 1 + (e : Int)) != (s.size : Int)) = true ∨ ((((k : Int) + 3 + 1 + (e : Int)) != (s.size : Int)) = false ∧ ((t : Int) == 0) = true) ∨ ((((k : Int) + 3 + 1 + (e : Int)) != (s.size : Int)) = false ∧ ((t : Int) == 0) = false ∧ 1099511627776 ≤ (t : Int)) := by
            rw [bne_iff_ne, bne_eq_false_iff_eq, beq_iff_eq, beq_eq_false_iff_ne]; omega
          clear hrr hg hend h64 hfin hte
          rcases hcs with f1 | ⟨f1, f2⟩ | ⟨f1, f2, f3⟩
          all_goals
            go_enter Tryd.func26, Tryd.ntmps26
            go_wp2_with fail
            refine (D0.out _ rfl _).mono ?_
            rintro e w1 ⟨rfl, rfl⟩
            unfold digEnd
            go_wp2_with fail
            refine (T1.out _ (by omega) _).mono ?_
            rintro e w1 ⟨rfl, rfl⟩
            go_wp2_with fail
            refine (T2.out _ (by omega) _).mono ?_
            rintro e w1 ⟨rfl, rfl⟩
            go_wp2_with fail
            refine (D1.out _ (by omega) _).mono ?_
            rintro e w1 ⟨rfl, rfl⟩
            unfold digEnd
            go_wp2
            go_ret2
            exact ⟨by rw [hr.out]; rfl, rfl⟩
    · have e64 : ((s[k + 3].toNat : Int) != 64) = true := by rw [bne_iff_ne]; omega
      have hr : Hid (refTail s.data.toList n 1 (k + 3) = none) := by
        show _ = _
        unfold refTail
        rw [if_neg (by rw [HZ.out]; exact hend), if_pos]
        rw [hget]
        intro e
        apply h64
        rw [Option.some.inj e]; rfl
      clear hend h64 hget
      go_enter Tryd.func26, Tryd.ntmps26
      go_wp2_with fail
      refine (D0.out _ rfl _).mono ?_
      rintro e w1 ⟨rfl, rfl⟩
      unfold digEnd
      go_wp2_with fail
      refine (T1.out _ (by omega) _).mono ?_
      rintro e w1 ⟨rfl, rfl⟩
      go_wp2_with fail
      refine (T2.out _ (by omega) _).mono ?_
      rintro e w1 ⟨rfl, rfl⟩
      go_wp2
      go_ret2
      exact ⟨by rw [hr.out]; rfl, rfl⟩

set_option maxHeartbeats 1000000 in
set_option maxRecDepth 100000 in
theorem refread_2 (s : ByteArray) (hs : s.size ≤ 100) (n k : Nat) (hd : digR s.data.toList = some (n, k)) (hn : n < 4194304) (t1 : tk s.data.toList k [226, 128, 178] = false) (t2 : tk s.data.toList (k) [226, 128, 179] = true) (w : World) :
    Calls Tryd.prog 26 #[.string s] w fun e w' => e = rEnd (refTail s.data.toList n 2 (k + 3)) ∧ w = w' := by
  have hz : s.data.toList.length = s.size := by rfl
  have hk : k ≤ s.size := by have := digR_some hd; omega
  have hk1 : k ≤ s.size := by exact hk
  have hk2 : k + 3 ≤ s.size := by have := tk_le t2; omega
  have hd0 : digR (s.data.toList.drop 0) = some (n, k) := by simpa using hd
  have D0 := Lib.hid (dig_is s 0 (by omega) hs _ hd0)
  have T1 := Lib.hid (tick_is s k 226 128 178 hs hk _ t1)
  have T2 := Lib.hid (tick_is s (k) 226 128 179 hs hk1 _ t2)
  have hmy := Lib.hid (show ∀ t : Nat, t ≤ 1099511627775 → mayB n 2 t = true from fun t ht => by unfold mayB; simp; omega)
  have HZ := Lib.hid hz
  clear hd hd0 t1 t2 hz
  by_cases hend : k + 3 = s.size
  · have hr : Hid (refTail s.data.toList n 2 (k + 3) = some (packN n 2 0)) := by
      show _ = _; unfold refTail; rw [if_pos (by rw [HZ.out]; exact hend)]
    have e1 : ((k : Int) + 3 == (s.size : Int)) = true := by rw [beq_iff_eq]; omega
    clear hend
    go_enter Tryd.func26, Tryd.ntmps26
    go_wp2_with fail
    refine (D0.out _ rfl _).mono ?_
    rintro e w1 ⟨rfl, rfl⟩
    unfold digEnd
    go_wp2_with fail
    refine (T1.out _ (by omega) _).mono ?_
    rintro e w1 ⟨rfl, rfl⟩
    go_wp2_with fail
    refine (T2.out _ (by omega) _).mono ?_
    rintro e w1 ⟨rfl, rfl⟩
    go_wp2_with fail
    refine (refpack_any _ _ 0 (hmy.out 0 (by omega)) (by omega) _).mono ?_
    rintro e w1 ⟨rfl, rfl⟩
    go_wp2
    go_ret2
    refine ⟨?_, rfl⟩
    rw [hr.out]
    exact rEnd_some _ _ (by unfold packN; rw [cast3]; simp)
  · have e1 : ((k : Int) + 3 == (s.size : Int)) = false := by rw [beq_eq_false_iff_ne]; omega
    have hlt : k + 3 < s.size := by omega
    have hget : s.data.toList[k + 3]? = some s[k + 3] := by
      rw [List.getElem?_eq_getElem (by rw [HZ.out]; exact hlt)]; rfl
    by_cases h64 : s[k + 3].toNat = 64
    · have hu : s[k + 3] = 64 := UInt8.toNat_inj.1 h64
      have e64 : ((s[k + 3].toNat : Int) != 64) = false := by simp [h64]
      rw [hu] at hget
      have hrr : refTail s.data.toList n 2 (k + 3) = match digR (s.data.toList.drop (k + 3 + 1)) with
        | none => none
        | some (t, e) => if k + 3 + 1 + e = s.data.toList.length ∧ t ≠ 0 ∧ t < 1099511627776 then some (packN n 2 t) else none := by
        unfold refTail
        rw [if_neg (by rw [HZ.out]; exact hend), if_neg (by rw [hget]; simp)]
      clear hu hget
      cases hg : digR (s.data.toList.drop (k + 3 + 1)) with
      | none =>
        have D1 := Lib.hid (dig_is s (k + 3 + 1) (by omega) hs _ hg)
        have hr : Hid (refTail s.data.toList n 2 (k + 3) = none) := by show _ = _; rw [hrr, hg]
        have e5 : ((-1 : Int) != (s.size : Int)) = true := by rw [bne_iff_ne]; omega
        clear hrr hg hend h64
        go_enter Tryd.func26, Tryd.ntmps26
        go_wp2_with fail
        refine (D0.out _ rfl _).mono ?_
        rintro e w1 ⟨rfl, rfl⟩
        unfold digEnd
        go_wp2_with fail
        refine (T1.out _ (by omega) _).mono ?_
        rintro e w1 ⟨rfl, rfl⟩
        go_wp2_with fail
        refine (T2.out _ (by omega) _).mono ?_
        rintro e w1 ⟨rfl, rfl⟩
        go_wp2_with fail
        refine (D1.out _ (by omega) _).mono ?_
        rintro e w1 ⟨rfl, rfl⟩
        unfold digEnd
        go_wp2
        go_ret2
        exact ⟨by rw [hr.out]; rfl, rfl⟩
      | some te =>
        obtain ⟨t, e⟩ := te
        have hte := digR_some hg
        have D1 := Lib.hid (dig_is s (k + 3 + 1) (by omega) hs _ hg)
        by_cases hfin : k + 3 + 1 + e = s.data.toList.length ∧ t ≠ 0 ∧ t < 1099511627776
        · have hr : Hid (refTail s.data.toList n 2 (k + 3) = some (packN n 2 t)) := by show _ = _; rw [hrr, hg]; exact if_pos hfin
          obtain ⟨f1, f2, f3⟩ := hfin
          rw [HZ.out] at f1
          have e5 : (((k : Int) + 3 + 1 + (e : Int)) != (s.size : Int)) = false := by rw [bne_eq_false_iff_eq]; omega
          have e6 : ((t : Int) == 0) = false := by rw [beq_eq_false_iff_ne]; omega
          have f3d : decide ((1099511627776 : Int) ≤ (t : Int)) = false := by rw [decide_eq_false_iff_not]; omega
          have htl : t ≤ 1099511627775 := by omega
          have HT := Lib.hid (hmy.out t htl)
          clear hrr hg hend h64 f1 f2 hte htl f3
          go_enter Tryd.func26, Tryd.ntmps26
          go_wp2_with fail
          refine (D0.out _ rfl _).mono ?_
          rintro e w1 ⟨rfl, rfl⟩
          unfold digEnd
          go_wp2_with fail
          refine (T1.out _ (by omega) _).mono ?_
          rintro e w1 ⟨rfl, rfl⟩
          go_wp2_with fail
          refine (T2.out _ (by omega) _).mono ?_
          rintro e w1 ⟨rfl, rfl⟩
          go_wp2_with fail
          refine (D1.out _ (by omega) _).mono ?_
          rintro e w1 ⟨rfl, rfl⟩
          unfold digEnd
          go_wp2_with fail
          refine (refpack_any _ _ _ HT.out (Int.natCast_nonneg t) _).mono ?_
          rintro e w1 ⟨rfl, rfl⟩
          go_wp2
          go_ret2
          refine ⟨?_, rfl⟩
          rw [hr.out]
          exact rEnd_some _ _ (by unfold packN; rw [cast3]; simp)
        · have hr : Hid (refTail s.data.toList n 2 (k + 3) = none) := by show _ = _; rw [hrr, hg]; exact if_neg hfin
          rw [HZ.out] at hfin
          have hcs : (((k : Int) + 3 + 1 + (e : Int)) != (s.size : Int)) = true ∨ ((((k : Int) + 3 + 1 + (e : Int)) != (s.size : Int)) = false ∧ ((t : Int) == 0) = true) ∨ ((((k : Int) + 3 + 1 + (e : Int)) != (s.size : Int)) = false ∧ ((t : Int) == 0) = false ∧ 1099511627776 ≤ (t : Int)) := by
            rw [bne_iff_ne, bne_eq_false_iff_eq, beq_iff_eq, beq_eq_false_iff_ne]; omega
          clear hrr hg hend h64 hfin hte
          rcases hcs with f1 | ⟨f1, f2⟩ | ⟨f1, f2, f3⟩
          all_goals
            go_enter Tryd.func26, Tryd.ntmps26
            go_wp2_with fail
            refine (D0.out _ rfl _).mono ?_
            rintro e w1 ⟨rfl, rfl⟩
            unfold digEnd
            go_wp2_with fail
            refine (T1.out _ (by omega) _).mono ?_
            rintro e w1 ⟨rfl, rfl⟩
            go_wp2_with fail
            refine (T2.out _ (by omega) _).mono ?_
            rintro e w1 ⟨rfl, rfl⟩
            go_wp2_with fail
            refine (D1.out _ (by omega) _).mono ?_
            rintro e w1 ⟨rfl, rfl⟩
            unfold digEnd
            go_wp2
            go_ret2
            exact ⟨by rw [hr.out]; rfl, rfl⟩
    · have e64 : ((s[k + 3].toNat : Int) != 64) = true := by rw [bne_iff_ne]; omega
      have hr : Hid (refTail s.data.toList n 2 (k + 3) = none) := by
        show _ = _
        unfold refTail
        rw [if_neg (by rw [HZ.out]; exact hend), if_pos]
        rw [hget]
        intro e
        apply h64
        rw [Option.some.inj e]; rfl
      clear hend h64 hget
      go_enter Tryd.func26, Tryd.ntmps26
      go_wp2_with fail
      refine (D0.out _ rfl _).mono ?_
      rintro e w1 ⟨rfl, rfl⟩
      unfold digEnd
      go_wp2_with fail
      refine (T1.out _ (by omega) _).mono ?_
      rintro e w1 ⟨rfl, rfl⟩
      go_wp2_with fail
      refine (T2.out _ (by omega) _).mono ?_
      rintro e w1 ⟨rfl, rfl⟩
      go_wp2
      go_ret2
      exact ⟨by rw [hr.out]; rfl, rfl⟩

set_option maxHeartbeats 1000000 in
set_option maxRecDepth 100000 in
theorem refread_0 (s : ByteArray) (hs : s.size ≤ 100) (n k : Nat) (hd : digR s.data.toList = some (n, k)) (hn : n < 4194304) (t1 : tk s.data.toList k [226, 128, 178] = false) (t2 : tk s.data.toList (k) [226, 128, 179] = false) (w : World) :
    Calls Tryd.prog 26 #[.string s] w fun e w' => e = rEnd (refTail s.data.toList n 0 (k)) ∧ w = w' := by
  have hz : s.data.toList.length = s.size := by rfl
  have hk : k ≤ s.size := by have := digR_some hd; omega
  have hk1 : k ≤ s.size := by exact hk
  have hk2 : k ≤ s.size := by exact hk1
  have hd0 : digR (s.data.toList.drop 0) = some (n, k) := by simpa using hd
  have D0 := Lib.hid (dig_is s 0 (by omega) hs _ hd0)
  have T1 := Lib.hid (tick_is s k 226 128 178 hs hk _ t1)
  have T2 := Lib.hid (tick_is s (k) 226 128 179 hs hk1 _ t2)
  have hmy := Lib.hid (show ∀ t : Nat, t ≤ 1099511627775 → mayB n 0 t = true from fun t ht => by unfold mayB; simp; omega)
  have HZ := Lib.hid hz
  clear hd hd0 t1 t2 hz
  by_cases hend : k = s.size
  · have hr : Hid (refTail s.data.toList n 0 (k) = some (packN n 0 0)) := by
      show _ = _; unfold refTail; rw [if_pos (by rw [HZ.out]; exact hend)]
    have e1 : ((k : Int) == (s.size : Int)) = true := by rw [beq_iff_eq]; omega
    clear hend
    go_enter Tryd.func26, Tryd.ntmps26
    go_wp2_with fail
    refine (D0.out _ rfl _).mono ?_
    rintro e w1 ⟨rfl, rfl⟩
    unfold digEnd
    go_wp2_with fail
    refine (T1.out _ (by omega) _).mono ?_
    rintro e w1 ⟨rfl, rfl⟩
    go_wp2_with fail
    refine (T2.out _ (by omega) _).mono ?_
    rintro e w1 ⟨rfl, rfl⟩
    go_wp2_with fail
    refine (refpack_any _ _ 0 (hmy.out 0 (by omega)) (by omega) _).mono ?_
    rintro e w1 ⟨rfl, rfl⟩
    go_wp2
    go_ret2
    refine ⟨?_, rfl⟩
    rw [hr.out]
    exact rEnd_some _ _ (by unfold packN; rw [cast3]; simp)
  · have e1 : ((k : Int) == (s.size : Int)) = false := by rw [beq_eq_false_iff_ne]; omega
    have hlt : k < s.size := by omega
    have hget : s.data.toList[k]? = some s[k] := by
      rw [List.getElem?_eq_getElem (by rw [HZ.out]; exact hlt)]; rfl
    by_cases h64 : s[k].toNat = 64
    · have hu : s[k] = 64 := UInt8.toNat_inj.1 h64
      have e64 : ((s[k].toNat : Int) != 64) = false := by simp [h64]
      rw [hu] at hget
      have hrr : refTail s.data.toList n 0 (k) = match digR (s.data.toList.drop (k + 1)) with
        | none => none
        | some (t, e) => if k + 1 + e = s.data.toList.length ∧ t ≠ 0 ∧ t < 1099511627776 then some (packN n 0 t) else none := by
        unfold refTail
        rw [if_neg (by rw [HZ.out]; exact hend), if_neg (by rw [hget]; simp)]
      clear hu hget
      cases hg : digR (s.data.toList.drop (k + 1)) with
      | none =>
        have D1 := Lib.hid (dig_is s (k + 1) (by omega) hs _ hg)
        have hr : Hid (refTail s.data.toList n 0 (k) = none) := by show _ = _; rw [hrr, hg]
        have e5 : ((-1 : Int) != (s.size : Int)) = true := by rw [bne_iff_ne]; omega
        clear hrr hg hend h64
        go_enter Tryd.func26, Tryd.ntmps26
        go_wp2_with fail
        refine (D0.out _ rfl _).mono ?_
        rintro e w1 ⟨rfl, rfl⟩
        unfold digEnd
        go_wp2_with fail
        refine (T1.out _ (by omega) _).mono ?_
        rintro e w1 ⟨rfl, rfl⟩
        go_wp2_with fail
        refine (T2.out _ (by omega) _).mono ?_
        rintro e w1 ⟨rfl, rfl⟩
        go_wp2_with fail
        refine (D1.out _ (by omega) _).mono ?_
        rintro e w1 ⟨rfl, rfl⟩
        unfold digEnd
        go_wp2
        go_ret2
        exact ⟨by rw [hr.out]; rfl, rfl⟩
      | some te =>
        obtain ⟨t, e⟩ := te
        have hte := digR_some hg
        have D1 := Lib.hid (dig_is s (k + 1) (by omega) hs _ hg)
        by_cases hfin : k + 1 + e = s.data.toList.length ∧ t ≠ 0 ∧ t < 1099511627776
        · have hr : Hid (refTail s.data.toList n 0 (k) = some (packN n 0 t)) := by show _ = _; rw [hrr, hg]; exact if_pos hfin
          obtain ⟨f1, f2, f3⟩ := hfin
          rw [HZ.out] at f1
          have e5 : (((k : Int) + 1 + (e : Int)) != (s.size : Int)) = false := by rw [bne_eq_false_iff_eq]; omega
          have e6 : ((t : Int) == 0) = false := by rw [beq_eq_false_iff_ne]; omega
          have f3d : decide ((1099511627776 : Int) ≤ (t : Int)) = false := by rw [decide_eq_false_iff_not]; omega
          have htl : t ≤ 1099511627775 := by omega
          have HT := Lib.hid (hmy.out t htl)
          clear hrr hg hend h64 f1 f2 hte htl f3
          go_enter Tryd.func26, Tryd.ntmps26
          go_wp2_with fail
          refine (D0.out _ rfl _).mono ?_
          rintro e w1 ⟨rfl, rfl⟩
          unfold digEnd
          go_wp2_with fail
          refine (T1.out _ (by omega) _).mono ?_
          rintro e w1 ⟨rfl, rfl⟩
          go_wp2_with fail
          refine (T2.out _ (by omega) _).mono ?_
          rintro e w1 ⟨rfl, rfl⟩
          go_wp2_with fail
          refine (D1.out _ (by omega) _).mono ?_
          rintro e w1 ⟨rfl, rfl⟩
          unfold digEnd
          go_wp2_with fail
          refine (refpack_any _ _ _ HT.out (Int.natCast_nonneg t) _).mono ?_
          rintro e w1 ⟨rfl, rfl⟩
          go_wp2
          go_ret2
          refine ⟨?_, rfl⟩
          rw [hr.out]
          exact rEnd_some _ _ (by unfold packN; rw [cast3]; simp)
        · have hr : Hid (refTail s.data.toList n 0 (k) = none) := by show _ = _; rw [hrr, hg]; exact if_neg hfin
          rw [HZ.out] at hfin
          have hcs : (((k : Int) + 1 + (e : Int)) != (s.size : Int)) = true ∨ ((((k : Int) + 1 + (e : Int)) != (s.size : Int)) = false ∧ ((t : Int) == 0) = true) ∨ ((((k : Int) + 1 + (e : Int)) != (s.size : Int)) = false ∧ ((t : Int) == 0) = false ∧ 1099511627776 ≤ (t : Int)) := by
            rw [bne_iff_ne, bne_eq_false_iff_eq, beq_iff_eq, beq_eq_false_iff_ne]; omega
          clear hrr hg hend h64 hfin hte
          rcases hcs with f1 | ⟨f1, f2⟩ | ⟨f1, f2, f3⟩
          all_goals
            go_enter Tryd.func26, Tryd.ntmps26
            go_wp2_with fail
            refine (D0.out _ rfl _).mono ?_
            rintro e w1 ⟨rfl, rfl⟩
            unfold digEnd
            go_wp2_with fail
            refine (T1.out _ (by omega) _).mono ?_
            rintro e w1 ⟨rfl, rfl⟩
            go_wp2_with fail
            refine (T2.out _ (by omega) _).mono ?_
            rintro e w1 ⟨rfl, rfl⟩
            go_wp2_with fail
            refine (D1.out _ (by omega) _).mono ?_
            rintro e w1 ⟨rfl, rfl⟩
            unfold digEnd
            go_wp2
            go_ret2
            exact ⟨by rw [hr.out]; rfl, rfl⟩
    · have e64 : ((s[k].toNat : Int) != 64) = true := by rw [bne_iff_ne]; omega
      have hr : Hid (refTail s.data.toList n 0 (k) = none) := by
        show _ = _
        unfold refTail
        rw [if_neg (by rw [HZ.out]; exact hend), if_pos]
        rw [hget]
        intro e
        apply h64
        rw [Option.some.inj e]; rfl
      clear hend h64 hget
      go_enter Tryd.func26, Tryd.ntmps26
      go_wp2_with fail
      refine (D0.out _ rfl _).mono ?_
      rintro e w1 ⟨rfl, rfl⟩
      unfold digEnd
      go_wp2_with fail
      refine (T1.out _ (by omega) _).mono ?_
      rintro e w1 ⟨rfl, rfl⟩
      go_wp2_with fail
      refine (T2.out _ (by omega) _).mono ?_
      rintro e w1 ⟨rfl, rfl⟩
      go_wp2
      go_ret2
      exact ⟨by rw [hr.out]; rfl, rfl⟩

end Go.Proofs.YtglllofmmdjljaaDoor
