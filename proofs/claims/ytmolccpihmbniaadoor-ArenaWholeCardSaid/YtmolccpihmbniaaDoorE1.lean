/- The reference's places, one behind the other: what Lay answers. -/
import Derived.Test.YtmolccpihmbniaaDoorC1
namespace Go.Proofs.YtmolccpihmbniaaDoor
open Go.RowKit
set_option linter.unusedVariables false

/-- What the place number p is, of an arena of a slots of class 0. -/
def layF (a p : Nat) : Int × Int :=
  if p < 6 * a then (((1 + p / 6 : Nat) : Int), nameI ((p % 6 : Nat) : Int)) else (((1 + a + (p - 6 * a) / 10 : Nat) : Int), nameI (((p - 6 * a) % 10 : Nat) : Int))
/-- How many words the first k slots have. -/
def upto (a k : Nat) : Nat := if k ≤ a then 6 * k else 6 * a + 10 * (k - a)
def ownOf (a k : Nat) : Nat := if a < k then 8 else 4
def lay (a n : Nat) : List (Int × Int) := (List.range n).map (layF a)
def flatP (l : List (Int × Int)) : List Value := l.flatMap fun p => [.int .i64 p.1, .int .i64 p.2]

theorem upto_succ (a k : Nat) : upto a (k + 1) = upto a k + 2 + ownOf a (k + 1) := by
  unfold upto ownOf
  split <;> split <;> split <;> omega
theorem lay_succ (a n : Nat) : lay a (n + 1) = lay a n ++ [layF a n] := by simp [lay, List.range_succ]
theorem flatP_append (l m : List (Int × Int)) : flatP (l ++ m) = flatP l ++ flatP m := by simp [flatP]
theorem nameI_0 : nameI 0 = -1 := rfl
theorem nameI_1 : nameI 1 = -2 := rfl
theorem nameI_2 (x : Nat) : nameI ((x + 2 : Nat) : Int) = x := by unfold nameI; rw [if_neg (by omega), if_neg (by omega)]; omega
theorem layF_at (a k x : Nat) (hx : x < 2 + ownOf a (k + 1)) : layF a (upto a k + x) = (((k + 1 : Nat) : Int), nameI (x : Int)) := by
  unfold layF upto ownOf at *
  by_cases h : a < k + 1
  · rw [if_pos h] at hx
    by_cases hk : k ≤ a
    · have : k = a := by omega
      subst this
      rw [if_pos (Nat.le_refl _), if_neg (by omega)]
      rw [show 6 * k + x - 6 * k = x by omega, show x / 10 = 0 by omega, show x % 10 = x by omega]
      congr 1; omega
    · rw [if_neg hk, if_neg (by omega)]
      rw [show (6 * a + 10 * (k - a) + x - 6 * a) / 10 = k - a by omega, show (6 * a + 10 * (k - a) + x - 6 * a) % 10 = x by omega]
      congr 1; omega
  · rw [if_neg h] at hx
    rw [if_pos (show k ≤ a by omega), if_pos (by omega)]
    rw [show (6 * k + x) / 6 = k by omega, show (6 * k + x) % 6 = x by omega]
    congr 1; omega

theorem flat_two (a k : Nat) : flatP (lay a (upto a k + 2)) = flatP (lay a (upto a k)) ++ [.int .i64 ((k : Int) + 1), .int .i64 (-1), .int .i64 ((k : Int) + 1), .int .i64 (-2)] := by
  have h0 := layF_at a k 0 (by unfold ownOf; split <;> omega)
  have h1 := layF_at a k 1 (by unfold ownOf; split <;> omega)
  rw [show upto a k + 2 = upto a k + 1 + 1 from rfl, lay_succ, lay_succ, flatP_append, flatP_append, h1, show layF a (upto a k) = _ from h0]
  simp [flatP, nameI_0, nameI_1]
theorem flat_one (a k j : Nat) (hj : j < ownOf a (k + 1)) : flatP (lay a (upto a k + 2 + (j + 1))) = flatP (lay a (upto a k + 2 + j)) ++ [.int .i64 ((k : Int) + 1), .int .i64 (j : Int)] := by
  have h0 := layF_at a k (j + 2) (by omega)
  rw [show upto a k + 2 + (j + 1) = (upto a k + 2 + j) + 1 from rfl, lay_succ, flatP_append, show upto a k + 2 + j = upto a k + (j + 2) by omega, h0, nameI_2]
  simp [flatP]

theorem info37 : (Tryd.prog.info? 37).map (fun i => (i.zero, i.size, i.bytes)) = some (some (.agg #[.int .i64 0, .int .i64 0]), 2, 16) := by kernel_rfl
theorem info37p : ∃ i, Tryd.prog.info? 37 = some i ∧ i.zero = some (.agg #[.int .i64 0, .int .i64 0]) ∧ i.size = 2 ∧ i.bytes = 16 := by
  have := info37
  cases hh : Tryd.prog.info? 37 with
  | none => rw [hh] at this; cases this
  | some i => rw [hh] at this; simp at this; exact ⟨i, rfl, this.1, this.2.1, this.2.2⟩

theorem upto_small (a b k : Nat) (ha : a ≤ 40) (hb : b ≤ 40) (hk : k ≤ a + b) : upto a k ≤ 640 := by unfold upto; split <;> omega

theorem newsN (w : World) (cs : Array Value) (t : TypeId) : ∀ j u, cs.toList[j]? = some u → (w.alloc (.cells cs t)).cell? ((⟨w.heap.size, 0, none⟩ : Addr).add j) = some u :=
  World.news_of_block (t := t) (fr := (0, 0)) (heap_alloc_new w _)

/-- Behind an append: what is owned, and that old memory is as it was. -/
theorem app_after {w wr w1 : World} {v : Value} {g cap n m : Nat} {xs news ys : List Value} {o : Obj} (hown : wr.ownsRow w.heap.size 37 2 v n xs) (hb : Below w.heap.size w wr)
    (hown1 : w1.ownsRow w.heap.size 37 2 (.slice (some ⟨g, 0, none⟩) (n + m) cap) (n + m) (xs ++ news)) (hgrow : (wr.alloc o).grownBy w1 v.ownBlock) (hy : ys = xs ++ news) :
    w1.ownsRow w.heap.size 37 2 (.slice (some ⟨g, 0, none⟩) (n + m) cap) (n + m) ys ∧ Below w.heap.size w w1 := by
  subst hy
  refine ⟨hown1, Below.grown (hb.alloc hb.size o) hgrow (by have := hb.size; simp; omega) ?_⟩
  intro j hj
  exact (hown.lt _ hj).1

set_option maxHeartbeats 4000000 in
set_option maxRecDepth 100000 in
theorem lay_any (a b : Nat) (ha : a ≤ 40) (hb : b ≤ 40) (w : World) :
    Calls Tryd.prog 13 #[.int .i64 a, .int .i64 b] w fun e w' => ∃ v, e = .returned v ∧ w'.ownsRow w.heap.size 37 2 v (upto a (a + b)) (flatP (lay a (upto a (a + b)))) ∧ Below w.heap.size w w' := by
  obtain ⟨i, hi, hz, h2, h16⟩ := info37p
  go_enter Tryd.func13, Tryd.ntmps13
  go_wp2_with fail
  go_loopw [5, 6] (fun v i wr => ∃ k : Nat, k ≤ a + b ∧ i = .int .i64 ((k : Int) + 1) ∧ wr.ownsRow w.heap.size 37 2 v (upto a k) (flatP (lay a (upto a k))) ∧ Below w.heap.size w wr) (fun _ i _ => a + b + 1 - (intOf i).toNat)
  case atStart => exact ⟨0, Nat.zero_le _, rfl, World.ownsRow_nil _ _ _ _, Below.refl _ _⟩
  case round =>
    obtain ⟨k, hk, rfl, hown, hbel⟩ := hrel
    have hup := upto_small a b k ha hb hk
    have HO := Lib.hid hown
    have HB := Lib.hid hbel
    have hsz := hbel.size
    clear hown hbel
    have hown4 : ∀ (k : Nat), (a : Int) < (k : Int) → ownOf a k = 8 := fun k h => by unfold ownOf; rw [if_pos (by omega)]
    have hown8 : ∀ (k : Nat), (k : Int) ≤ (a : Int) → ownOf a k = 4 := fun k h => by unfold ownOf; rw [if_neg (by omega)]
    have H8 := Lib.hid hown4
    have H4 := Lib.hid hown8
    clear hown4 hown8
    go_wp2_with (first
      | (at_builtin; refine wpList_append_lies _ rfl _ _ 29 rfl w.heap.size 37 i (.agg #[.int .i64 0, .int .i64 0]) 2 16 Tryd.underlying29 hi hz h2 h16 rfl (by decide) u5 _ _ rfl (HO.out.alloc _) ⟨wr.heap.size, 0, none⟩ 2 2 [.int .i64 ((k : Int) + 1), .int .i64 (-1), .int .i64 ((k : Int) + 1), .int .i64 (-2)] rfl rfl (newsN wr #[.int .i64 ((k : Int) + 1), .int .i64 (-1), .int .i64 ((k : Int) + 1), .int .i64 (-2)] 37) (by intro u hu; simp at hu; rcases hu with rfl | rfl | rfl | rfl <;> rfl) (by decide) (by unfold maxLen; omega) (by omega) (by simp; omega) _ rfl ?_
         intro g cap w1 hown1 hgrow hat hlt
         have H1 := Lib.hid (app_after HO.out HB.out hown1 hgrow (flat_two a k))
         clear hown1 hgrow hat hlt))
    · try rw [show decide ((a : Int) < (k : Int) + 1) = true from by simp; omega]
      go_loopw [5, 8] (fun v i wr => ∃ j : Nat, j ≤ 8 ∧ i = .int .i64 (j : Int) ∧ wr.ownsRow w.heap.size 37 2 v (upto a k + 2 + j) (flatP (lay a (upto a k + 2 + j))) ∧ Below w.heap.size w wr) (fun _ i _ => 8 - (intOf i).toNat)
      case atStart => exact ⟨0, Nat.zero_le _, rfl, H1.out.1, H1.out.2⟩
      case round =>
        obtain ⟨j, hj, rfl, hown, hbel⟩ := hrel
        have HO2 := Lib.hid hown
        have HB2 := Lib.hid hbel
        have hsz2 := hbel.size
        clear hown hbel
        go_wp2_with (first
          | (at_builtin; refine wpList_append_lies _ rfl _ _ 29 rfl w.heap.size 37 i (.agg #[.int .i64 0, .int .i64 0]) 2 16 Tryd.underlying29 hi hz h2 h16 rfl (by decide) u5 _ _ rfl (HO2.out.alloc _) ⟨wr.heap.size, 0, none⟩ 1 1 [.int .i64 ((k : Int) + 1), .int .i64 (j : Int)] rfl rfl (newsN wr #[.int .i64 ((k : Int) + 1), .int .i64 (j : Int)] 37) (by intro u hu; simp at hu; rcases hu with rfl | rfl <;> rfl) (by decide) (by unfold maxLen; omega) (by omega) (by simp; omega) _ rfl ?_
             intro g cap w1 hown1 hgrow hat hlt
             have hjlt : j < ownOf a (k + 1) := by rw [H8.out (k + 1) (by omega)]; omega
             have H3 := Lib.hid (app_after HO2.out HB2.out hown1 hgrow (flat_one a k j hjlt))
             clear hown1 hgrow hat hlt hjlt))
        · refine ⟨?_, ?_⟩
          · first
              | exact ⟨j + 1, by omega, by simp, H3.out.1, H3.out.2⟩
              | ((repeat apply Exists.intro); refine ⟨?_, rfl⟩; exact ⟨j + 1, by omega, by simp, H3.out.1, H3.out.2⟩)
          · simp [intOf]; omega
        · have hu := upto_succ a k
          rw [H8.out (k + 1) (by omega)] at hu
          have hj8 : j = 8 := by omega
          subst hj8
          refine ⟨?_, ?_⟩
          · first
              | exact ⟨k + 1, by omega, by simp, by rw [hu]; exact HO2.out, HB2.out⟩
              | ((repeat apply Exists.intro); refine ⟨?_, rfl⟩; exact ⟨k + 1, by omega, by simp, by rw [hu]; exact HO2.out, HB2.out⟩)
          · simp [intOf]; omega
    · try rw [show decide ((a : Int) < (k : Int) + 1) = false from by simp; omega]
      go_loopw [5, 8] (fun v i wr => ∃ j : Nat, j ≤ 4 ∧ i = .int .i64 (j : Int) ∧ wr.ownsRow w.heap.size 37 2 v (upto a k + 2 + j) (flatP (lay a (upto a k + 2 + j))) ∧ Below w.heap.size w wr) (fun _ i _ => 4 - (intOf i).toNat)
      case atStart => exact ⟨0, Nat.zero_le _, rfl, H1.out.1, H1.out.2⟩
      case round =>
        obtain ⟨j, hj, rfl, hown, hbel⟩ := hrel
        have HO2 := Lib.hid hown
        have HB2 := Lib.hid hbel
        have hsz2 := hbel.size
        clear hown hbel
        go_wp2_with (first
          | (at_builtin; refine wpList_append_lies _ rfl _ _ 29 rfl w.heap.size 37 i (.agg #[.int .i64 0, .int .i64 0]) 2 16 Tryd.underlying29 hi hz h2 h16 rfl (by decide) u5 _ _ rfl (HO2.out.alloc _) ⟨wr.heap.size, 0, none⟩ 1 1 [.int .i64 ((k : Int) + 1), .int .i64 (j : Int)] rfl rfl (newsN wr #[.int .i64 ((k : Int) + 1), .int .i64 (j : Int)] 37) (by intro u hu; simp at hu; rcases hu with rfl | rfl <;> rfl) (by decide) (by unfold maxLen; omega) (by omega) (by simp; omega) _ rfl ?_
             intro g cap w1 hown1 hgrow hat hlt
             have hjlt : j < ownOf a (k + 1) := by rw [H4.out (k + 1) (by omega)]; omega
             have H3 := Lib.hid (app_after HO2.out HB2.out hown1 hgrow (flat_one a k j hjlt))
             clear hown1 hgrow hat hlt hjlt))
        · refine ⟨?_, ?_⟩
          · first
              | exact ⟨j + 1, by omega, by simp, H3.out.1, H3.out.2⟩
              | ((repeat apply Exists.intro); refine ⟨?_, rfl⟩; exact ⟨j + 1, by omega, by simp, H3.out.1, H3.out.2⟩)
          · simp [intOf]; omega
        · have hu := upto_succ a k
          rw [H4.out (k + 1) (by omega)] at hu
          have hj8 : j = 4 := by omega
          subst hj8
          refine ⟨?_, ?_⟩
          · first
              | exact ⟨k + 1, by omega, by simp, by rw [hu]; exact HO2.out, HB2.out⟩
              | ((repeat apply Exists.intro); refine ⟨?_, rfl⟩; exact ⟨k + 1, by omega, by simp, by rw [hu]; exact HO2.out, HB2.out⟩)
          · simp [intOf]; omega
    · go_returns
      have hk2 : k = a + b := by omega
      subst hk2
      exact ⟨_, rfl, HO.out, HB.out⟩

end Go.Proofs.YtmolccpihmbniaaDoor
