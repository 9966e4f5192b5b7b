/- The stage's theorem: ArenaWhole answers true in whatever world; the table must read as the program lays it. -/
import Derived.Test.YtmolccpihmbniaaDoorG2
import Derived.Laws.OwnMore
namespace Go.Proofs.YtmolccpihmbniaaDoor
open Go.RowKit
set_option linter.unusedVariables false

/-- Which places have been met. -/
structure Mt (w : World) (A : Nat) (r : Ar) (M n : Nat) (F : Nat → Bool) (wr : World) : Prop where
  on : On w A r wr
  cell : ∀ x, x < n → wr.cell? ⟨M, x, none⟩ = some (.bool (F x))
  fr : ∀ x, wr.frozen? ⟨M, x, none⟩ = false
  lt : M < wr.heap.size
  lo : w.heap.size ≤ M
  ne : A ≠ M
  z : 0 < M

theorem Mt.below {w : World} {A : Nat} {r : Ar} {M n : Nat} {F : Nat → Bool} {wr w' : World} (h : Mt w A r M n F wr) (hb : Below wr.heap.size wr w') : Mt w A r M n F w' :=
  ⟨h.on.next hb, fun x hx => keep hb (h.cell x hx), fun x => by rw [hb.frozen (by exact h.lt)]; exact h.fr x, Nat.lt_of_lt_of_le h.lt hb.size, h.lo, h.ne, h.z⟩
theorem Mt.congr {w : World} {A : Nat} {r : Ar} {M n : Nat} {F G : Nat → Bool} {wr : World} (h : Mt w A r M n F wr) (hFG : ∀ x, x < n → F x = G x) : Mt w A r M n G wr :=
  ⟨h.on, fun x hx => by rw [h.cell x hx, hFG x hx], h.fr, h.lt, h.lo, h.ne, h.z⟩
theorem Mt.set {w : World} {A : Nat} {r : Ar} {M n : Nat} {F : Nat → Bool} {wr : World} (h : Mt w A r M n F wr) (y : Nat) (hy : y < n) :
    Mt w A r M n (fun x => if x = y then true else F x) (wr.setCell ⟨M, y, none⟩ (.bool true)) := by
  have far : ∀ {B o : Nat} {v : Value}, B ≠ M → wr.cell? ⟨B, o, none⟩ = some v → (wr.setCell ⟨M, y, none⟩ (.bool true)).cell? ⟨B, o, none⟩ = some v := fun {B o v} hB hc => by
    rw [cset_other (fun e => by have h := congrArg Addr.block e; simp only at h; omega)]; exact hc
  obtain ⟨⟨⟨z0, z1⟩, ⟨c0, c1, c2, c3, c4, c5, c6⟩, hb⟩, hc, hf, hlt, hlo, hne, hz⟩ := h
  refine ⟨⟨⟨far (by omega) z0, far (by omega) z1⟩, ⟨far hne c0, far hne c1, far hne c2, far hne c3, far hne c4, far hne c5, far hne c6⟩, hb.setCell hlo _⟩, fun x hx => ?_, fun x => ?_, by simpa using hlt, hlo, hne, hz⟩
  · by_cases e : x = y
    · subst e; rw [if_pos rfl]; exact cset_same (hc x hx)
    · rw [if_neg e, cset_other (fun e2 => by have h := congrArg Addr.off e2; simp only at h; omega)]; exact hc x hx
  · rw [World.frozen?_setCell]; exact hf x

def metF (p own : Nat) (z : Int) (x : Nat) : Bool := decide (x < p ∨ (-1 ≤ z ∧ x = p + 1) ∨ (0 ≤ z ∧ x = p) ∨ (p + 2 ≤ x ∧ (x : Int) < (p : Int) + 2 + z ∧ x < p + 2 + own))

theorem plc_in (base : Int) (a b L q : Nat) (f k : Int) (hq : q < a + b) (hf : 0 ≤ f) (hk : 0 ≤ k) (h : f + k < 2 + (ownOf a (q + 1) : Int)) :
    plc (ar base a b L) ((q : Int) + 1) f k = base + ((upto a q : Nat) : Int) + f + k := by
  unfold plc
  simp only [ar]
  unfold ownOf at h
  unfold upto
  by_cases hqa : q < a
  · rw [if_neg (by omega)] at h
    have h1 : 1 ≤ (q : Int) + 1 ∧ (q : Int) + 1 < 1 + (a : Int) := by omega
    have h2 : 0 ≤ k ∧ k < 6 - f := by omega
    simp only [h1, h2, and_self, if_true]
    rw [if_pos (by omega)]
    omega
  · rw [if_pos (by omega)] at h
    have h1 : ¬ (1 ≤ (q : Int) + 1 ∧ (q : Int) + 1 < 1 + (a : Int)) := by omega
    have h2 : 0 ≤ k ∧ k < 10 - f := by omega
    have h3 : 1 + (a : Int) ≤ (q : Int) + 1 ∧ (q : Int) + 1 < 1 + (a : Int) + b := by omega
    simp only [h1, h2, h3, and_self, if_true, if_false]
    by_cases hqe : q ≤ a
    · rw [if_pos hqe]; omega
    · rw [if_neg hqe]; omega
theorem plc_far (base : Int) (a b L q : Nat) (k : Int) (hq : q < a + b) (h : (ownOf a (q + 1) : Int) ≤ k) :
    plc (ar base a b L) ((q : Int) + 1) 2 k = -1 := by
  unfold plc
  simp only [ar]
  unfold ownOf at h
  by_cases hqa : q < a
  · rw [if_neg (by omega)] at h
    have h1 : 1 ≤ (q : Int) + 1 ∧ (q : Int) + 1 < 1 + (a : Int) := by omega
    have h2 : ¬ (0 ≤ k ∧ k < 6 - 2) := by omega
    simp only [h1, h2, and_self, if_true, if_false]
  · rw [if_pos (by omega)] at h
    have h1 : ¬ (1 ≤ (q : Int) + 1 ∧ (q : Int) + 1 < 1 + (a : Int)) := by omega
    have h2 : ¬ (0 ≤ k ∧ k < 10 - 2) := by omega
    simp only [h1, h2, if_false, ite_self]

theorem own_le (a k : Nat) : ownOf a k ≤ 8 := by unfold ownOf; split <;> omega
theorem own_ge (a k : Nat) : 4 ≤ ownOf a k := by unfold ownOf; split <;> omega
theorem upto_le (a b q : Nat) (hq : q < a + b) : upto a q + 2 + ownOf a (q + 1) ≤ 6 * a + 10 * b := by
  have h := upto_succ a q
  unfold upto at *
  unfold ownOf at *
  split <;> split <;> omega

/-- What Of says of the place at x of slot q + 1. -/
theorem of_at (base : Int) (a b L q x : Nat) (hq : q < a + b) (hx : x < 2 + ownOf a (q + 1)) :
    ofI (ar base a b L) (base + ((upto a q + x : Nat) : Int)) = (q : Int) + 1 ∧ ofK (ar base a b L) (base + ((upto a q + x : Nat) : Int)) = nameI (x : Int) ∧ ofB (ar base a b L) (base + ((upto a q + x : Nat) : Int)) = true := by
  have h1 := of_in base a b L (upto a q + x) (by have := upto_le a b q hq; omega)
  have h2 := layF_at a q x (by omega)
  rw [h2] at h1
  refine ⟨by rw [h1.1]; omega, h1.2.1, h1.2.2⟩

theorem Mt.start {w w1 : World} {base : Int} {lo a b A L : Nat} (hN : New lo base a b A L w1) (hz : Sz w1) (hb : Below w.heap.size w w1) (n : Nat) (h0 : 0 < w.heap.size) :
    Mt w A (ar base a b L) w1.heap.size n (fun _ => false) (w1.alloc (.cells (madeCells #[.bool false] n) 4)) := by
  have hb1 : Below w1.heap.size w1 (w1.alloc (.cells (madeCells #[.bool false] n) 4)) := by go_grown
  have hA : A < w1.heap.size := World.block_lt_of_cell? _ _ hN.at_.c0
  refine ⟨⟨hz.below hb1, (ar_eq hN).below hb1, hb.trans (hb1.mono hb.size)⟩, fun i hi => ?_, fun i => by simp [go_sem], by simp, hb.size, by omega, by have := hb.size; omega⟩
  rw [World.cell?_alloc_new]
  have := toList_madeCells_one (.bool false) n
  rw [← Array.getElem?_toList, this, List.getElem?_replicate, if_pos hi]

theorem info4 : (Tryd.prog.info? 4).map (fun i => (i.zero, i.size, i.bytes)) = some (some (.bool false), 1, 1) := by kernel_rfl
theorem make_bools (n : Nat) (hn : n ≤ 100000) (w : World) : (Instr.makeSlice 39 (.int .i64 (n : Int)) (.int .i64 (n : Int))).run Tryd.prog w = .ok (.slice (some ⟨w.heap.size, 0, none⟩) n n) (w.alloc (.cells (madeCells #[.bool false] n) 4)) := by
  obtain ⟨i, hi, hz, h1, h8⟩ : ∃ i, Tryd.prog.info? 4 = some i ∧ i.zero = some (.bool false) ∧ i.size = 1 ∧ i.bytes = 1 := by
    have := info4
    cases hh : Tryd.prog.info? 4 with
    | none => rw [hh] at this; cases this
    | some i => rw [hh] at this; simp at this; exact ⟨i, rfl, this.1, this.2.1, this.2.2⟩
  have := run_makeSlice w 39 4 i (.bool false) Tryd.underlying39 hi hz .i64 .i64 (n : Int) (n : Int) (by omega) (Int.le_refl _) (by rw [h1]; omega) (by rw [h8]; omega) (by omega)
  rw [this, h1, Int.toNat_natCast, Nat.mul_one]
  rfl

end Go.Proofs.YtmolccpihmbniaaDoor
