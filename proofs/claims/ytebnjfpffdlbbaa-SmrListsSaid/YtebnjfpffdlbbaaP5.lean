/- Retired and Events behind k Puts; what lies in memory ahead of the first Put. -/
import Derived.Test.YtebnjfpffdlbbaaP4
namespace Go.Proofs.Ytebnjfpffdlbbaa
open Go.RowKit
set_option linter.unusedVariables false
set_option linter.unusedSimpArgs false

theorem retired_at {B n c g L k lc : Nat} {la : Option Addr} (t : Nat) (ht : t < n) (hn : n ≤ 100) (w : World) (h : w.cell? ⟨B, 12, none⟩ = some (.slice (some ⟨g, 0, none⟩) n c)) (hl : w.cell? ⟨g, t, none⟩ = some (.pointer (some ⟨L, 0, none⟩))) (h0 : w.cell? ⟨L, 0, none⟩ = some (.slice la k lc)) :
    Calls Try.prog 29 #[.pointer (some ⟨B, 0, none⟩), .int .i64 (t : Int)] w fun e w' => e = .returned (.int .i64 (k : Int)) ∧ w = w' := by
  have HL := Lib.hid (ledger_at t ht hn w h hl)
  clear h hl
  go_enter Try.func29, Try.ntmps29
  go_wp2_with fail
  refine HL.out.mono ?_
  rintro e w1 ⟨rfl, rfl⟩
  go_wp2
  go_returns
  exact ⟨rfl, rfl⟩
theorem retired_out {B n c : Nat} {ad : Option Addr} (t : Int) (ht : t < 0 ∨ (n : Int) ≤ t) (w : World) (h : w.cell? ⟨B, 12, none⟩ = some (.slice ad n c)) (hr : ((n : Int) == 0) = false) :
    Calls Try.prog 29 #[.pointer (some ⟨B, 0, none⟩), .int .i64 t] w fun e w' => e = .returned (.int .i64 0) ∧ w = w' := by
  have HL := Lib.hid (ledger_out t ht w h hr)
  clear h hr
  go_enter Try.func29, Try.ntmps29
  go_wp2_with fail
  refine HL.out.mono ?_
  rintro e w1 ⟨rfl, rfl⟩
  go_wp2
  go_returns
  exact ⟨rfl, rfl⟩

section
variable {W L : Nat} {id : Int} {gs : Nat → O} {base k : Nat} {sa : Option Addr} {sc : Nat} {ra : Option Addr} {rc : Nat} {xs ys : List Value} {Es : Nat → Nat} {w0 w : World}

theorem events_ps {m c' : Nat} {ad : Option Addr} (hp : Ps W L id gs base k sa sc ra rc xs ys Es w0 w) (h1 : w.cell? ⟨W, 1, none⟩ = some (.slice ad m c')) (hm : 1 ≤ m) (hk : k ≤ 100) :
    Calls Try.prog 28 #[.pointer (some ⟨W, 0, none⟩)] w fun e w' => ∃ oa oc, e = .returned (.slice oa k oc) ∧ w'.ownsRow w.heap.size 61 16 (.slice oa k oc) k xs ∧ Below w.heap.size w w' := by
  rcases Nat.eq_zero_or_pos k with hk0 | hk0
  · subst hk0
    have e3 := hp.e3
    have hx : xs = [] := by have := hp.er.1; exact List.length_eq_zero_iff.1 (by omega)
    subst hx
    obtain ⟨hs, hc⟩ := hp.z0 rfl
    rw [hs, hc] at e3
    exact (events_nil h1 hm e3).mono fun e w' ⟨he, hw⟩ => ⟨none, 0, he, by subst hw; exact World.ownsRow_nil _ _ _ _, by subst hw; exact Below.refl _ _⟩
  · obtain ⟨g, cap, hs, hgb, hgl⟩ := hp.er.form hk0
    have e3 := hp.e3
    have er := hp.er
    rw [hs] at e3 er
    exact (events_l h1 hm e3 hk0 (by omega) er).mono fun e w' ⟨h, cap, he, ho, hb⟩ => ⟨_, _, he, ho, hb⟩

/-- What was there at the start is there still, but for two blocks. -/
theorem Ps.cell0 (hp : Ps W L id gs base k sa sc ra rc xs ys Es w0 w) {b o : Nat} {v : Value} (hb : b < base) (h1 : b ≠ W) (h2 : b ≠ L) (h : w0.cell? ⟨b, o, none⟩ = some v) : w.cell? ⟨b, o, none⟩ = some v :=
  (World.cell?_of_block (w := w0) (hp.block b hb h1 h2)).trans h
theorem Ps.cell1 (hp : Ps W L id gs base k sa sc ra rc xs ys Es w0 w) {b o : Nat} (hb : b < base) (h1 : b ≠ W) (h2 : b ≠ L) : w.cell? ⟨b, o, none⟩ = w0.cell? ⟨b, o, none⟩ :=
  World.cell?_of_block (w := w0) (hp.block b hb h1 h2)

theorem Ps.bs {B n : Nat} {wo : Option Addr} {at_ : Int} {gr cr : Nat} {Ls : Nat → Nat} (hp : Ps W L id gs base k sa sc ra rc xs ys Es w0 w) (h : Bs B n wo at_ gr cr Ls w0) (hB : B < base ∧ B ≠ W ∧ B ≠ L) (hg : gr < base ∧ gr ≠ W ∧ gr ≠ L) : Bs B n wo at_ gr cr Ls w :=
  ⟨fun j hj => (hp.cell1 hB.1 hB.2.1 hB.2.2).trans (h.cs j hj), hp.cell0 hB.1 hB.2.1 hB.2.2 h.c12, fun i hi => hp.cell0 hg.1 hg.2.1 hg.2.2 (h.rows i hi), h.hT⟩
theorem Ps.thr {T : Nat} (hp : Ps W L id gs base k sa sc ra rc xs ys Es w0 w) (h : ThrAt T W id 4 w0) (hT : T < base ∧ T ≠ W ∧ T ≠ L) : ThrAt T W id 4 w :=
  fun j hj => (hp.cell1 hT.1 hT.2.1 hT.2.2).trans (h j hj)
end

/-- Ahead of the first Put: a world, its setup thread, a base, its lists. -/
structure St (n W T B gr cr L L0 gw cw : Nat) (Ls : Nat → Nat) (w : World) : Prop where
  ps : ∀ (gs : Nat → O) (Es : Nat → Nat), Ps W L n gs w.heap.size 0 none 0 none 0 [] [] Es w w
  bs : Bs B n (some ⟨W, 0, none⟩) 0 gr cr Ls w
  thr : ThrAt T W n 4 w
  c1 : w.cell? ⟨W, 1, none⟩ = some (.slice (some ⟨gw, 0, none⟩) (n + 1) cw)
  l0 : w.cell? ⟨L0, 0, none⟩ = some (.slice none 0 0)
  hL : Ls n = L
  hL0 : Ls 0 = L0
  lt : B < w.heap.size ∧ gr < w.heap.size ∧ T < w.heap.size ∧ L0 < w.heap.size
  nW : B ≠ W ∧ gr ≠ W ∧ T ≠ W ∧ L0 ≠ W
  nL : B ≠ L ∧ gr ≠ L ∧ T ≠ L ∧ L0 ≠ L

theorem start_all {n W B gr cr gw cw : Nat} {ys ys2 : List Value} {Ts Ls : Nat → Nat} {wi w1 w02 w2 : World} (hn : 1 ≤ n ∧ n ≤ 16)
    (M1 : Mk W 1 48 100 (el0 W n) (W + 1) (n + 1) (.slice (some ⟨gw, 0, none⟩) (n + 1) cw) ys Ts wi w1) (c3 : wi.cell? ⟨W, 3, none⟩ = some (.slice none 0 0))
    (M2 : Mk B 12 76 79 led (B + 1) (n + 1) (.slice (some ⟨gr, 0, none⟩) (n + 1) cr) ys2 Ls w02 w2) (hb2 : Below w1.heap.size w1 w02) (hB : w1.heap.size ≤ B) (hBs : Bs B n (some ⟨W, 0, none⟩) 0 gr cr Ls w2) :
    St n W (Ts n) B gr cr (Ls n) (Ls 0) gw cw Ls w2 := by
  have hb : Below w1.heap.size w1 w2 := M2.grown hb2 hB
  have hW1 : W < w1.heap.size := World.block_lt_of_cell? _ _ M1.c1
  obtain ⟨t1, t2, t3⟩ := M1.th n (by omega)
  rw [el0_eq] at t1
  have tl : Ts n < w1.heap.size := (Array.getElem?_eq_some_iff.1 t1).1
  have T2 : w2.heap[Ts n]? = some (.cells (thr W n 4) 100 (0, 0)) := by rw [hb.block _ tl]; exact t1
  obtain ⟨l1, l2, l3⟩ := M2.th n (by omega)
  obtain ⟨z1, z2, z3⟩ := M2.th 0 (by omega)
  have ll : Ls n < w2.heap.size := (Array.getElem?_eq_some_iff.1 l1).1
  have zl : Ls 0 < w2.heap.size := (Array.getElem?_eq_some_iff.1 z1).1
  have hmono := M2.mono 0 n (by omega) (by omega)
  have hg := M2.rg.lt gr rfl
  have l3' : gr ≠ Ls n := fun e => l3 (by rw [← e]; rfl)
  have hB2 : B < w2.heap.size := World.block_lt_of_cell? _ _ M2.c1
  refine ⟨fun gs Es => ⟨?_, World.ownsRow_nil _ _ _ _, fun i hi => by omega, row_cell l1 0, World.ownsRow_nil _ _ _ _, fun i hi => by omega, fun i hi => by omega, fun j hj => (by cases hj), ?_, ?_, fun _ _ => rfl, fun _ _ => rfl, by omega, ll, by omega, Nat.le_refl _, Nat.le_refl _, rfl, rfl, rfl, fun _ _ _ _ => rfl, fun _ => ⟨rfl, rfl⟩⟩,
    hBs, fun j hj => row_cell T2 j, keep hb M1.c1, row_cell z1 0, rfl, rfl, ⟨hB2, hg.2, by omega, zl⟩, ⟨by omega, by omega, by omega, by omega⟩, ⟨by omega, l3', by omega, by omega⟩⟩
  · exact keep hb ((M1.oth 3 (by decide)).trans c3)
  · intro o
    rw [hb.frozen (p := ⟨W, o, none⟩) hW1]
    exact M1.f o
  · intro o
    simp [World.frozen?, l1]
end Go.Proofs.Ytebnjfpffdlbbaa
