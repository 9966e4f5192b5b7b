/- The law SmrLists: where nothing is put; what its second loop goes by. -/
import Derived.Test.YtebnjfpffdlbbaaP5
import Derived.LaidEqlPtr
namespace Go.Proofs.Ytebnjfpffdlbbaa
open Go.RowKit
set_option linter.unusedVariables false
set_option linter.unusedSimpArgs false

/-- The slots lie in memory. -/
def OldsIn (ad : Option Addr) (n : Nat) (gf : Nat → O) (w : World) : Prop := ∀ i, i < n → ∃ b off, ad = some ⟨b, off, none⟩ ∧ ∀ j, j < 3 → w.cell? ⟨b, off + i * 3 + j, none⟩ = (ent (gf i))[j]?
def OksIn (n : Nat) (gf : Nat → O) : Prop := ∀ i, i < n → (0 ≤ (gf i).1 ∧ (gf i).1 < 18446744073709551616) ∧ (0 ≤ (gf i).2.1 ∧ (gf i).2.1 < 18446744073709551616) ∧ (0 ≤ (gf i).2.2 ∧ (gf i).2.2 < 18446744073709551616)

theorem neq_same44 (W : Nat) (w : World) : (binOp .neq 44 (.pointer (some ⟨W, 0, none⟩)) (.pointer (some ⟨W, 0, none⟩))).run Try.prog w = .ok (.bool false) w := by
  have hi : ∃ j, Try.prog.info? 85 = some j := by
    have : (Try.prog.info? 85).isSome = true := by kernel_rfl
    exact Option.isSome_iff_exists.1 this
  obtain ⟨j, hj⟩ := hi
  have h : ∀ d : Nat, (Op.equalIn (d + 1) 44 (.pointer (some ⟨W, 0, none⟩)) (.pointer (some ⟨W, 0, none⟩))).run Try.prog w = .ok true w := fun d => by
    simp [Op.equalIn, run_underlying Try.underlying44, sizeOf, typeInfo, hj, run_sameAddr_same]
  simp only [binOp]
  simp [Op.equal, Op.maxDepth, h 9999]

set_option maxRecDepth 100000 in
set_option maxHeartbeats 4000000 in
theorem lists_few (t : Int) (ad : Option Addr) (n cap : Nat) (hnm : n ≤ 9223372036854775807) (h : t < 1 ∨ 16 < t ∨ 60 < n) (w : World) :
    Calls Try.prog 6 #[.int .i64 t, .slice ad n cap] w fun e w' => e = .returned (.bool true) ∧ Below w.heap.size w w' := by
  by_cases h0 : t < 1
  · clear h
    go_enter Try.func6, Try.ntmps6
    go_wp2_with fail
    refine (known_any _).mono ?_
    rintro e w1 ⟨rfl, hb1⟩
    go_wp2
    go_returns
    exact ⟨rfl, hb1⟩
  · have h0' : decide (t < 1) = false := by simpa using h0
    by_cases h1 : 16 < t
    · clear h h0
      go_enter Try.func6, Try.ntmps6
      go_wp2_with fail
      refine (known_any _).mono ?_
      rintro e w1 ⟨rfl, hb1⟩
      go_wp2
      go_returns
      exact ⟨rfl, hb1⟩
    · have h1' : decide (16 < t) = false := by simpa using h1
      have h2 : (60 : Int) < (n : Int) := by omega
      clear h h0 h1
      go_enter Try.func6, Try.ntmps6
      go_wp2_with fail
      refine (known_any _).mono ?_
      rintro e w1 ⟨rfl, hb1⟩
      go_wp2
      go_returns
      exact ⟨rfl, hb1⟩

theorem own_frozen {w : World} {base n size g c : Nat} {e : TypeId} {xs : List Value} (h : w.ownsRow base e size (.slice (some ⟨g, 0, none⟩) n c) n xs) (o : Nat) : w.frozen? ⟨g, o, none⟩ = false := by
  rcases h.2 with ⟨h2, -⟩ | ⟨g', cap, cur, h2, hg, hh, r⟩
  · cases h2
  · have : g = g' := by simp at h2; exact h2.1
    subst this
    simp [World.frozen?, hh]

/-- Behind q rounds of the second loop: what was told, of which the first q are another's now. -/
structure G2 (og eg : Nat) (id : Int) (gf : Nat → O) (n q : Nat) (wP wr : World) : Prop where
  got : ∀ i, q ≤ i → i < n → ∀ j, j < 3 → wr.cell? ⟨og, i * 3 + j, none⟩ = (ent (gf i))[j]?
  fz : q < n → ∀ o, wr.frozen? ⟨og, o, none⟩ = false
  evs : ∀ i, i < n → ∀ j, j < 16 → wr.cell? ⟨eg, i * 16 + j, none⟩ = (ev id i (gf i))[j]?
  bel : Below wP.heap.size wP wr
  ne : q < n → og ≠ eg ∧ wP.heap.size ≤ og

theorem G2.below {og eg : Nat} {id : Int} {gf : Nat → O} {n q : Nat} {wP wr w' : World} (h : G2 og eg id gf n q wP wr) (hb : Below wr.heap.size wr w') : G2 og eg id gf n q wP w' := by
  refine ⟨fun i hi hin j hj => ?_, fun hq o => ?_, fun i hin j hj => ?_, h.bel.trans (hb.mono h.bel.size), h.ne⟩
  · have hlt : og < wr.heap.size := World.block_lt_of_cell? _ _ ((h.got i hi hin 0 (by decide)).trans (show (ent (gf i))[0]? = some (.int .u64 (gf i).1) from rfl))
    rw [hb.cell (p := ⟨og, i * 3 + j, none⟩) hlt]
    exact h.got i hi hin j hj
  · have hlt : og < wr.heap.size := World.block_lt_of_cell? _ _ ((h.got q (Nat.le_refl _) hq 0 (by decide)).trans (show (ent (gf q))[0]? = some (.int .u64 (gf q).1) from rfl))
    rw [hb.frozen (p := ⟨og, o, none⟩) hlt]
    exact h.fz hq o
  · have hlt : eg < wr.heap.size := World.block_lt_of_cell? _ _ ((h.evs i hin 0 (by decide)).trans (show (ev id i (gf i))[0]? = some (.int .i64 i) from rfl))
    rw [hb.cell (p := ⟨eg, i * 16 + j, none⟩) hlt]
    exact h.evs i hin j hj

theorem G2.step {og eg : Nat} {id : Int} {gf : Nat → O} {n q : Nat} {wP wr : World} (h : G2 og eg id gf n q wP wr) (hq : q < n) (u : Value) : G2 og eg id gf n (q + 1) wP (wr.setCell ⟨og, q * 3 + 2, none⟩ u) := by
  have co : ∀ {p : Addr}, p ≠ ⟨og, q * 3 + 2, none⟩ → (wr.setCell ⟨og, q * 3 + 2, none⟩ u).cell? p = wr.cell? p := fun hp => by apply World.cell?_setCell_other; exact Ne.symm hp
  obtain ⟨n1, n2⟩ := h.ne hq
  refine ⟨fun i hi hin j hj => ?_, fun _ o => ?_, fun i hin j hj => ?_, h.bel.setCell (by exact n2) _, fun _ => ⟨n1, n2⟩⟩
  · rw [co (fun e => by injection e with e1 e2; omega)]
    exact h.got i (by omega) hin j hj
  · simp only [World.frozen?_setCell]
    exact h.fz hq o
  · rw [co (fun e => by injection e with e1 e2; exact n1 e1.symm)]
    exact h.evs i hin j hj

theorem g2_start {W L : Nat} {id : Int} {gf : Nat → O} {base n : Nat} {sa : Option Addr} {sc : Nat} {ra : Option Addr} {rc : Nat} {xs ys zs : List Value} {Es : Nat → Nat} {w0 wr w4 w5 : World} {oa ea : Option Addr} {oc ec : Nat} (hp : Ps W L id gf base n sa sc ra rc xs ys Es w0 wr)
    (ho : w4.ownsRow wr.heap.size 30 3 (.slice oa n oc) n zs) (hz : ZsIs gf n zs) (hb4 : Below wr.heap.size wr w4) (he : w5.ownsRow w4.heap.size 61 16 (.slice ea n ec) n xs) (hb5 : Below w4.heap.size w4 w5) :
    ∃ og eg, (0 < n → oa = some ⟨og, 0, none⟩ ∧ ea = some ⟨eg, 0, none⟩) ∧ G2 og eg id gf n 0 wr w5 := by
  rcases Nat.eq_zero_or_pos n with h0 | h0
  · subst h0
    exact ⟨0, 0, fun h => absurd h (by omega), ⟨fun i _ hi => absurd hi (by omega), fun h => absurd h (by omega), fun i hi => absurd hi (by omega), hb4.trans (hb5.mono hb4.size), fun h => absurd h (by omega)⟩⟩
  · obtain ⟨og, c1, h1, -, -⟩ := ho.form h0
    obtain ⟨eg, c2, h2, -, -⟩ := he.form h0
    have e1 : oa = some ⟨og, 0, none⟩ := by simp at h1; exact h1.1
    have e2 : ea = some ⟨eg, 0, none⟩ := by simp at h2; exact h2.1
    subst e1
    subst e2
    have l1 := ho.lt og rfl
    have l2 := he.lt eg rfl
    have ho5 := own_below ho hb5
    refine ⟨og, eg, fun _ => ⟨rfl, rfl⟩, ⟨fun i _ hi j hj => ?_, fun _ o => own_frozen ho5 o, fun i hi j hj => ?_, hb4.trans (hb5.mono hb4.size), fun _ => ⟨by omega, l1.1⟩⟩⟩
    · rw [ho5.cellAt (i * 3 + j) (by omega)]
      exact hz i hi j hj
    · rw [he.cellAt (i * 16 + j) (by omega)]
      exact hp.ex i hi j hj
end Go.Proofs.Ytebnjfpffdlbbaa
