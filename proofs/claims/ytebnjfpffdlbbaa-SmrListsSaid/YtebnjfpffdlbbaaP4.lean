/- Old and Retired, and Events, behind k Puts. -/
import Derived.Test.YtebnjfpffdlbbaaP3
namespace Go.Proofs.Ytebnjfpffdlbbaa
open Go.RowKit
set_option linter.unusedVariables false
set_option linter.unusedSimpArgs false

theorem below_grown {n : Nat} {w wr w4 : World} {o : Obj} {row : Option Nat} (hb : Below n w wr) (hn : n ≤ wr.heap.size) (hg : (wr.alloc o).grownBy w4 row) (hrow : ∀ j, row = some j → n ≤ j) : Below n w w4 :=
  ⟨hg.os.trans hb.os, hg.tape.trans hb.tape, hg.output.trans hb.output, Nat.le_trans hb.size (Nat.le_trans (show wr.heap.size ≤ (wr.alloc o).heap.size by simp) hg.size), fun k hk => by
    rw [hg.block k (by simp; omega) (fun e => by have := hrow k e.symm; omega), Below.heap_alloc _ _ _ (by omega)]
    exact hb.block k hk⟩

theorem info30 : (Try.prog.info? 30).map (fun i => (i.zero.map (·.cells.size), i.size, i.bytes)) = some (some 3, 3, 24) := by kernel_rfl
theorem info30q : ∃ i z, Try.prog.info? 30 = some i ∧ i.zero = some z ∧ z.cells.size = 3 ∧ i.size = 3 ∧ i.bytes = 24 := by
  have := info30
  cases hh : Try.prog.info? 30 with
  | none => rw [hh] at this; cases this
  | some i => rw [hh] at this; simp at this; obtain ⟨⟨z, hz, h0⟩, h1, h2⟩ := this; exact ⟨i, z, rfl, hz, h0, h1, h2⟩

/-- The first cells of the slots. -/
def ZsIs (gs : Nat → O) (k : Nat) (zs : List Value) : Prop := ∀ i, i < k → ∀ j, j < 3 → zs[i * 3 + j]? = (ent (gs i))[j]?

theorem ZsIs.step {gs : Nat → O} {i : Nat} {zs : List Value} (hz : ZsIs gs i zs) (hl : zs.length = i * 3) (h b s : Int) (hg : gs i = (h, b, s)) : ZsIs gs (i + 1) (zs ++ [.int .u64 h, .int .u64 b, .int .u64 s]) := fun q hq j hj => by
  by_cases e : q = i
  · subst e
    rw [List.getElem?_append_right (by omega), hl, Nat.add_sub_cancel_left, hg]
    match j, hj with
    | 0, _ => rfl
    | 1, _ => rfl
    | 2, _ => rfl
  · rw [List.getElem?_append_left (by omega)]
    exact hz q (by omega) j hj

section
variable {W : Nat} {gs : Nat → O} {base k : Nat} {sa : Option Addr} {sc : Nat} {ra : Option Addr} {rc : Nat} {xs ys : List Value} {Es : Nat → Nat} {w0 w : World}

set_option maxRecDepth 100000 in
set_option maxHeartbeats 4000000 in
theorem old_l {B n : Nat} {wo : Option Addr} {at_ : Int} {gr cr : Nat} {Ls : Nat → Nat} (hp : Ps W (Ls n) n gs base k sa sc ra rc xs ys Es w0 w) (hb : Bs B n wo at_ gr cr Ls w) (hk : k ≤ 100) :
    Calls Try.prog 27 #[.pointer (some ⟨B, 0, none⟩), .int .i64 (n : Int)] w fun e w' => ∃ oa oc zs, e = .returned (.slice oa k oc) ∧ w'.ownsRow w.heap.size 30 3 (.slice oa k oc) k zs ∧ ZsIs gs k zs ∧ Below w.heap.size w w' := by
  obtain ⟨i, z, hi, hz, hc, hs1, h8⟩ := info30q
  have hk100 : (k : Int) ≤ 100 := by omega
  have HL := Lib.hid (ledger_at (c := cr) n (show n < n + 1 by omega) (by have := hb.hT; omega) w hb.c12 (hb.rows n (by omega)))
  have HP := Lib.hid hp
  have l0 := hp.l0
  clear hp hb
  go_enter Try.func27, Try.ntmps27
  go_wp2_with fail
  refine HL.out.mono ?_
  rintro e w1 ⟨rfl, rfl⟩
  go_wp2_with fail
  clear l0
  go_loopw [6, 19] (fun v6 v19 wr => ∃ (q : Nat) (oa : Option Addr) (oc : Nat) (zs : List Value), q ≤ k ∧ v19 = .int .i64 (q : Int) ∧ v6 = .slice oa q oc ∧ Hid (wr.ownsRow w.heap.size 30 3 (.slice oa q oc) q zs) ∧ Hid (ZsIs gs q zs) ∧ Hid (Below w.heap.size w wr)) (fun _ v19 _ => k - (intOf v19).toNat)
  case atStart => exact ⟨0, none, 0, [], Nat.zero_le _, rfl, rfl, Lib.hid (World.ownsRow_nil _ _ _ _), Lib.hid (fun i hi => by omega), Lib.hid (Below.refl _ _)⟩
  case round =>
    obtain ⟨q, oa, oc, zs, hq, rfl, rfl, HO, HZ, HB⟩ := hrel
    by_cases hlt : q < k
    · have hlt' : (q : Int) < (k : Int) := by omega
      obtain ⟨g, cap, hra, hgb, hgl⟩ := HP.out.lr.form (by omega)
      have hra1 : ra = some ⟨g, 0, none⟩ := by simp at hra; exact hra.1
      have hra2 : cap = rc := by simp at hra; exact hra.2.symm
      subst hra1
      subst hra2
      obtain ⟨t1, t2, t3, t4⟩ := HP.out.en q hlt
      obtain ⟨⟨h, b, s⟩, hg⟩ : ∃ o, gs q = o := ⟨_, rfl⟩
      rw [hg] at t1
      have er : wr.cell? ⟨g, q, none⟩ = some (.pointer (some ⟨Es q, 0, none⟩)) := keep HB.out (by rw [HP.out.lr.cellAt q (by omega)]; exact HP.out.get q hlt)
      have c0 : wr.cell? ⟨Es q, 0, none⟩ = some (.int .u64 h) := keep HB.out (row_cell t1 0)
      have c1 : wr.cell? ⟨Es q, 1, none⟩ = some (.int .u64 b) := keep HB.out (row_cell t1 1)
      have c2 : wr.cell? ⟨Es q, 2, none⟩ = some (.int .u64 s) := keep HB.out (row_cell t1 2)
      have hwr : w.heap.size ≤ wr.heap.size := HB.out.size
      have HG := Lib.hid hg
      clear t1 t2 t3 t4 hra hgb hgl hg
      go_wp2_with (first
        | (at_builtin; refine wpList_append_lies _ rfl (.tmp 23) (.tmp 28) 43 rfl w.heap.size 30 i z 3 24 Try.underlying43 hi hz hs1 h8 hc (by decide) (.slice oa q oc) q zs rfl ?_ ⟨wr.heap.size, 0, none⟩ 1 1 [.int .u64 h, .int .u64 b, .int .u64 s] rfl rfl ?_ ?_ (by decide) (by unfold maxLen; omega) ?_ ?_ (wr.heap.size + 1) ?_ ?_
           · exact HO.out.alloc _
           · exact newsN wr #[.int .u64 h, .int .u64 b, .int .u64 s] 30
           · (intro u hu; simp at hu; rcases hu with rfl | rfl | rfl <;> rfl)
           · omega
           · (simp; omega)
           · simp
           intro g2 cap2 w4 hown2 hgrow hat hlt2
           have HO2 := Lib.hid hown2
           have HB2 := Lib.hid (below_grown HB.out hwr hgrow (fun j hj => (HO.out.lt j hj).1))
           clear hown2 hgrow hat hlt2))
      have HZ2 := Lib.hid (HZ.out.step (by have := HO.out.1; omega) h b s HG.out)
      refine ⟨?_, ?_⟩
      · first
          | exact ⟨q + 1, _, _, _, by omega, by go_num, rfl, HO2, HZ2, HB2⟩
          | ((repeat apply Exists.intro); refine ⟨?_, rfl⟩; exact ⟨q + 1, _, _, _, by omega, by go_num, rfl, HO2, HZ2, HB2⟩)
      · simp [intOf]; omega
    · obtain rfl : q = k := by omega
      go_wp2
      go_returns
      exact ⟨oa, oc, zs, rfl, HO.out, HZ.out, HB.out⟩
end
end Go.Proofs.Ytebnjfpffdlbbaa
