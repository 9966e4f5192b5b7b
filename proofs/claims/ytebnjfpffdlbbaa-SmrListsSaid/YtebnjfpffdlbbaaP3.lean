/- Put, by the setup thread: one more. -/
import Derived.Test.YtebnjfpffdlbbaaP2
import Derived.Deep.RegionHeld3
namespace Go.Proofs.Ytebnjfpffdlbbaa
open Go.RowKit
set_option linter.unusedVariables false
set_option linter.unusedSimpArgs false

/-- A slot's cells in a block of its own. -/
def BoxAt (B : Nat) (h b s : Int) (w : World) : Prop :=
  w.cell? ⟨B, 0, none⟩ = some (.int .u64 h) ∧ w.cell? ⟨B, 1, none⟩ = some (.int .u64 b) ∧ w.cell? ⟨B, 2, none⟩ = some (.int .u64 s)
theorem BoxAt.below {B : Nat} {h b s : Int} {w w' : World} (o : BoxAt B h b s w) (hb : Below w.heap.size w w') : BoxAt B h b s w' :=
  ⟨keep hb o.1, keep hb o.2.1, keep hb o.2.2⟩

theorem ThrAt.below {T W : Nat} {id by_ : Int} {w w' : World} (h : ThrAt T W id by_ w) (hb : Below w.heap.size w w') : ThrAt T W id by_ w' := fun j hj => by
  have hT : T < w.heap.size := World.block_lt_of_cell? _ _ (h 0 (by decide))
  rw [hb.cell (p := ⟨T, j, none⟩) hT]
  exact h j hj

section
variable {W L : Nat} {id : Int} {gs : Nat → O} {base k : Nat} {sa : Option Addr} {sc : Nat} {ra : Option Addr} {rc : Nat} {xs ys : List Value} {Es : Nat → Nat} {w0 w : World}

theorem note_ps {T : Nat} (hp : Ps W L id gs base k sa sc ra rc xs ys Es w0 w) (ht : ThrAt T W id 4 w) (hk : k ≤ 100) (slot s : Int) :
    Calls Try.prog 44 #[.pointer (some ⟨T, 0, none⟩), .agg #[.int .i64 8, .int .i64 slot, .int .i64 0, .int .i64 0, .int .i64 0, .int .i64 0, .int .u64 s, .int .i64 0]] w fun e w' => e = .returned (.tuple #[]) ∧ ∃ g cap, w'.cell? ⟨W, 3, none⟩ = some (.slice (some ⟨g, 0, none⟩) (k + 1) cap) ∧
      w'.ownsRow base 61 16 (.slice (some ⟨g, 0, none⟩) (k + 1) cap) (k + 1) (xs ++ [.int .i64 k, .int .i64 id, .int .i64 4, .int .i64 5, .int .i64 0, .int .u64 0, .int .u64 0, .bool false, .int .i64 8, .int .i64 slot, .int .i64 0, .int .i64 0, .int .i64 0, .int .i64 0, .int .u64 s, .int .i64 0]) ∧ Kr W (Value.slice sa k sc).ownBlock w w' ∧ ((Value.slice sa k sc).ownBlock = some g ∨ w.heap.size ≤ g) :=
  note_l (ht 0 (by decide)) (ht 1 (by decide)) (ht 2 (by decide)) (ht 7 (by decide)) hp.e3 (hp.fW 3) hp.er (Nat.le_trans hp.hb0 hp.hsz) hp.hW (by omega) (fun u hu => by
    simp only [List.mem_cons] at hu
    rcases hu with rfl | rfl | rfl | rfl | rfl | rfl | rfl | rfl | hu
    all_goals first | rfl | (simp at hu))

theorem own_kr {W base n size : Nat} {e : TypeId} {row : Option Nat} {v : Value} {xs : List Value} {w w' : World} (h : w.ownsRow base e size v n xs) (k : Kr W row w w') (hne : v.ownBlock = none ∨ v.ownBlock ≠ row) (hW : ∀ j, v.ownBlock = some j → j ≠ W) : w'.ownsRow base e size v n xs := by
  refine ⟨h.1, ?_⟩
  rcases h.2 with h2 | ⟨g, cap, cur, rfl, hg, hh, r⟩
  · exact Or.inl h2
  · refine Or.inr ⟨g, cap, cur, rfl, hg, ?_, r⟩
    rw [k.block g (Array.getElem?_eq_some_iff.1 hh).1 (hW g rfl) (fun e => by rcases hne with hne | hne; cases hne; exact hne e)]
    exact hh

theorem info89 : (Try.prog.info? 89).map (fun i => (i.zero, i.size, i.bytes)) = some (some (.pointer none), 1, 8) := by kernel_rfl

set_option maxRecDepth 100000 in
set_option maxHeartbeats 8000000 in
theorem put_l {B n T : Nat} {wo : Option Addr} {at_ : Int} {gr cr : Nat} {Ls : Nat → Nat} (hp : Ps W (Ls n) n gs base k sa sc ra rc xs ys Es w0 w) (hb : Bs B n wo at_ gr cr Ls w) (ht : ThrAt T W n 4 w) (hk : k ≤ 100) (h b s : Int) (hg : gs k = (h, b, s)) (hh : 0 ≤ h ∧ h < 18446744073709551616) :
    Calls Try.prog 26 #[.pointer (some ⟨B, 0, none⟩), .pointer (some ⟨T, 0, none⟩), .agg #[.int .u64 h, .int .u64 b, .int .u64 s]] w fun e w' => e = .returned (.int .i64 ((k : Int) + 1)) ∧ ∃ sa' sc' ra' rc' xs' ys' Es', Ps W (Ls n) n gs base (k + 1) sa' sc' ra' rc' xs' ys' Es' w0 w' := by
  obtain ⟨i, hi, hz, h1, h8⟩ : ∃ i, Try.prog.info? 89 = some i ∧ i.zero = some (.pointer none) ∧ i.size = 1 ∧ i.bytes = 8 := by
    have := info89
    cases hh : Try.prog.info? 89 with
    | none => rw [hh] at this; cases this
    | some i => rw [hh] at this; simp at this; exact ⟨i, rfl, this.1, this.2.1, this.2.2⟩
  generalize hL : Ls n = L at hp ⊢
  have hk100 : (k : Int) ≤ 100 := by omega
  have hb0 : Below w.heap.size w (w.alloc (.cells #[.int .u64 h, .int .u64 b, .int .u64 s] 30)) := by go_grown
  have HLO := Lib.hid (ledgerOf_l (hb.below hb0) (ht.below hb0) (by omega))
  rw [hL] at HLO
  have hWs : W < w.heap.size := by have := hp.hW; have := hp.hb0; have := hp.hsz; omega
  have hLs : L < w.heap.size := by have := hp.hL; have := hp.hb0; have := hp.hsz; omega
  have hbs : base ≤ w.heap.size := Nat.le_trans hp.hb0 hp.hsz
  have HP := Lib.hid hp
  have HT := Lib.hid ht
  have HH := Lib.hid hh
  have HG := Lib.hid hg
  have HB0 := Lib.hid hb0
  have hO : BoxAt w.heap.size h b s (w.alloc (.cells #[.int .u64 h, .int .u64 b, .int .u64 s] 30)) := ⟨by simp [go_sem], by simp [go_sem], by simp [go_sem]⟩
  have HO := Lib.hid hO
  clear hp hb ht hh hg hb0 hO
  go_enter Try.func26, Try.ntmps26
  go_wp2_with fail
  refine HLO.out.mono ?_
  rintro e w1 ⟨rfl, rfl⟩
  go_wp2_with fail
  have hs2 : (w.alloc (.cells #[.int .u64 h, .int .u64 b, .int .u64 s] 30)).heap.size = w.heap.size + 1 := by simp
  generalize (w.alloc (.cells #[.int .u64 h, .int .u64 b, .int .u64 s] 30)) = w2 at HB0 HO hs2 ⊢
  have HK : ∀ {w' : World}, Below w2.heap.size w2 w' → w'.cell? ⟨w.heap.size, 0, none⟩ = some (.int .u64 h) ∧ w'.cell? ⟨w.heap.size, 1, none⟩ = some (.int .u64 b) ∧ w'.cell? ⟨w.heap.size, 2, none⟩ = some (.int .u64 s) := fun hb => HO.out.below hb
  have HKN : ∀ {wA w' : World}, Below w2.heap.size w2 wA → Kr W (Value.slice sa k sc).ownBlock wA w' → w'.cell? ⟨w.heap.size, 0, none⟩ = some (.int .u64 h) ∧ w'.cell? ⟨w.heap.size, 1, none⟩ = some (.int .u64 b) ∧ w'.cell? ⟨w.heap.size, 2, none⟩ = some (.int .u64 s) := fun {wA w'} hbA kr => by
    obtain ⟨o0, o1, o2⟩ := HO.out.below hbA
    have hblk : w'.heap[w.heap.size]? = wA.heap[w.heap.size]? := kr.block _ (by have := hbA.size; omega) (by omega) (fun e => by have := (HP.out.er.lt _ e.symm).2; omega)
    exact ⟨(World.cell?_of_block (w := wA) hblk).trans o0, (World.cell?_of_block (w := wA) hblk).trans o1, (World.cell?_of_block (w := wA) hblk).trans o2⟩
  go_region_held3 (fun w' => w'.cell? ⟨w.heap.size, 0, none⟩ = some (.int .u64 h) ∧ w'.cell? ⟨w.heap.size, 1, none⟩ = some (.int .u64 b) ∧ w'.cell? ⟨w.heap.size, 2, none⟩ = some (.int .u64 s))
    (first | (refine HK ?_; go_grown; done) | (refine HK (below_then ?_ hb4); go_grown; done) | (refine HKN hbA r3; done))
    (first
    | (go_at_call 35; refine (index_any _ HH.out.1 HH.out.2 _).mono ?_; rintro e v4 ⟨rfl, hb4⟩)
    | (go_at_call 44
       have hbA : Below w2.heap.size w2 v4 := below_then (show Below w2.heap.size w2 w2.drew by go_grown) hb4
       refine (note_ps (HP.out.below (below_then HB0.out hbA)) (HT.out.below (below_then HB0.out hbA)) hk _ _).mono ?_
       rintro e w3 ⟨rfl, g1, c1, r1, r2, r3, r4⟩))
  all_goals
    go_wp2_with fail
    have hb4' : Below w.heap.size w v4 := below_then HB0.out hbA
    have kr : Kr W (Value.slice sa k sc).ownBlock w w3 := Kr.of_below hb4' hWs r3
    have hLse : some L ≠ (Value.slice sa k sc).ownBlock := fun e => by have := (HP.out.er.lt _ e.symm).1; have := HP.out.hL; omega
    have hL3 : w3.heap[L]? = w.heap[L]? := kr.block L hLs HP.out.hWL hLse
    have cL : w3.cell? ⟨L, 0, none⟩ = some (.slice ra k rc) := (World.cell?_of_block (w := w) hL3).trans HP.out.l0
    obtain ⟨o0, o1, o2⟩ : w3.cell? ⟨w.heap.size, 0, none⟩ = some (.int .u64 h) ∧ w3.cell? ⟨w.heap.size, 1, none⟩ = some (.int .u64 b) ∧ w3.cell? ⟨w.heap.size, 2, none⟩ = some (.int .u64 s) := HKN hbA r3
    have hL3s : L < w3.heap.size := World.block_lt_of_cell? _ _ cL
    have hA3s : w.heap.size < w3.heap.size := World.block_lt_of_cell? _ _ o0
    have hsep : (Value.slice ra k rc).ownBlock = none ∨ (Value.slice ra k rc).ownBlock ≠ (Value.slice sa k sc).ownBlock := by
      cases hsr : (Value.slice ra k rc).ownBlock with
      | none => exact Or.inl rfl
      | some j => exact Or.inr (fun e => HP.out.sep j e.symm hsr)
    have hrW : ∀ j, (Value.slice ra k rc).ownBlock = some j → j ≠ W := fun j hj => by have := (HP.out.lr.lt _ hj).1; have := HP.out.hW; omega
    have HR3 := Lib.hid (show w3.ownsRow base 89 1 (.slice ra k rc) k ys from own_kr HP.out.lr kr hsep hrW)
    have HE3 := Lib.hid r1
    have HER := Lib.hid r2
    have HKR := Lib.hid kr
    have HSG := Lib.hid (show (Value.slice sa k sc).ownBlock = some g1 ∨ w.heap.size ≤ g1 by rcases r4 with r4 | r4; exact Or.inl r4; right; have := hb4'.size; omega)
    have HB3 := Lib.hid (show base ≤ w3.heap.size by omega)
    clear r1 r2 r3 r4 hbA hb4 hb4' kr hLse hL3 hsep hrW HKN HK HO HB0
    go_region_law (first
      | (refine step_append_lies _ rfl (.tmp 25) (.tmp 29) 77 rfl base 89 i (.pointer none) 1 8 Try.underlying77 hi hz h1 h8 rfl (by decide) (.slice ra k rc) k ys (by simp [Act.eval, Act.put]) (own_below HR3.out (by go_grown)) ⟨w3.heap.size + 1, 0, none⟩ 1 1 [.pointer (some ⟨w3.heap.size, 0, none⟩)] (by simp [Act.eval, Act.put]) rfl (news1 (by simp [go_sem])) (by intro u hu; simp at hu; subst hu; rfl) (by decide) (by unfold maxLen; omega) (by omega) (by have := HB3.out; simp; omega) (w3.heap.size + 2) (by simp) ?_
         intro g2 c3 w5 hown2 hgrow hat hlt2
         obtain ⟨R1, R2, R3⟩ := HP.out.step (w3 := w3.drew) (g := g1) (c1 := c1) (o := .cells #[.pointer (some ⟨w3.heap.size, 0, none⟩)] 89) (HKR.out.and_below hWs (by go_grown)) HE3.out (by rw [HG.out]; exact own_below HER.out (by go_grown)) HSG.out hown2 (by rw [HG.out]; exact ⟨hgrow.os, hgrow.tape, hgrow.output, hgrow.size, hgrow.block⟩) hat
         have HRR := Lib.hid R3
         clear hown2 hgrow hat hlt2 R3))
  all_goals
    go_wp2
    go_returns
    exact ⟨ret_int (by first | rfl | simp), _, _, _, _, _, _, _, HRR.out⟩
end
end Go.Proofs.Ytebnjfpffdlbbaa
