/- The document's own world of layer 6 with one slot and three threads: what it is in memory, and Has. -/
import Derived.Test.YtejfcmgnacimgaaDoorP1
namespace Go.Proofs.YtejfcmgnacimgaaDoor
open Go.RowKit
set_option linter.unusedVariables false
set_option linter.unusedSimpArgs false

/-- A slot's fields (0 to 5) and words (6 to 13), what guards say, and how many events there were. -/
structure U where
  s : Nat → Int
  g : Nat → Int
  n : Int

def upd (f : Nat → Int) (i : Nat) (v : Int) : Nat → Int := fun k => if k = i then v else f k
def cellU (k : Nat) (v : Int) : Value := if k < 6 then .int .i64 v else .int .u64 v

structure UAt (W S G : Nat) (B a b : Int) (cs cg : Nat) (u : U) (w : World) : Prop where
  wat : WAt W B a b 1 w
  c4 : w.cell? ⟨W, 4, none⟩ = some (.slice (some ⟨S, 0, none⟩) 1 cs)
  c5 : w.cell? ⟨W, 5, none⟩ = some (.slice (some ⟨G, 0, none⟩) 3 cg)
  c6 : w.cell? ⟨W, 6, none⟩ = some (.int .i64 u.n)
  sc : ∀ k, k < 14 → w.cell? ⟨S, k, none⟩ = some (cellU k (u.s k))
  gc : ∀ j, j < 36 → w.cell? ⟨G, j, none⟩ = some (.int .i64 (u.g j))
  fW : ∀ o, w.frozen? ⟨W, o, none⟩ = false
  fS : ∀ o, w.frozen? ⟨S, o, none⟩ = false
  fG : ∀ o, w.frozen? ⟨G, o, none⟩ = false
  nWS : W ≠ S
  nWG : W ≠ G
  nSG : S ≠ G

section
variable {W S G : Nat} {B a b : Int} {cs cg : Nat} {u : U} {w : World}
theorem UAt.s0 (h : UAt W S G B a b cs cg u w) : w.cell? ⟨S, 0, none⟩ = some (.int .i64 (u.s 0)) := h.sc 0 (by decide)
theorem UAt.s1 (h : UAt W S G B a b cs cg u w) : w.cell? ⟨S, 1, none⟩ = some (.int .i64 (u.s 1)) := h.sc 1 (by decide)
theorem UAt.s2 (h : UAt W S G B a b cs cg u w) : w.cell? ⟨S, 2, none⟩ = some (.int .i64 (u.s 2)) := h.sc 2 (by decide)
theorem UAt.s3 (h : UAt W S G B a b cs cg u w) : w.cell? ⟨S, 3, none⟩ = some (.int .i64 (u.s 3)) := h.sc 3 (by decide)
theorem UAt.s4 (h : UAt W S G B a b cs cg u w) : w.cell? ⟨S, 4, none⟩ = some (.int .i64 (u.s 4)) := h.sc 4 (by decide)
theorem UAt.s5 (h : UAt W S G B a b cs cg u w) : w.cell? ⟨S, 5, none⟩ = some (.int .i64 (u.s 5)) := h.sc 5 (by decide)
theorem UAt.lt (h : UAt W S G B a b cs cg u w) : W < w.heap.size ∧ S < w.heap.size ∧ G < w.heap.size :=
  ⟨World.block_lt_of_cell? _ _ h.c4, World.block_lt_of_cell? _ _ h.s0, World.block_lt_of_cell? _ _ (h.gc 0 (by decide))⟩
theorem UAt.below {w' : World} (h : UAt W S G B a b cs cg u w) (hb : Below w.heap.size w w') : UAt W S G B a b cs cg u w' :=
  ⟨h.wat.below hb, keep hb h.c4, keep hb h.c5, keep hb h.c6, fun k hk => keep hb (h.sc k hk), fun k hk => keep hb (h.gc k hk),
    fun o => (hb.frozen (p := ⟨W, o, none⟩) h.lt.1).trans (h.fW o), fun o => (hb.frozen (p := ⟨S, o, none⟩) h.lt.2.1).trans (h.fS o), fun o => (hb.frozen (p := ⟨G, o, none⟩) h.lt.2.2).trans (h.fG o), h.nWS, h.nWG, h.nSG⟩
theorem WAt.set {m : Nat} {w : World} {p : Addr} {v : Value} (h : WAt W B a b m w) (hp : p ≠ ⟨W, 1, none⟩ ∧ p ≠ ⟨W, 2, none⟩ ∧ p ≠ ⟨W, 4, none⟩) : WAt W B a b m (w.setCell p v) := by
  obtain ⟨ad, cap, c4⟩ := h.c4
  exact ⟨(cset_o hp.1).trans h.c1, (cset_o hp.2.1).trans h.c2, ⟨ad, cap, (cset_o hp.2.2).trans c4⟩, h.hB, h.ha, h.hb, h.hm⟩
theorem blk_ne {i j x y : Nat} (h : i ≠ j) : (⟨i, x, none⟩ : Addr) ≠ ⟨j, y, none⟩ := fun e => h (by injection e)
theorem off_ne {i x y : Nat} (h : x ≠ y) : (⟨i, x, none⟩ : Addr) ≠ ⟨i, y, none⟩ := fun e => h (by injection e)
theorem UAt.setS (h : UAt W S G B a b cs cg u w) (i : Nat) (hi : i < 14) (v : Int) : UAt W S G B a b cs cg { u with s := upd u.s i v } (w.setCell ⟨S, i, none⟩ (cellU i v)) := by
  have n1 := h.nWS
  have n3 := h.nSG
  refine ⟨h.wat.set ⟨blk_ne (Ne.symm n1), blk_ne (Ne.symm n1), blk_ne (Ne.symm n1)⟩, (cset_o (blk_ne (Ne.symm n1))).trans h.c4, (cset_o (blk_ne (Ne.symm n1))).trans h.c5, (cset_o (blk_ne (Ne.symm n1))).trans h.c6, fun k hk => ?_, fun k hk => (cset_o (blk_ne n3)).trans (h.gc k hk), fun o => by simpa using h.fW o, fun o => by simpa using h.fS o, fun o => by simpa using h.fG o, h.nWS, h.nWG, h.nSG⟩
  unfold upd
  by_cases e : k = i
  · subst e; simp only [if_true]; exact cset_s (h.sc k hk)
  · simp only [if_neg e]; exact (cset_o (off_ne (Ne.symm e))).trans (h.sc k hk)
theorem UAt.setG (h : UAt W S G B a b cs cg u w) (i : Nat) (hi : i < 36) (v : Int) : UAt W S G B a b cs cg { u with g := upd u.g i v } (w.setCell ⟨G, i, none⟩ (.int .i64 v)) := by
  have n1 := h.nWG
  have n3 := h.nSG
  refine ⟨h.wat.set ⟨blk_ne (Ne.symm n1), blk_ne (Ne.symm n1), blk_ne (Ne.symm n1)⟩, (cset_o (blk_ne (Ne.symm n1))).trans h.c4, (cset_o (blk_ne (Ne.symm n1))).trans h.c5, (cset_o (blk_ne (Ne.symm n1))).trans h.c6, fun k hk => (cset_o (blk_ne (Ne.symm n3))).trans (h.sc k hk), fun k hk => ?_, fun o => by simpa using h.fW o, fun o => by simpa using h.fS o, fun o => by simpa using h.fG o, h.nWS, h.nWG, h.nSG⟩
  unfold upd
  by_cases e : k = i
  · subst e; simp only [if_true]; exact cset_s (h.gc k hk)
  · simp only [if_neg e]; exact (cset_o (off_ne (Ne.symm e))).trans (h.gc k hk)
theorem UAt.setN (h : UAt W S G B a b cs cg u w) (v : Int) : UAt W S G B a b cs cg { u with n := v } (w.setCell ⟨W, 6, none⟩ (.int .i64 v)) := by
  have n1 := h.nWS
  have n2 := h.nWG
  exact ⟨h.wat.set ⟨off_ne (by decide), off_ne (by decide), off_ne (by decide)⟩, (cset_o (off_ne (by decide))).trans h.c4, (cset_o (off_ne (by decide))).trans h.c5, cset_s h.c6, fun k hk => (cset_o (blk_ne n1)).trans (h.sc k hk), fun k hk => (cset_o (blk_ne n2)).trans (h.gc k hk), fun o => by simpa using h.fW o, fun o => by simpa using h.fS o, fun o => by simpa using h.fG o, h.nWS, h.nWG, h.nSG⟩
end

/-- All is as it was, but for three blocks, and what is new. -/
structure Kz (W S G : Nat) (w w' : World) : Prop where
  os : w'.os = w.os
  tape : w'.tape = w.tape
  output : w'.output = w.output
  size : w.heap.size ≤ w'.heap.size
  block : ∀ k, k < w.heap.size → k ≠ W → k ≠ S → k ≠ G → w'.heap[k]? = w.heap[k]?
theorem Kz.refl (W S G : Nat) (w : World) : Kz W S G w w := ⟨rfl, rfl, rfl, Nat.le_refl _, fun _ _ _ _ _ => rfl⟩
theorem Kz.trans {W S G : Nat} {x y z : World} (h : Kz W S G x y) (k : Kz W S G y z) : Kz W S G x z :=
  ⟨k.os.trans h.os, k.tape.trans h.tape, k.output.trans h.output, Nat.le_trans h.size k.size, fun i hi h1 h2 h3 => (k.block i (Nat.lt_of_lt_of_le hi h.size) h1 h2 h3).trans (h.block i hi h1 h2 h3)⟩
theorem Kz.of_below {W S G : Nat} {w w' : World} (h : Below w.heap.size w w') : Kz W S G w w' := ⟨h.os, h.tape, h.output, h.size, fun k hk _ _ _ => h.block k hk⟩
theorem Kz.set {W S G : Nat} {x w : World} (h : Kz W S G x w) {p : Addr} (hp : p.block = W ∨ p.block = S ∨ p.block = G) (v : Value) : Kz W S G x (w.setCell p v) :=
  h.trans ⟨rfl, rfl, rfl, by simp, fun k hk h1 h2 h3 => Below.heap_setCell _ _ _ _ (by rcases hp with e | e | e <;> omega)⟩
theorem Kz.new {W S G : Nat} {x w : World} (h : Kz W S G x w) {p : Addr} (hp : x.heap.size ≤ p.block) (v : Value) : Kz W S G x (w.setCell p v) :=
  ⟨h.os, h.tape, h.output, by simpa using h.size, fun k hk h1 h2 h3 => (Below.heap_setCell _ _ _ _ (by omega)).trans (h.block k hk h1 h2 h3)⟩
theorem Kz.cell {W S G : Nat} {w w' : World} (h : Kz W S G w w') {p : Addr} {v : Value} (hp : p.block ≠ W ∧ p.block ≠ S ∧ p.block ≠ G) (hv : w.cell? p = some v) : w'.cell? p = some v :=
  (World.cell?_of_block (w := w) (h.block _ (World.block_lt_of_cell? _ _ hv) hp.1 hp.2.1 hp.2.2)).trans hv

/-- Has a thread a right on slot 1? -/
def hasU (u : U) (t : Nat) (i : Int) : Bool := i == 1 && ((u.s 0 == 1 && u.s 2 == (t : Int)) || (List.range 12).any fun k => u.g (t * 12 + k) == 1)

set_option maxHeartbeats 4000000 in
set_option maxRecDepth 100000 in
theorem has_u {W S G : Nat} {B a b : Int} {cs cg : Nat} {u : U} (t : Nat) (ht : t < 3) (i : Int) (w : World) (h : UAt W S G B a b cs cg u w) :
    Calls Tryd.prog 47 #[.pointer (some ⟨W, 0, none⟩), .int .i64 t, .int .i64 i] w fun e w' => e = .returned (.bool (hasU u t i)) ∧ w = w' := by
  have c4 := h.c4
  have c5 := h.c5
  by_cases hi : i = 1
  · subst hi
    have s0 := h.s0
    have s2 := h.s2
    have H := Lib.hid h
    have ht3 : (t : Int) < 3 := by omega
    clear h
    have hcs : ((u.s 0 == 1) = true ∧ (u.s 2 == (t : Int)) = true) ∨ ((u.s 0 == 1) = true ∧ (u.s 2 == (t : Int)) = false) ∨ (u.s 0 == 1) = false := by
      cases u.s 0 == 1 <;> cases u.s 2 == (t : Int) <;> simp
    rcases hcs with ⟨k0, k2⟩ | ⟨k0, k2⟩ | k0
    · have HM := Lib.hid (show hasU u t 1 = true by unfold hasU; rw [k0, k2]; rfl)
      go_enter Tryd.func47, Tryd.ntmps47
      go_wp2
      go_returns
      exact ⟨by rw [HM.out] <;> rfl, rfl⟩
    all_goals
      have HX := Lib.hid (show (u.s 0 == 1 && u.s 2 == (t : Int)) = false by simp [*])
      go_enter Tryd.func47, Tryd.ntmps47
      go_wp2_with fail
      go_loop [7] (fun v => ∃ k : Nat, k ≤ 12 ∧ v = .int .i64 k ∧ ∀ j, j < k → (u.g (t * 12 + j) == 1) = false) (fun v => 12 - (intOf v).toNat)
      case atStart => exact ⟨0, by omega, rfl, fun j hj => by omega⟩
      case round =>
        obtain ⟨k, hk, rfl, hno⟩ := hrel
        have hk12 : (k : Int) ≤ 12 := by omega
        have HN := Lib.hid hno
        clear hno
        by_cases hlt : k < 12
        · have hlt' : (k : Int) < 12 := by omega
          have gk : w.cell? ⟨G, t * 12 + k, none⟩ = some (.int .i64 (u.g (t * 12 + k))) := H.out.gc _ (by omega)
          cases kg : u.g (t * 12 + k) == 1
          · have HM := Lib.hid (show ∀ j, j < k + 1 → (u.g (t * 12 + j) == 1) = false from fun j hj => by
              rcases Nat.lt_succ_iff_lt_or_eq.1 hj with h1 | h1
              · exact HN.out j h1
              · rw [h1]; exact kg)
            go_wp2
            go_round
            case rel => exact ⟨k + 1, by omega, by go_num, HM.out⟩
            case measure => simp [intOf]; omega
          · have HM := Lib.hid (show hasU u t 1 = true by
              have := (show ((List.range 12).any fun k => u.g (t * 12 + k) == 1) = true from List.any_eq_true.2 ⟨k, List.mem_range.2 hlt, kg⟩)
              unfold hasU; rw [this, Bool.or_true]; rfl)
            go_wp2
            go_returns
            exact ⟨by rw [HM.out] <;> rfl, rfl⟩
        · obtain rfl : k = 12 := by omega
          have HM := Lib.hid (show hasU u t 1 = false by
            have := (show ((List.range 12).any fun k => u.g (t * 12 + k) == 1) = false from List.any_eq_false.2 fun j hj => by simpa using HN.out j (List.mem_range.1 hj))
            unfold hasU; rw [this, HX.out]; rfl)
          go_wp2
          go_returns
          exact ⟨by rw [HM.out] <;> rfl, rfl⟩
  · have hne : (i == 1) = false := by simpa using hi
    have hlo : i < 1 ∨ 1 < i := by omega
    rcases hlo with h1 | h1
    all_goals
      go_enter Tryd.func47, Tryd.ntmps47
      go_wp2
      go_returns
      exact ⟨by unfold hasU; rw [hne]; rfl, rfl⟩
end Go.Proofs.YtejfcmgnacimgaaDoor
