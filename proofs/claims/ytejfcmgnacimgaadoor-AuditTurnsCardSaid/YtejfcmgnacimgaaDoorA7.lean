/- What a replay's own writes leave: the frame round the slots and the map, a slot's cells stored, and the contract of end. -/
import Derived.Test.YtejfcmgnacimgaaDoorA5
import Derived.StillTailTactics
import Derived.Laws.OwnMore
namespace Go.Proofs.YtejfcmgnacimgaaDoor
open Go.RowKit Go.ChangeMaps
set_option linter.unusedVariables false
set_option linter.unusedSimpArgs false

/-- Below B all is as it was, but for blocks S and M. -/
structure Kq (B S M : Nat) (w w' : World) : Prop where
  os : w'.os = w.os
  tape : w'.tape = w.tape
  output : w'.output = w.output
  size : w.heap.size ≤ w'.heap.size
  block : ∀ k, k < B → k ≠ S → k ≠ M → w'.heap[k]? = w.heap[k]?

theorem Kq.refl (B S M : Nat) (w : World) : Kq B S M w w := ⟨rfl, rfl, rfl, Nat.le_refl _, fun _ _ _ _ => rfl⟩
theorem Kq.trans {B S M : Nat} {a b c : World} (h : Kq B S M a b) (k : Kq B S M b c) : Kq B S M a c :=
  ⟨k.os.trans h.os, k.tape.trans h.tape, k.output.trans h.output, Nat.le_trans h.size k.size, fun i hi hn hm => (k.block i hi hn hm).trans (h.block i hi hn hm)⟩
theorem Kq.mono {B B' S M : Nat} {w w' : World} (h : Kq B S M w w') (hB : B' ≤ B) : Kq B' S M w w' := ⟨h.os, h.tape, h.output, h.size, fun k hk hn hm => h.block k (by omega) hn hm⟩
theorem Kq.of_below {B S M : Nat} {w w' : World} (h : Below w.heap.size w w') (hB : B ≤ w.heap.size) : Kq B S M w w' :=
  ⟨h.os, h.tape, h.output, h.size, fun k hk _ _ => h.block k (Nat.lt_of_lt_of_le hk hB)⟩
theorem Kq.set_S {B S M : Nat} {a w : World} (h : Kq B S M a w) (o : Nat) (u : Value) : Kq B S M a (w.setCell ⟨S, o, none⟩ u) :=
  h.trans ⟨rfl, rfl, rfl, by simp, fun k _ hn _ => Below.heap_setCell _ _ _ _ hn⟩
theorem Kq.set_hi {B S M : Nat} {a w : World} (h : Kq B S M a w) {p : Addr} (hp : B ≤ p.block) (u : Value) : Kq B S M a (w.setCell p u) :=
  h.trans ⟨rfl, rfl, rfl, by simp, fun k hk _ _ => Below.heap_setCell _ _ _ _ (by omega)⟩
theorem Kq.set_M {B S M : Nat} {a w : World} (h : Kq B S M a w) (o : Obj) : Kq B S M a (setBlock w M o) :=
  h.trans ⟨rfl, rfl, rfl, by simp [setBlock], fun k _ _ hm => by simp only [setBlock, Array.getElem?_setIfInBounds]; rw [if_neg (by omega)]⟩
theorem Kq.cell {B S M : Nat} {w w' : World} (h : Kq B S M w w') {p : Addr} (h1 : p.block < B) (h2 : p.block ≠ S) (h3 : p.block ≠ M) : w'.cell? p = w.cell? p := World.cell?_of_block (w := w) (h.block _ h1 h2 h3)
theorem Kq.frozen {B S M : Nat} {w w' : World} (h : Kq B S M w w') {p : Addr} (h1 : p.block < B) (h2 : p.block ≠ S) (h3 : p.block ≠ M) : w'.frozen? p = w.frozen? p := World.frozen?_of_block (w := w) (h.block _ h1 h2 h3)
theorem Kq.below {B S M : Nat} {w w' : World} (h : Kq B S M w w') {C : Nat} (hS : C ≤ S) (hM : C ≤ M) (hB : C ≤ B) : Below C w w' :=
  ⟨h.os, h.tape, h.output, h.size, fun k hk => h.block k (by omega) (by omega) (by omega)⟩

def setSl (s : RS) (n : Nat) (x : Sl) : RS := { s with sl := fun k => if k = n then x else s.sl k }
def setG (s : RS) (t : Int) (g : Nat → Int × Int) : RS := { s with G := updG s.G t g }
theorem setSl_ok {s : RS} (h : s.Ok) (n : Nat) (x : Sl) : (setSl s n x).Ok := ⟨h.T, h.B, h.a, h.b, h.m⟩
theorem setG_ok {s : RS} (h : s.Ok) (t : Int) (g : Nat → Int × Int) : (setG s t g).Ok := ⟨h.T, h.B, h.a, h.b, h.m⟩

theorem cset_other {w : World} {a b : Addr} {v : Value} (h : a ≠ b) : (w.setCell a v).cell? b = w.cell? b := by apply World.cell?_setCell_other; exact h
theorem cset_same {w : World} {a : Addr} {u v : Value} (h : w.cell? a = some u) : (w.setCell a v).cell? a = some v := by apply World.cell?_setCell_same; exact h

/-- Behind a change of block S alone, where the slots' cells say so. -/
theorem RepAt.moved {R S M : Nat} {s s' : RS} {w w' : World} (h : RepAt R S M s w) (hS0 : S ≠ 0) (hk : ∀ k, k ≠ S → w'.heap[k]? = w.heap[k]?) (hz : w'.heap.size = w.heap.size)
    (hT : s'.T = s.T) (hB : s'.B = s.B) (ha : s'.a = s.a) (hb : s'.b = s.b) (hm : s'.m = s.m) (hG : s'.G = s.G)
    (hsc : ∀ i, i < s.m → ∀ k, k < 14 → w'.cell? ⟨S, i * 14 + k, none⟩ = some (scell (s'.sl i) k)) (hsf : ∀ o, w'.frozen? ⟨S, o, none⟩ = false) : RepAt R S M s' w' := by
  have k : ∀ {p : Addr} {v : Value}, p.block ≠ S → w.cell? p = some v → w'.cell? p = some v := fun hp hv => (World.cell?_of_block (w := w) (hk _ hp)).trans hv
  refine ⟨?_, ?_, ?_, ?_, ?_, k (by exact h.nRS) h.r5, ?_, hsf, ?_, ⟨k (by exact fun e => hS0 e.symm) h.z.1, k (by exact fun e => hS0 e.symm) h.z.2⟩, h.nRS, h.nRM, h.nSM, ?_⟩
  · rw [hT]; exact k (by exact h.nRS) h.r0
  · rw [hB]; exact k (by exact h.nRS) h.r1
  · rw [ha]; exact k (by exact h.nRS) h.r2
  · rw [hb]; exact k (by exact h.nRS) h.r3
  · rw [hm]; exact k (by exact h.nRS) h.r4
  · rw [hm]; exact hsc
  · rw [hG]
    obtain ⟨es, c, g1, g2⟩ := h.map
    exact ⟨es, c, (hk M (fun e => h.nSM e.symm)).trans g1, g2⟩
  · rw [hz]; exact h.lt

/-- One cell of a slot is stored. -/
theorem RepAt.slot_cell {R S M : Nat} {s : RS} {w : World} (h : RepAt R S M s w) (hS0 : S ≠ 0) (n : Nat) (hn : n < s.m) (k : Nat) (hk : k < 14) (v : Value) (x : Sl)
    (hx : ∀ j, j < 14 → scell x j = if j = k then v else scell (s.sl n) j) : RepAt R S M (setSl s n x) (w.setCell ⟨S, n * 14 + k, none⟩ v) := by
  refine h.moved hS0 (fun k hk => Below.heap_setCell _ _ _ _ hk) (by simp) rfl rfl rfl rfl rfl rfl ?_ (fun o => by rw [World.frozen?_setCell]; exact h.sf o)
  intro i hi j hj
  by_cases e : i = n
  · subst e
    simp only [setSl, if_pos]
    rw [hx j hj]
    by_cases e2 : j = k
    · subst e2; rw [if_pos rfl]; exact cset_same (h.sc i hi j hj)
    · rw [if_neg e2, cset_other (fun e3 => by have h := congrArg Addr.off e3; simp only at h; omega)]; exact h.sc i hi j hj
  · simp only [setSl, if_neg e]
    rw [cset_other (fun e3 => by have h := congrArg Addr.off e3; simp only at h; omega)]; exact h.sc i hi j hj

/-- A row of cells is stored. -/
def put (w : World) (S off : Nat) : List Value → World
  | [] => w
  | v :: vs => put (w.setCell ⟨S, off, none⟩ v) S (off + 1) vs

theorem put_heap (S : Nat) : ∀ (vs : List Value) (w : World) (off : Nat), (∀ k, k ≠ S → (put w S off vs).heap[k]? = w.heap[k]?) ∧ (put w S off vs).heap.size = w.heap.size ∧ (∀ a, (put w S off vs).frozen? a = w.frozen? a) ∧
    (put w S off vs).os = w.os ∧ (put w S off vs).tape = w.tape ∧ (put w S off vs).output = w.output
  | [], w, off => ⟨fun _ _ => rfl, rfl, fun _ => rfl, rfl, rfl, rfl⟩
  | v :: vs, w, off => by
    obtain ⟨h1, h2, h3, h4, h5, h6⟩ := put_heap S vs (w.setCell ⟨S, off, none⟩ v) (off + 1)
    exact ⟨fun k hk => (h1 k hk).trans (Below.heap_setCell _ _ _ _ hk), h2.trans (by simp), fun a => (h3 a).trans (World.frozen?_setCell _ _ _ _), h4, h5, h6⟩

theorem put_cell (S : Nat) : ∀ (vs : List Value) (w : World) (off : Nat), (∀ j, j < vs.length → ∃ u, w.cell? ⟨S, off + j, none⟩ = some u) → ∀ o, (put w S off vs).cell? ⟨S, o, none⟩ = if off ≤ o ∧ o < off + vs.length then vs[o - off]? else w.cell? ⟨S, o, none⟩
  | [], w, off, _, o => by rw [if_neg (by simp only [List.length_nil]; omega)]; rfl
  | v :: vs, w, off, h, o => by
    have hu : ∀ j, j < vs.length → ∃ u, (w.setCell ⟨S, off, none⟩ v).cell? ⟨S, off + 1 + j, none⟩ = some u := fun j hj => by
      rw [cset_other (fun e => by have h := congrArg Addr.off e; simp only at h; omega)]
      have := h (j + 1) (by simp; omega)
      rw [show off + 1 + j = off + (j + 1) by omega]; exact this
    have ih := put_cell S vs (w.setCell ⟨S, off, none⟩ v) (off + 1) hu o
    show (put (w.setCell ⟨S, off, none⟩ v) S (off + 1) vs).cell? ⟨S, o, none⟩ = _
    rw [ih]
    by_cases e : o = off
    · subst e
      obtain ⟨u, hu0⟩ := h 0 (by simp)
      rw [if_neg (by omega), if_pos (by simp), Nat.sub_self]
      exact cset_same hu0
    · by_cases e2 : off + 1 ≤ o ∧ o < off + 1 + vs.length
      · rw [if_pos e2, if_pos (by simp; omega), show o - off = (o - (off + 1)) + 1 by omega]; rfl
      · rw [if_neg e2, if_neg (by simp; omega)]
        exact cset_other (fun e3 => e (by have h := congrArg Addr.off e3; simp only at h; omega))

theorem RepAt.slot_put {R S M : Nat} {s : RS} {w : World} (h : RepAt R S M s w) (hS0 : S ≠ 0) (n : Nat) (hn : n < s.m) (x : Sl) (vs : List Value) (hl : vs.length = 14) (hv : ∀ j, j < 14 → vs[j]? = some (scell x j)) :
    RepAt R S M (setSl s n x) (put w S (n * 14) vs) ∧ ∀ B, Kq B S M w (put w S (n * 14) vs) := by
  obtain ⟨h1, h2, h3, h4, h5, h6⟩ := put_heap S vs w (n * 14)
  refine ⟨h.moved hS0 h1 h2 rfl rfl rfl rfl rfl rfl ?_ (fun o => (h3 _).trans (h.sf o)), fun B => ⟨h4, h5, h6, Nat.le_of_eq h2.symm, fun k _ hk _ => h1 k hk⟩⟩
  intro i hi j hj
  rw [put_cell S vs w (n * 14) (fun k hk => ⟨_, h.sc n hn k (by omega)⟩), hl]
  by_cases e : i = n
  · subst e
    rw [if_pos (by omega), show i * 14 + j - i * 14 = j by omega, hv j hj]
    simp [setSl]
  · rw [if_neg (by omega)]
    simp only [setSl, if_neg e]
    exact h.sc i hi j hj

def endS (x : Sl) : Sl := ⟨0, x.life, -1, 9223372036854775807, 0, wrap64 (x.ends + 1), fun _ => 0⟩

theorem RepAt.drewN {R S M : Nat} {s : RS} {w : World} (h : RepAt R S M s w) (k : Nat) : RepAt R S M s (w.drewN k) := h.below (below_drewN (Below.refl _ _) k)
theorem Kq.drewN (B S M : Nat) (w : World) (k : Nat) : Kq B S M w (w.drewN k) := ⟨rfl, rfl, rfl, Nat.le_refl _, fun _ _ _ _ => rfl⟩

set_option maxHeartbeats 4000000 in
set_option maxRecDepth 100000 in
theorem end_any {R S M : Nat} {s : RS} (hS0 : S ≠ 0) (n : Nat) (hn : n < s.m) (w : World) (h : RepAt R S M s w) :
    Calls Tryd.prog 26 #[.pointer (some ⟨S, n * 14, none⟩)] w fun e w' => e = .returned (.tuple #[]) ∧ RepAt R S M (setSl s n (endS (s.sl n))) w' ∧ ∀ B, Kq B S M w w' := by
  have hbd : Below w.heap.size w w.drew := (Below.refl _ _).drew
  have hd := h.below hbd
  have HR := Lib.hid hd
  have HK := Lib.hid (show ∀ B, Kq B S M w w.drew from fun B => ⟨rfl, rfl, rfl, Nat.le_refl _, fun _ _ _ _ => rfl⟩)
  obtain ⟨d0, d1, d2, d3, d4, d5⟩ := hd.slot hn
  have d6 := hd.sc n hn 6 (by decide)
  have d7 := hd.sc n hn 7 (by decide)
  have d8 := hd.sc n hn 8 (by decide)
  have d9 := hd.sc n hn 9 (by decide)
  have d10 := hd.sc n hn 10 (by decide)
  have d11 := hd.sc n hn 11 (by decide)
  have d12 := hd.sc n hn 12 (by decide)
  have d13 := hd.sc n hn 13 (by decide)
  obtain ⟨g0, g1, g2, g3, g4, g5⟩ := h.slot hn
  have sf := hd.sf
  clear h hbd hd
  go_enter Tryd.func26, Tryd.ntmps26
  go_wp2_with fail
  go_still_tail 14, (by kernel_rfl)
  all_goals
    change wpList _ _ _ _ _ w.drew
    generalize w.drew = w2 at *
    go_wp2
    go_returns
    have hp := HR.out.slot_put hS0 n hn (endS (s.sl n)) [.int .i64 0, .int .i64 (s.sl n).life, .int .i64 (-1), .int .i64 9223372036854775807, .int .i64 0, .int .i64 (wrap64 ((s.sl n).ends + 1)),
      .int .u64 0, .int .u64 0, .int .u64 0, .int .u64 0, .int .u64 0, .int .u64 0, .int .u64 0, .int .u64 0] rfl (fun j hj => by
        match j, hj with
        | 0, _ | 1, _ | 2, _ | 3, _ | 4, _ | 5, _ | 6, _ | 7, _ | 8, _ | 9, _ | 10, _ | 11, _ | 12, _ | 13, _ => rfl
        | j + 14, hj => omega)
    exact ⟨rfl, hp.1, fun B => (HK.out B).trans (hp.2 B)⟩
end Go.Proofs.YtejfcmgnacimgaaDoor
