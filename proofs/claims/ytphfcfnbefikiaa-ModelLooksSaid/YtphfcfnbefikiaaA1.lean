/- Slices whose cells are known, wherever they begin in their block; what a step may turn. -/
import Derived.Test.YtphfcfnbefikiaaRows
import Derived.WalkKit
import Derived.WalkSpells
import Derived.WalkLawsBesides
import Derived.Lib.Hide
import Derived.Lib.MinMax
import Derived.Deep.RegionWith
import Derived.Deep.RegionHeld3
import Derived.Deep.AppendSrc
import Derived.Laws.OwnMore
import Derived.Laws.NewBlocks
import Derived.Lib.JoinLaws
import Derived.Handy
namespace Go.Proofs.Ytphfcfnbefikiaa
open Go.RowKit
set_option linter.unusedVariables false
set_option linter.unusedSimpArgs false

theorem ret_bool {a b : Bool} (h : a = b) : Ending.returned (.bool a) = .returned (.bool b) := by rw [h]
theorem ret_int {k : IntKind} {a b : Int} (h : a = b) : Ending.returned (.int k a) = .returned (.int k b) := by rw [h]

theorem keep {w w' : World} {p : Addr} {v : Value} (hb : Below w.heap.size w w') (h : w.cell? p = some v) : w'.cell? p = some v := (hb.cell (World.block_lt_of_cell? _ _ h)).trans h
theorem below_drewN (B : Nat) (w : World) (n : Nat) : Below B w (w.drewN n) := ⟨rfl, rfl, rfl, Nat.le_refl _, fun _ _ => rfl⟩

/-- All blocks are as they were but block h and block r; there may be new ones. -/
structure Ch (h r : Option Nat) (w w' : World) : Prop where
  os : w'.os = w.os
  tape : w'.tape = w.tape
  output : w'.output = w.output
  size : w.heap.size ≤ w'.heap.size
  block : ∀ k, k < w.heap.size → some k ≠ h → some k ≠ r → w'.heap[k]? = w.heap[k]?

section
variable {h r : Option Nat} {a b c w w' : World}
theorem Ch.refl (h r : Option Nat) (w : World) : Ch h r w w := ⟨rfl, rfl, rfl, Nat.le_refl _, fun _ _ _ _ => rfl⟩
theorem Ch.of_below (hb : Below w.heap.size w w') : Ch h r w w' := ⟨hb.os, hb.tape, hb.output, hb.size, fun k hk _ _ => hb.block k hk⟩
theorem Ch.of_grown (hg : w.grownBy w' r) : Ch h r w w' := ⟨hg.os, hg.tape, hg.output, hg.size, fun k hk _ hn => hg.block k hk hn⟩
theorem Ch.below {B : Nat} (hc : Ch h r w w') (hB : B ≤ w.heap.size) (hh : ∀ k, h = some k → B ≤ k) (hr : ∀ k, r = some k → B ≤ k) : Below B w w' :=
  ⟨hc.os, hc.tape, hc.output, hc.size, fun k hk => hc.block k (by omega) (fun e => by have := hh k e.symm; omega) (fun e => by have := hr k e.symm; omega)⟩
theorem Ch.trans {r2 : Option Nat} (h1 : Ch h r a b) (h2 : Ch h r2 b c) (hr : ∀ k, r2 = some k → r = some k ∨ a.heap.size ≤ k) : Ch h r a c :=
  ⟨h2.os.trans h1.os, h2.tape.trans h1.tape, h2.output.trans h1.output, Nat.le_trans h1.size h2.size, fun k hk hn hm => by
    rw [h2.block k (Nat.lt_of_lt_of_le hk h1.size) hn (fun e => by
      rcases hr k e.symm with e' | e'
      · exact hm e'.symm
      · omega)]
    exact h1.block k hk hn hm⟩
theorem Ch.cell (hc : Ch h r w w') {p : Addr} (h1 : p.block < w.heap.size) (h2 : some p.block ≠ h) (h3 : some p.block ≠ r) : w'.cell? p = w.cell? p := World.cell?_of_block (w := w) (hc.block _ h1 h2 h3)
theorem Ch.frozen (hc : Ch h r w w') {p : Addr} (h1 : p.block < w.heap.size) (h2 : some p.block ≠ h) (h3 : some p.block ≠ r) : w'.frozen? p = w.frozen? p := World.frozen?_of_block (w := w) (hc.block _ h1 h2 h3)
end

/-- A run of stores, seen in its block. -/
theorem heap_setCells {e : TypeId} {fz : Nat × Nat} (b : Nat) : ∀ (vs : List Value) (o : Nat) (w : World) (cur : Array Value), w.heap[b]? = some (.cells cur e fz) →
    ∃ cur' : Array Value, (w.setCells b o vs).heap[b]? = some (.cells cur' e fz) ∧ cur'.size = cur.size ∧ ∀ j, cur'[j]? = if o ≤ j ∧ j < o + vs.length ∧ j < cur.size then vs[j - o]? else cur[j]?
  | [], o, w, cur, h => ⟨cur, h, rfl, fun j => by rw [if_neg (by simp only [List.length_nil]; omega)]⟩
  | v :: vs, o, w, cur, h => by
    have h1 : (w.setCell ⟨b, o, none⟩ v).heap[b]? = some (.cells (cur.setIfInBounds o v) e fz) := by
      have hb := (Array.getElem?_eq_some_iff.1 h).1
      simp [World.setCell, Array.getElem?_modify, h]
    obtain ⟨cur', h2, h3, h4⟩ := heap_setCells b vs (o + 1) _ _ h1
    refine ⟨cur', h2, by rw [h3, Array.size_setIfInBounds], fun j => ?_⟩
    rw [h4 j, Array.size_setIfInBounds]
    by_cases hj : o + 1 ≤ j ∧ j < o + 1 + vs.length ∧ j < cur.size
    · rw [if_pos hj, if_pos (by simp only [List.length_cons]; omega), show j - o = (j - (o + 1)) + 1 by omega, List.getElem?_cons_succ]
    · rw [if_neg hj]
      by_cases he : j = o
      · subst he
        by_cases hs : j < cur.size
        · rw [if_pos (by simp only [List.length_cons]; omega), Nat.sub_self, Array.getElem?_setIfInBounds_self_of_lt hs]; rfl
        · rw [if_neg (by omega), Array.getElem?_eq_none (by rw [Array.size_setIfInBounds]; omega), Array.getElem?_eq_none (by omega)]
      · rw [Array.getElem?_setIfInBounds_ne (by omega), if_neg (by simp only [List.length_cons]; omega)]

theorem size_setCells (b : Nat) : ∀ (vs : List Value) (o : Nat) (w : World), (w.setCells b o vs).heap.size = w.heap.size
  | [], _, _ => rfl
  | v :: vs, o, w => by rw [World.setCells, size_setCells b vs]; simp

theorem grown_setCells (b : Nat) (vs : List Value) (o : Nat) (w : World) : w.grownBy (w.setCells b o vs) (some b) := by
  induction vs generalizing o w with
  | nil => exact ⟨rfl, rfl, rfl, Nat.le_refl _, fun _ _ _ => rfl⟩
  | cons v vs ih =>
    have h := ih (o + 1) (w.setCell ⟨b, o, none⟩ v)
    refine ⟨h.os, h.tape, h.output, by rw [size_setCells]; exact Nat.le_refl _, fun k hk hn => ?_⟩
    show (((w.setCell ⟨b, o, none⟩ v).setCells b (o + 1) vs)).heap[k]? = _
    rw [h.block k (by simpa using hk) hn, Below.heap_setCell _ _ _ _ (fun e => hn (by rw [e]))]

/-- v is a slice of n elements of k cells each, of type e; their cells are xs. -/
def Sl (w : World) (e : TypeId) (k : Nat) (v : Value) (n : Nat) (xs : List Value) : Prop :=
  xs.length = n * k ∧ (∀ u ∈ xs, u.oneCell' = true) ∧
  ((v = .slice none 0 0 ∧ n = 0) ∨
   ∃ (b off cap : Nat) (cur : Array Value), v = .slice (some ⟨b, off, none⟩) n cap ∧ w.heap[b]? = some (.cells cur e (0, 0)) ∧ n ≤ cap ∧ cap ≤ maxLen ∧ off + cap * k ≤ cur.size ∧ ∀ j, j < n * k → cur[off + j]? = xs[j]?)

/-- Where v' lies: where v lay, or in a new block. -/
def Mv (w : World) (v v' : Value) : Prop := ∀ k, v'.ownBlock = some k → v.ownBlock = some k ∨ w.heap.size ≤ k

section
variable {w w' : World} {e : TypeId} {k n : Nat} {v : Value} {xs : List Value}

theorem Sl.nil (w : World) (e : TypeId) (k : Nat) : Sl w e k (.slice none 0 0) 0 [] := ⟨by simp, by simp, .inl ⟨rfl, rfl⟩⟩

theorem Sl.lt (h : Sl w e k v n xs) {b : Nat} (hb : v.ownBlock = some b) : b < w.heap.size := by
  rcases h.2.2 with ⟨rfl, _⟩ | ⟨b', off, cap, cur, rfl, hh, _⟩
  · cases hb
  · simp only [Value.ownBlock, Option.some.injEq] at hb
    subst hb
    exact (Array.getElem?_eq_some_iff.1 hh).1

theorem Sl.kept (h : Sl w e k v n xs) (hk : ∀ b, v.ownBlock = some b → w'.heap[b]? = w.heap[b]?) : Sl w' e k v n xs := by
  refine ⟨h.1, h.2.1, ?_⟩
  rcases h.2.2 with h0 | ⟨b, off, cap, cur, rfl, hh, r⟩
  · exact .inl h0
  · exact .inr ⟨b, off, cap, cur, rfl, by rw [hk b rfl]; exact hh, r⟩

theorem Sl.below (h : Sl w e k v n xs) (hb : Below w.heap.size w w') : Sl w' e k v n xs := h.kept fun b e => hb.block b (h.lt e)
theorem Sl.ch {hh r : Option Nat} (h : Sl w e k v n xs) (hc : Ch hh r w w') (h1 : v.ownBlock ≠ hh ∨ v.ownBlock = none) (h2 : v.ownBlock ≠ r ∨ v.ownBlock = none) : Sl w' e k v n xs :=
  h.kept fun b e => hc.block b (h.lt e) (by rw [← e]; rcases h1 with h1 | h1; exact h1; rw [h1] at e; cases e) (by rw [← e]; rcases h2 with h2 | h2; exact h2; rw [h2] at e; cases e)

theorem Sl.form (h : Sl w e k v n xs) : ∃ ad cap, v = .slice ad n cap ∧ n ≤ cap := by
  rcases h.2.2 with ⟨rfl, rfl⟩ | ⟨b, off, cap, cur, rfl, _, h1, _⟩
  · exact ⟨_, _, rfl, Nat.le_refl _⟩
  · exact ⟨_, _, rfl, h1⟩

/-- Of a slice that has elements: where it lies. -/
theorem Sl.at (h : Sl w e k v n xs) (hn : 0 < n) : ∃ b off cap, v = .slice (some ⟨b, off, none⟩) n cap ∧ b < w.heap.size ∧ n ≤ cap ∧ cap ≤ maxLen ∧ (∀ j, w.frozen? ⟨b, j, none⟩ = false) ∧ (∀ j, j < n * k → w.cell? ⟨b, off + j, none⟩ = xs[j]?) ∧ (∀ j, j < cap * k → (w.cell? ⟨b, off + j, none⟩).isSome = true) ∧ ∃ c, w.shape? b = some (e, c) ∧ off + cap * k ≤ c := by
  rcases h.2.2 with ⟨rfl, rfl⟩ | ⟨b, off, cap, cur, rfl, hh, h1, h2, h3, h4⟩
  · omega
  · refine ⟨b, off, cap, rfl, (Array.getElem?_eq_some_iff.1 hh).1, h1, h2, fun j => ?_, fun j hj => ?_, fun j hj => ?_, cur.size, ?_, h3⟩
    · simp [World.frozen?, hh]
    · simp only [World.cell?, hh]
      exact h4 j hj
    · simp only [World.cell?, hh]
      show (cur[off + j]?).isSome = true
      rw [Array.getElem?_eq_getElem (by omega)]; rfl
    · simp [World.shape?, hh]

theorem firstCells_sl (P : Program) (h : Sl w e k v n xs) : (Builtin.firstCells k n v).run P w = .ok xs.toArray w := by
  rcases h.2.2 with ⟨rfl, rfl⟩ | ⟨b, off, cap, cur, rfl, hh, h1, h2, h3, h4⟩
  · have : xs = [] := by
      have := h.1
      simpa using this
    subst this
    exact run_firstCells_none w k 0 0 0
  · refine run_firstCells_some w k n ⟨b, off, none⟩ n cap xs h.1 (fun j u hj => ?_)
    have hlt := (List.getElem?_eq_some_iff.1 hj).1
    rw [Addr.add_lit]
    simp only [World.cell?, hh]
    show cur[off + j]? = some u
    rw [h4 j (by rw [← h.1]; exact hlt)]; exact hj

/-- append: whatever is appended, wherever the slice lies. -/
theorem Sl.append {P : Program} (h : Sl w e k v n xs) (t tx ty : TypeId) (i : TypeInfo) (z : Value) (bytes : Nat) (ht : P.underlying t = some (.slice e)) (hi : P.info? e = some i) (hz : i.zero = some z) (hs : i.size = k) (hb : i.bytes = bytes) (hzc : z.cells.size = k) 
    (x : Value) (m : Nat) (news : List Value) (hsrc : Src P k tx x m news w) (h63 : n + m ≤ maxLen) (hbig : (n + m) * bytes ≤ 140737488355328) :
    ∃ v' w', (Builtin.append_ #[t, tx] ty #[v, x]).run P w = .ok v' w' ∧ Sl w' e k v' (n + m) (xs ++ news) ∧ w.grownBy w' v.ownBlock ∧ Mv w v v' := by
  subst hs
  obtain ⟨ad, cap, hv, hnc⟩ := h.form
  have hl := hsrc.newsLen
  have hone : ∀ u ∈ xs ++ news, u.oneCell' = true := fun u hu => by
    rcases List.mem_append.1 hu with hu | hu
    · exact h.2.1 u hu
    · exact hsrc.one u hu
  by_cases hroom : n + m ≤ cap
  · rcases h.2.2 with ⟨rfl, rfl⟩ | ⟨b, off, cap', cur, hv', hh, h1, h2, h3, h4⟩
    · -- the nil slice, and nothing comes
      simp only [Value.slice.injEq] at hv
      obtain ⟨rfl, -, rfl⟩ := hv
      obtain rfl : m = 0 := by omega
      obtain rfl : news = [] := by simpa using hl
      refine ⟨.slice none 0 0, w, ?_, ⟨by simpa using h.1, hone, .inl ⟨rfl, rfl⟩⟩, ⟨rfl, rfl, rfl, Nat.le_refl _, fun _ _ _ => rfl⟩, fun k hk => .inl hk⟩
      rcases hsrc.kind with ⟨e', hk⟩ | hk <;> simp [Builtin.append_, run_underlying ht, run_underlying hk, sizeOf, typeInfo, hi, hsrc.len, hsrc.cells, storeCells]
    · subst hv
      simp only [Value.slice.injEq] at hv'
      obtain ⟨rfl, -, rfl⟩ := hv'
      have hmul : (n + m) * i.size ≤ cap * i.size := Nat.mul_le_mul_right _ hroom
      rw [Nat.add_mul] at hmul
      have hrun := run_append_room_src (P := P) w t tx ty e i ht hi b off n cap x m news hsrc hroom
        (fun j hj => by simp only [World.cell?, hh]; show (cur[off + n * i.size + j]?).isSome = true; rw [Array.getElem?_eq_getElem (by omega)]; rfl) (fun j hj => by simp [World.frozen?, hh])
      obtain ⟨cur', g1, g2, g3⟩ := heap_setCells b news (off + n * i.size) w cur hh
      refine ⟨_, _, hrun, ⟨by rw [List.length_append, h.1, hl, Nat.add_mul], hone, .inr ⟨b, off, cap, cur', rfl, g1, hroom, h2, by rw [g2]; exact h3, fun j hj => ?_⟩⟩, grown_setCells b news _ w, fun k hk => .inl hk⟩
      rw [Nat.add_mul] at hj
      rw [g3]
      by_cases hjn : j < n * i.size
      · rw [if_neg (by omega), List.getElem?_append_left (by rw [h.1]; exact hjn)]
        exact h4 j hjn
      · rw [if_pos (by omega), List.getElem?_append_right (by rw [h.1]; omega), h.1]
        congr 1; omega
  · have hhold : (Builtin.firstCells i.size n (.slice ad n cap)).run P w.drew = .ok xs.toArray w.drew := by
      rw [← hv]
      exact firstCells_sl P (h.kept (w' := w.drew) fun _ _ => rfl)
    have hrun := run_append_grow_src (P := P) w t tx ty e i z ht hi hz ad n cap xs hhold x m news hsrc (by omega) (by unfold maxLen at h63; omega) (by rw [hb]; exact growslice_fits (by omega) hbig)
    rw [hv]
    have hge : n + m ≤ grownCap w (n + m) cap e := grownCap_ge w _ _ _
    refine ⟨_, _, hrun, ⟨by rw [List.length_append, h.1, hl, Nat.add_mul], hone, .inr ⟨w.heap.size, 0, grownCap w (n + m) cap e, _, rfl, heap_alloc_new w.drew _, hge, grownCap_le_maxLen w _ _ _ h63, ?_, fun j hj => ?_⟩⟩,
      ⟨rfl, rfl, rfl, by simp, fun k hk _ => Below.heap_alloc w.drew _ k hk⟩, fun k hk => ?_⟩
    · simp only [Array.size_append, List.size_toArray, List.length_append, h.1, hl, size_zeroCells, hzc, Nat.zero_add]
      rw [← Nat.add_mul, ← Nat.add_mul]
      exact Nat.mul_le_mul_right _ (by omega)
    · rw [Nat.zero_add, Array.getElem?_append_left (by simp only [List.size_toArray, List.length_append, h.1, hl, ← Nat.add_mul]; exact hj), List.getElem?_toArray]
    · simp only [Value.ownBlock, Option.some.injEq] at hk
      right; omega
end
end Go.Proofs.Ytphfcfnbefikiaa
