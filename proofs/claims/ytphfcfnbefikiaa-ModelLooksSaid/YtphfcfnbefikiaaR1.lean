/- The document's object in memory; find, first, last, out. -/
import Derived.Test.YtphfcfnbefikiaaA6
namespace Go.Proofs.Ytphfcfnbefikiaa
open Go.RowKit
set_option linter.unusedVariables false
set_option linter.unusedSimpArgs false

def cells3 : List Pu → List Value
  | [] => []
  | p :: r => .int .u64 p.1.1 :: .int .u64 p.1.2 :: .bool p.2 :: cells3 r
theorem cells3_len (L : List Pu) : (cells3 L).length = L.length * 3 := by
  induction L with
  | nil => rfl
  | cons t L ih => simp [cells3, ih]; omega
theorem cells3_append (A B : List Pu) : cells3 (A ++ B) = cells3 A ++ cells3 B := by
  induction A with
  | nil => rfl
  | cons t A ih => simp [cells3, ih]
theorem cells3_one (L : List Pu) : ∀ u ∈ cells3 L, u.oneCell' = true := by
  induction L with
  | nil => intro u h; cases h
  | cons t L ih =>
    intro u h
    simp only [cells3, List.mem_cons] at h
    rcases h with rfl | rfl | rfl | h
    · rfl
    · rfl
    · rfl
    · exact ih u h
theorem cells3_at {L : List Pu} {i : Nat} {p : Pu} (h : L[i]? = some p) : (cells3 L)[i * 3]? = some (.int .u64 p.1.1) ∧ (cells3 L)[i * 3 + 1]? = some (.int .u64 p.1.2) ∧ (cells3 L)[i * 3 + 2]? = some (.bool p.2) := by
  induction L generalizing i with
  | nil => simp at h
  | cons a L ih =>
    cases i with
    | zero => simp at h; subst h; exact ⟨rfl, rfl, rfl⟩
    | succ i =>
      have := ih (i := i) (by simpa using h)
      rw [show (i + 1) * 3 = i * 3 + 1 + 1 + 1 by omega]
      simp only [cells3, List.getElem?_cons_succ]
      exact this
theorem cells3_set {L : List Pu} {i : Nat} {p : Pu} (h : L[i]? = some p) (g : Bool) : cells3 (L.set i (p.1, g)) = (cells3 L).set (i * 3 + 2) (.bool g) := by
  induction L generalizing i with
  | nil => simp at h
  | cons a L ih =>
    cases i with
    | zero => simp at h; subst h; rfl
    | succ i =>
      rw [show (i + 1) * 3 + 2 = (i * 3 + 2) + 1 + 1 + 1 by omega]
      simp only [List.set_cons_succ, cells3]
      rw [ih (by simpa using h)]

/-- The document's object of client c, with these puts: block Y, the slice u. -/
structure Re (w : World) (Y : Nat) (u : Value) (c : Int) (Q : List Pu) : Prop where
  c0 : w.cell? ⟨Y, 0, none⟩ = some (.int .i64 c)
  hv : w.cell? ⟨Y, 1, none⟩ = some u
  fz : w.frozen? ⟨Y, 1, none⟩ = false
  sl : Sl w 77 3 u Q.length (cells3 Q)
  ny : u.ownBlock ≠ some Y

section
variable {w w' : World} {Y : Nat} {u : Value} {c : Int} {Q : List Pu}
theorem Re.ltY (h : Re w Y u c Q) : Y < w.heap.size := World.block_lt_of_cell? _ _ h.c0
theorem Re.kept (h : Re w Y u c Q) (hY : w'.heap[Y]? = w.heap[Y]?) (hb : ∀ b, u.ownBlock = some b → w'.heap[b]? = w.heap[b]?) : Re w' Y u c Q :=
  ⟨(World.cell?_of_block (w := w) (a := ⟨Y, 0, none⟩) hY).trans h.c0, (World.cell?_of_block (w := w) (a := ⟨Y, 1, none⟩) hY).trans h.hv, (World.frozen?_of_block (w := w) (a := ⟨Y, 1, none⟩) hY).trans h.fz, h.sl.kept hb, h.ny⟩
theorem Re.below (h : Re w Y u c Q) (hb : Below w.heap.size w w') : Re w' Y u c Q := h.kept (hb.block _ h.ltY) fun b e => hb.block b (h.sl.lt e)
theorem Re.ch {r1 r2 : Option Nat} (h : Re w Y u c Q) (hc : Ch r1 r2 w w') (x1 : r1 ≠ some Y) (x2 : r2 ≠ some Y) (z1 : ∀ b, u.ownBlock = some b → r1 ≠ some b) (z2 : ∀ b, u.ownBlock = some b → r2 ≠ some b) : Re w' Y u c Q :=
  h.kept (hc.block _ h.ltY (Ne.symm x1) (Ne.symm x2)) fun b e => hc.block b (h.sl.lt e) (Ne.symm (z1 b e)) (Ne.symm (z2 b e))
end

/-- what lies at a put -/
theorem put_cells {w : World} {n cap : Nat} {ad : Option Addr} {Q : List Pu} (h : Sl w 77 3 (.slice ad n cap) n (cells3 Q)) (hQ : Q.length = n) {i : Nat} {p : Pu} (hp : Q[i]? = some p) :
    ∃ b off, ad = some ⟨b, off, none⟩ ∧ b < w.heap.size ∧ w.cell? ⟨b, off + i * 3, none⟩ = some (.int .u64 p.1.1) ∧ w.cell? ⟨b, off + i * 3 + 1, none⟩ = some (.int .u64 p.1.2) ∧ w.cell? ⟨b, off + i * 3 + 2, none⟩ = some (.bool p.2) ∧ w.frozen? ⟨b, off + i * 3 + 2, none⟩ = false := by
  have hi := (List.getElem?_eq_some_iff.1 hp).1
  obtain ⟨b, off, cap', hv, hbl, _, _, hf, hc, _⟩ := h.at (by omega)
  simp only [Value.slice.injEq, true_and] at hv
  obtain ⟨rfl, rfl⟩ := hv
  obtain ⟨x1, x2, x3⟩ := cells3_at hp
  exact ⟨b, off, rfl, hbl, (hc _ (by omega)).trans x1, (hc (i * 3 + 1) (by omega)).trans x2, (hc (i * 3 + 2) (by omega)).trans x3, hf _⟩

theorem drop_at {Q : List Pu} {i : Nat} {p : Pu} (h : Q[i]? = some p) : Q.drop i = p :: Q.drop (i + 1) := by
  obtain ⟨hi, he⟩ := List.getElem?_eq_some_iff.1 h
  rw [← he, List.getElem_cons_drop]

set_option maxHeartbeats 4000000 in
theorem rfind_any {Y : Nat} {u : Value} {c : Int} {Q : List Pu} (k : Int) (w : World) (h : Re w Y u c Q) (hn : Q.length ≤ 1000) :
    Calls Try.prog 40 #[P Y, u64 k] w fun e w' => e = .returned (i64 (findR k Q 0)) ∧ w = w' := by
  obtain ⟨ad, cap, rfl, _⟩ := h.sl.form
  obtain ⟨n, hQ⟩ : ∃ n, Q.length = n := ⟨_, rfl⟩
  have hv := h.hv
  have hsl := h.sl
  rw [hQ] at hn hv hsl
  have HSL := Lib.hid hsl
  have HQ := Lib.hid hQ
  clear h hsl hQ
  go_enter Try.func40, Try.ntmps40
  go_wp2_with fail
  go_loopw [5] (fun a wr => ∃ i : Nat, a = i64 i ∧ wr = w ∧ i ≤ n ∧ findR k Q 0 = findR k (Q.drop i) i) (fun a _ => n - (intOf a).toNat)
  case atStart => exact ⟨0, rfl, rfl, by omega, rfl⟩
  case round =>
    obtain ⟨i, rfl, rfl, hi, hf⟩ := hrel
    have HF := Lib.hid hf
    clear hf
    by_cases hlt : i < n
    · obtain ⟨p, hp⟩ : ∃ p, Q[i]? = some p := ⟨_, List.getElem?_eq_getElem (by rw [HQ.out]; exact hlt)⟩
      have hd := drop_at hp
      obtain ⟨b, off, rfl, hbl, x1, x2, x3, x4⟩ := put_cells HSL.out HQ.out hp
      obtain ⟨⟨pk, px⟩, pg⟩ := p
      have hlt' : (i : Int) < (n : Int) := by omega
      have HD := Lib.hid hd
      clear hp hd
      cases pg with
      | true =>
        have HN := Lib.hid (show findR k Q 0 = findR k (Q.drop (i + 1)) (i + 1) by rw [HF.out, HD.out]; rfl)
        go_wp2
        go_roundw
        case rel => exact ⟨i + 1, by first | rfl | simp, by first | rfl | trivial, by omega, HN.out⟩
        case measure => simp [intOf]; omega
      | false =>
        by_cases hk : pk = k
        · have HN := Lib.hid (show findR k Q 0 = (i : Int) by rw [HF.out, HD.out, findR, if_pos (by simp [hk])])
          have hk' : (pk == k) = true := by simp [hk]
          clear hk
          go_wp2
          go_returns
          exact ⟨by rw [HN.out]; rfl, rfl⟩
        · have HN := Lib.hid (show findR k Q 0 = findR k (Q.drop (i + 1)) (i + 1) by rw [HF.out, HD.out, findR, if_neg (by simp [hk])])
          have hk' : (pk == k) = false := by simp [hk]
          clear hk
          go_wp2
          go_roundw
          case rel => exact ⟨i + 1, by first | rfl | simp, by first | rfl | trivial, by omega, HN.out⟩
          case measure => simp [intOf]; omega
    · have hge : (n : Int) ≤ (i : Int) := by omega
      have HN := Lib.hid (show findR k Q 0 = -1 by rw [HF.out, List.drop_of_length_le (by rw [HQ.out]; omega)]; rfl)
      go_wp2
      go_returns
      exact ⟨by rw [HN.out]; rfl, rfl⟩

set_option maxHeartbeats 4000000 in
theorem rfirst_any {Y : Nat} {u : Value} {c : Int} {Q : List Pu} (w : World) (h : Re w Y u c Q) (hn : Q.length ≤ 1000) :
    Calls Try.prog 39 #[P Y] w fun e w' => e = .returned (i64 (firstR Q 0)) ∧ w = w' := by
  obtain ⟨ad, cap, rfl, _⟩ := h.sl.form
  obtain ⟨n, hQ⟩ : ∃ n, Q.length = n := ⟨_, rfl⟩
  have hv := h.hv
  have hsl := h.sl
  rw [hQ] at hn hv hsl
  have HSL := Lib.hid hsl
  have HQ := Lib.hid hQ
  clear h hsl hQ
  go_enter Try.func39, Try.ntmps39
  go_wp2_with fail
  go_loopw [3] (fun a wr => ∃ i : Nat, a = i64 i ∧ wr = w ∧ i ≤ n ∧ firstR Q 0 = firstR (Q.drop i) i) (fun a _ => n - (intOf a).toNat)
  case atStart => exact ⟨0, rfl, rfl, by omega, rfl⟩
  case round =>
    obtain ⟨i, rfl, rfl, hi, hf⟩ := hrel
    have HF := Lib.hid hf
    clear hf
    by_cases hlt : i < n
    · obtain ⟨p, hp⟩ : ∃ p, Q[i]? = some p := ⟨_, List.getElem?_eq_getElem (by rw [HQ.out]; exact hlt)⟩
      have hd := drop_at hp
      obtain ⟨b, off, rfl, hbl, x1, x2, x3, x4⟩ := put_cells HSL.out HQ.out hp
      obtain ⟨⟨pk, px⟩, pg⟩ := p
      have hlt' : (i : Int) < (n : Int) := by omega
      have HD := Lib.hid hd
      clear hp hd
      cases pg with
      | true =>
        have HN := Lib.hid (show firstR Q 0 = firstR (Q.drop (i + 1)) (i + 1) by rw [HF.out, HD.out]; rfl)
        go_wp2
        go_roundw
        case rel => exact ⟨i + 1, by first | rfl | simp, by first | rfl | trivial, by omega, HN.out⟩
        case measure => simp [intOf]; omega
      | false =>
        have HN := Lib.hid (show firstR Q 0 = (i : Int) by rw [HF.out, HD.out]; rfl)
        go_wp2
        go_returns
        exact ⟨by rw [HN.out]; rfl, rfl⟩
    · have hge : (n : Int) ≤ (i : Int) := by omega
      have HN := Lib.hid (show firstR Q 0 = -1 by rw [HF.out, List.drop_of_length_le (by rw [HQ.out]; omega)]; rfl)
      go_wp2
      go_returns
      exact ⟨by rw [HN.out]; rfl, rfl⟩

set_option maxHeartbeats 4000000 in
theorem rlast_any {Y : Nat} {u : Value} {c : Int} {Q : List Pu} (w : World) (h : Re w Y u c Q) (hn : Q.length ≤ 1000) :
    Calls Try.prog 38 #[P Y] w fun e w' => e = .returned (i64 (lastR Q Q.length)) ∧ w = w' := by
  obtain ⟨ad, cap, rfl, _⟩ := h.sl.form
  obtain ⟨n, hQ⟩ : ∃ n, Q.length = n := ⟨_, rfl⟩
  have hv := h.hv
  have hsl := h.sl
  rw [hQ] at hn hv hsl ⊢
  have HSL := Lib.hid hsl
  have HQ := Lib.hid hQ
  clear h hsl hQ
  go_enter Try.func38, Try.ntmps38
  go_wp2_with fail
  go_loopw [3] (fun a wr => ∃ m : Nat, a = i64 ((m : Int) - 1) ∧ wr = w ∧ m ≤ n ∧ lastR Q n = lastR Q m) (fun a _ => ((intOf a) + 1).toNat)
  case atStart => exact ⟨n, rfl, rfl, by omega, rfl⟩
  case round =>
    obtain ⟨m, rfl, rfl, hi, hf⟩ := hrel
    have HF := Lib.hid hf
    clear hf
    cases m with
    | zero =>
      have HN := Lib.hid (show lastR Q n = -1 by rw [HF.out]; rfl)
      go_wp2
      go_returns
      exact ⟨by rw [HN.out]; rfl, rfl⟩
    | succ i =>
      have hsub : ((i + 1 : Nat) : Int) - 1 = (i : Int) := by omega
      simp only [hsub]
      obtain ⟨p, hp⟩ : ∃ p, Q[i]? = some p := ⟨_, List.getElem?_eq_getElem (by rw [HQ.out]; omega)⟩
      obtain ⟨b, off, rfl, hbl, x1, x2, x3, x4⟩ := put_cells HSL.out HQ.out hp
      obtain ⟨⟨pk, px⟩, pg⟩ := p
      have hlt' : (i : Int) < (n : Int) := by omega
      have hlt : i < n := by omega
      have hge0 : (0 : Int) ≤ (i : Int) := by omega
      have HP := Lib.hid hp
      clear hp hsub
      cases pg with
      | true =>
        have HN := Lib.hid (show lastR Q n = lastR Q i by rw [HF.out, lastR, HP.out]; rfl)
        go_wp2
        go_roundw
        case rel => exact ⟨i, by first | rfl | simp, by first | rfl | trivial, by omega, HN.out⟩
        case measure => simp [intOf]
      | false =>
        have HN := Lib.hid (show lastR Q n = (i : Int) by rw [HF.out, lastR, HP.out]; rfl)
        go_wp2
        go_returns
        exact ⟨by rw [HN.out]; rfl, rfl⟩
end Go.Proofs.Ytphfcfnbefikiaa
