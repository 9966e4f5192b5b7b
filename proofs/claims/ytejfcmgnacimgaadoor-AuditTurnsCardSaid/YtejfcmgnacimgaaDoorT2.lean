/- The document's own free. -/
import Derived.Test.YtejfcmgnacimgaaDoorT1
namespace Go.Proofs.YtejfcmgnacimgaaDoor
open Go.RowKit
set_option linter.unusedVariables false
set_option linter.unusedSimpArgs false

theorem UAt.congr {W S G : Nat} {B a b : Int} {cs cg : Nat} {u v : U} {w : World} (h : UAt W S G B a b cs cg u w) (hs : ∀ k, k < 14 → u.s k = v.s k) (hg : ∀ j, j < 36 → u.g j = v.g j) (hn : u.n = v.n) : UAt W S G B a b cs cg v w :=
  ⟨h.wat, h.c4, h.c5, by rw [← hn]; exact h.c6, fun k hk => by rw [← hs k hk]; exact h.sc k hk, fun j hj => by rw [← hg j hj]; exact h.gc j hj, h.fW, h.fS, h.fG, h.nWS, h.nWG, h.nSG⟩

def freeS (s : Nat → Int) : Nat → Int := fun k => if k = 0 then 0 else if k = 2 then -1 else if k = 4 then -1 else if 6 ≤ k then 0 else s k
def clrG (g : Nat → Int) (m : Nat) : Nat → Int := fun j => if j < m then (if g j = 1 ∨ g j = -1 then 0 else g j) else g j
def freeU (u : U) : U := ⟨freeS u.s, clrG u.g 36, u.n⟩

section
variable {W S G : Nat} {B a b : Int} {cs cg : Nat} {u : U} {w : World}
theorem UAt.cells (h : UAt W S G B a b cs cg u w) : w.cell? ⟨S, 6, none⟩ = some (.int .u64 (u.s 6)) ∧ w.cell? ⟨S, 7, none⟩ = some (.int .u64 (u.s 7)) ∧ w.cell? ⟨S, 8, none⟩ = some (.int .u64 (u.s 8)) ∧ w.cell? ⟨S, 9, none⟩ = some (.int .u64 (u.s 9)) ∧
    w.cell? ⟨S, 10, none⟩ = some (.int .u64 (u.s 10)) ∧ w.cell? ⟨S, 11, none⟩ = some (.int .u64 (u.s 11)) ∧ w.cell? ⟨S, 12, none⟩ = some (.int .u64 (u.s 12)) ∧ w.cell? ⟨S, 13, none⟩ = some (.int .u64 (u.s 13)) :=
  ⟨h.sc 6 (by decide), h.sc 7 (by decide), h.sc 8 (by decide), h.sc 9 (by decide), h.sc 10 (by decide), h.sc 11 (by decide), h.sc 12 (by decide), h.sc 13 (by decide)⟩
theorem UAt.freed (h : UAt W S G B a b cs cg u w) : UAt W S G B a b cs cg ⟨freeS u.s, u.g, u.n⟩ (((((((((((w.setCell ⟨S, 0, none⟩ (.int .i64 0)).setCell ⟨S, 2, none⟩ (.int .i64 (-1))).setCell ⟨S, 4, none⟩ (.int .i64 (-1))).setCell ⟨S, 6, none⟩ (.int .u64 0)).setCell ⟨S, 7, none⟩ (.int .u64 0)).setCell ⟨S, 8, none⟩ (.int .u64 0)).setCell ⟨S, 9, none⟩ (.int .u64 0)).setCell ⟨S, 10, none⟩ (.int .u64 0)).setCell ⟨S, 11, none⟩ (.int .u64 0)).setCell ⟨S, 12, none⟩ (.int .u64 0)).setCell ⟨S, 13, none⟩ (.int .u64 0)) :=
  UAt.congr (show UAt W S G B a b cs cg _ _ from (((((((((((h.setS 0 (by decide) 0).setS 2 (by decide) (-1)).setS 4 (by decide) (-1)).setS 6 (by decide) 0).setS 7 (by decide) 0).setS 8 (by decide) 0).setS 9 (by decide) 0).setS 10 (by decide) 0).setS 11 (by decide) 0).setS 12 (by decide) 0).setS 13 (by decide) 0)) (fun k hk => by
    match k, hk with
    | 0, _ | 1, _ | 2, _ | 3, _ | 4, _ | 5, _ | 6, _ | 7, _ | 8, _ | 9, _ | 10, _ | 11, _ | 12, _ | 13, _ => rfl
    | k + 14, h => omega) (fun j hj => rfl) rfl
theorem clr_step (g : Nat → Int) (m : Nat) : (g m = 1 ∨ g m = -1) → upd (clrG g m) m 0 = clrG g (m + 1) := by
  intro h
  funext j
  unfold upd clrG
  by_cases e : j = m
  · subst e; rw [if_pos rfl, if_pos (by omega), if_pos h]
  · rw [if_neg e]
    by_cases e2 : j < m
    · rw [if_pos e2, if_pos (show j < m + 1 by omega)]
    · rw [if_neg e2, if_neg (by omega)]
theorem clr_skip (g : Nat → Int) (m : Nat) : ¬ (g m = 1 ∨ g m = -1) → clrG g m = clrG g (m + 1) := by
  intro h
  funext j
  unfold clrG
  by_cases e : j = m
  · subst e; rw [if_neg (by omega), if_pos (by omega), if_neg h]
  · by_cases e2 : j < m
    · rw [if_pos e2, if_pos (show j < m + 1 by omega)]
    · rw [if_neg e2, if_neg (by omega)]
theorem clr_at (g : Nat → Int) (m : Nat) : clrG g m m = g m := by unfold clrG; rw [if_neg (by omega)]
end

set_option maxHeartbeats 4000000 in
set_option maxRecDepth 100000 in
theorem free_u {W S G : Nat} {B a b : Int} {cs cg : Nat} {u : U} (w : World) (h : UAt W S G B a b cs cg u w) :
    Calls Tryd.prog 48 #[.pointer (some ⟨W, 0, none⟩), .int .i64 1] w fun e w' => e = .returned (.tuple #[]) ∧ UAt W S G B a b cs cg (freeU u) w' ∧ Kz W S G w w' := by
  have hU := h.freed
  have hK : Kz W S G w (((((((((((w.setCell ⟨S, 0, none⟩ (.int .i64 0)).setCell ⟨S, 2, none⟩ (.int .i64 (-1))).setCell ⟨S, 4, none⟩ (.int .i64 (-1))).setCell ⟨S, 6, none⟩ (.int .u64 0)).setCell ⟨S, 7, none⟩ (.int .u64 0)).setCell ⟨S, 8, none⟩ (.int .u64 0)).setCell ⟨S, 9, none⟩ (.int .u64 0)).setCell ⟨S, 10, none⟩ (.int .u64 0)).setCell ⟨S, 11, none⟩ (.int .u64 0)).setCell ⟨S, 12, none⟩ (.int .u64 0)).setCell ⟨S, 13, none⟩ (.int .u64 0)) := ((((((((((((Kz.refl W S G w).set (p := ⟨S, 0, none⟩) (Or.inr (Or.inl rfl)) _).set (p := ⟨S, 2, none⟩) (Or.inr (Or.inl rfl)) _).set (p := ⟨S, 4, none⟩) (Or.inr (Or.inl rfl)) _).set (p := ⟨S, 6, none⟩) (Or.inr (Or.inl rfl)) _).set (p := ⟨S, 7, none⟩) (Or.inr (Or.inl rfl)) _).set (p := ⟨S, 8, none⟩) (Or.inr (Or.inl rfl)) _).set (p := ⟨S, 9, none⟩) (Or.inr (Or.inl rfl)) _).set (p := ⟨S, 10, none⟩) (Or.inr (Or.inl rfl)) _).set (p := ⟨S, 11, none⟩) (Or.inr (Or.inl rfl)) _).set (p := ⟨S, 12, none⟩) (Or.inr (Or.inl rfl)) _).set (p := ⟨S, 13, none⟩) (Or.inr (Or.inl rfl)) _)
  have c4 := h.c4
  have s0 := h.s0
  have s2 := h.s2
  have s4 := h.s4
  obtain ⟨s6, s7, s8, s9, s10, s11, s12, s13⟩ := h.cells
  have fS := h.fS
  have n1 := h.nWS
  clear h
  have HU := Lib.hid hU
  have HK := Lib.hid hK
  clear hU hK
  go_enter Tryd.func48, Tryd.ntmps48
  go_wp2_with fail
  obtain ⟨w2, hw2⟩ : ∃ w2, w2 = (((((((((((w.setCell ⟨S, 0, none⟩ (.int .i64 0)).setCell ⟨S, 2, none⟩ (.int .i64 (-1))).setCell ⟨S, 4, none⟩ (.int .i64 (-1))).setCell ⟨S, 6, none⟩ (.int .u64 0)).setCell ⟨S, 7, none⟩ (.int .u64 0)).setCell ⟨S, 8, none⟩ (.int .u64 0)).setCell ⟨S, 9, none⟩ (.int .u64 0)).setCell ⟨S, 10, none⟩ (.int .u64 0)).setCell ⟨S, 11, none⟩ (.int .u64 0)).setCell ⟨S, 12, none⟩ (.int .u64 0)).setCell ⟨S, 13, none⟩ (.int .u64 0)) := ⟨_, rfl⟩
  rw [← hw2] at HU HK ⊢
  clear hw2 c4 s0 s2 s4 s6 s7 s8 s9 s10 s11 s12 s13 fS n1
  go_loopw [5] (fun v wr => ∃ t : Nat, t ≤ 3 ∧ v = .int .i64 t ∧ UAt W S G B a b cs cg ⟨freeS u.s, clrG u.g (t * 12), u.n⟩ wr ∧ Kz W S G w wr) (fun v _ => 3 - (intOf v).toNat)
  case atStart => exact ⟨0, by omega, rfl, HU.out.congr (fun _ _ => rfl) (fun j hj => rfl) rfl, HK.out⟩
  case round =>
    obtain ⟨t, ht, rfl, hu, hk⟩ := hrel
    have c5 := hu.c5
    have HU1 := Lib.hid hu
    have HK1 := Lib.hid hk
    have ht3 : (t : Int) ≤ 3 := by omega
    clear hu hk
    by_cases hlt : t < 3
    · have hlt' : (t : Int) < 3 := by omega
      go_wp2_with fail
      go_loopw [6] (fun v wr => ∃ k : Nat, k ≤ 12 ∧ v = .int .i64 k ∧ UAt W S G B a b cs cg ⟨freeS u.s, clrG u.g (t * 12 + k), u.n⟩ wr ∧ Kz W S G w wr) (fun v _ => 12 - (intOf v).toNat)
      case atStart => exact ⟨0, by omega, rfl, HU1.out, HK1.out⟩
      case round =>
        obtain ⟨k, hk, rfl, hu, hkz⟩ := hrel
        have c5 := hu.c5
        have HU2 := Lib.hid hu
        have HK2 := Lib.hid hkz
        have hk12 : (k : Int) ≤ 12 := by omega
        have fG := hu.fG
        clear hkz
        by_cases hk2 : k < 12
        · have hk2' : (k : Int) < 12 := by omega
          have gk : wr.cell? ⟨G, t * 12 + k, none⟩ = some (.int .i64 (u.g (t * 12 + k))) := by rw [← clr_at u.g (t * 12 + k)]; exact hu.gc _ (by omega)
          clear hu
          cases g1 : u.g (t * 12 + k) == 1
          · cases g2 : u.g (t * 12 + k) == -1
            · have HE := Lib.hid (show UAt W S G B a b cs cg ⟨freeS u.s, clrG u.g (t * 12 + (k + 1)), u.n⟩ wr ∧ Kz W S G w wr from ⟨by rw [← Nat.add_assoc, ← clr_skip u.g (t * 12 + k) (by simp at g1 g2; omega)]; exact HU2.out, HK2.out⟩)
              go_wp2
              go_roundw
              case rel => exact ⟨k + 1, by omega, by go_num, HE.out.1, HE.out.2⟩
              case measure => simp [intOf]; omega
            · have HE := Lib.hid (show UAt W S G B a b cs cg ⟨freeS u.s, clrG u.g (t * 12 + (k + 1)), u.n⟩ (wr.setCell ⟨G, t * 12 + k, none⟩ (.int .i64 0)) ∧ Kz W S G w (wr.setCell ⟨G, t * 12 + k, none⟩ (.int .i64 0)) from
                ⟨by rw [← Nat.add_assoc, ← clr_step u.g (t * 12 + k) (by simp at g2; omega)]; exact HU2.out.setG _ (by omega) 0, HK2.out.set (Or.inr (Or.inr rfl)) _⟩)
              go_wp2
              go_roundw
              case rel => exact ⟨k + 1, by omega, by go_num, HE.out.1, HE.out.2⟩
              case measure => simp [intOf]; omega
          · have HE := Lib.hid (show UAt W S G B a b cs cg ⟨freeS u.s, clrG u.g (t * 12 + (k + 1)), u.n⟩ (wr.setCell ⟨G, t * 12 + k, none⟩ (.int .i64 0)) ∧ Kz W S G w (wr.setCell ⟨G, t * 12 + k, none⟩ (.int .i64 0)) from
              ⟨by rw [← Nat.add_assoc, ← clr_step u.g (t * 12 + k) (by simp at g1; omega)]; exact HU2.out.setG _ (by omega) 0, HK2.out.set (Or.inr (Or.inr rfl)) _⟩)
            go_wp2
            go_roundw
            case rel => exact ⟨k + 1, by omega, by go_num, HE.out.1, HE.out.2⟩
            case measure => simp [intOf]; omega
        · obtain rfl : k = 12 := by omega
          clear hu
          go_wp2
          go_roundw
          case rel => exact ⟨t + 1, by omega, by go_num, by rw [show (t + 1) * 12 = t * 12 + 12 by omega]; exact HU2.out, HK2.out⟩
          case measure => simp [intOf]; omega
    · obtain rfl : t = 3 := by omega
      go_wp2
      go_returns
      exact ⟨rfl, HU1.out, HK1.out⟩
end Go.Proofs.YtejfcmgnacimgaaDoor
