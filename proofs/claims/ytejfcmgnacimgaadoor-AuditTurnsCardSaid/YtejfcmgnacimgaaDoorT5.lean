/- The document's own notes, case by case. -/
import Derived.Test.YtejfcmgnacimgaaDoorT4
import Derived.StillTailTactics
namespace Go.Proofs.YtejfcmgnacimgaaDoor
open Go.RowKit
set_option linter.unusedVariables false
set_option linter.unusedSimpArgs false

theorem UAt.draw {W S G : Nat} {B a b : Int} {cs cg : Nat} {u : U} {w : World} (h : UAt W S G B a b cs cg u w) (j : Nat) : UAt W S G B a b cs cg u (w.drewN j) := h.below (below_drewN (Below.refl _ _) j)
theorem UAt.drew {W S G : Nat} {B a b : Int} {cs cg : Nat} {u : U} {w : World} (h : UAt W S G B a b cs cg u w) : UAt W S G B a b cs cg u w.drew := h.draw 1
theorem Kz.draw {W S G : Nat} {w w' : World} (h : Kz W S G w w') (j : Nat) : Kz W S G w (w'.drewN j) := h.trans (Kz.of_below (below_drewN (Below.refl _ _) j))
theorem Kz.drew {W S G : Nat} {w w' : World} (h : Kz W S G w w') : Kz W S G w w'.drew := h.draw 1

def alcU (u : U) (t life : Int) : U := ⟨upd (upd (upd (upd (freeU u).s 0 1) 2 t) 1 life) 3 u.n, (freeU u).g, u.n⟩
def retU (u : U) (t : Int) : U := ⟨upd (upd (upd u.s 0 3) 2 t) 5 u.n, u.g, u.n⟩
def clgU (g : Nat → Int) (t : Nat) (gd : Int) (m : Nat) : Nat → Int := fun j => if t * 12 ≤ j ∧ j < t * 12 + m ∧ (gd < 0 ∨ gd = (j : Int) - t * 12) then 0 else g j
def clrU (u : U) (t : Nat) (gd : Int) : U := ⟨u.s, clgU u.g t gd 12, u.n⟩

theorem clg_step (g : Nat → Int) (t : Nat) (gd : Int) (m : Nat) : (gd < 0 ∨ gd = m) → upd (clgU g t gd m) (t * 12 + m) 0 = clgU g t gd (m + 1) := by
  intro h
  funext j
  unfold upd clgU
  by_cases e : j = t * 12 + m
  · subst e; rw [if_pos rfl, if_pos (by refine ⟨by omega, by omega, ?_⟩; omega)]
  · rw [if_neg e]
    by_cases e2 : t * 12 ≤ j ∧ j < t * 12 + m ∧ (gd < 0 ∨ gd = (j : Int) - t * 12)
    · rw [if_pos e2, if_pos ⟨e2.1, by omega, e2.2.2⟩]
    · rw [if_neg e2, if_neg (fun h => e2 ⟨h.1, by omega, h.2.2⟩)]
theorem clg_skip (g : Nat → Int) (t : Nat) (gd : Int) (m : Nat) : ¬ (gd < 0 ∨ gd = m) → clgU g t gd m = clgU g t gd (m + 1) := by
  intro h
  funext j
  unfold clgU
  by_cases e : j = t * 12 + m
  · subst e; rw [if_neg (by omega), if_neg (by rintro ⟨_, _, h3⟩; apply h; omega)]
  · by_cases e2 : t * 12 ≤ j ∧ j < t * 12 + m ∧ (gd < 0 ∨ gd = (j : Int) - t * 12)
    · rw [if_pos e2, if_pos ⟨e2.1, by omega, e2.2.2⟩]
    · rw [if_neg e2, if_neg (fun h => e2 ⟨h.1, by omega, h.2.2⟩)]
theorem clg_none (g : Nat → Int) (t : Nat) (gd : Int) : clgU g t gd 0 = g := by
  funext j
  unfold clgU
  rw [if_neg (by omega)]

set_option maxHeartbeats 8000000 in
set_option maxRecDepth 100000 in
theorem note_clear {W S G : Nat} {B a b : Int} {cs cg : Nat} {u : U} (t : Nat) (ht : t < 3) (e : Ev) (w : World) (h : UAt W S G B a b cs cg u w) (hk : e.nk = 7) :
    Calls Tryd.prog 41 #[.pointer (some ⟨W, 0, none⟩), .int .i64 t, .agg (nCells e)] w fun x w' => x = .returned (.tuple #[]) ∧ UAt W S G B a b cs cg (clrU u t e.guard) w' ∧ Kz W S G w w' := by
  have hb1 : Below w.heap.size w (w.alloc (.cells (nCells e) 51)) := by go_grown
  have hu1 := h.below hb1
  obtain ⟨hlW, hlS, hlG⟩ := h.lt
  have e0 : (w.alloc (.cells (nCells e) 51)).cell? ⟨w.heap.size, 0, none⟩ = some (.int .i64 e.nk) := by simp [go_sem, nCells]
  have e1 : (w.alloc (.cells (nCells e) 51)).cell? ⟨w.heap.size, 1, none⟩ = some (.int .i64 e.slot) := by simp [go_sem, nCells]
  have e2 : (w.alloc (.cells (nCells e) 51)).cell? ⟨w.heap.size, 2, none⟩ = some (.int .i64 e.life) := by simp [go_sem, nCells]
  have e3 : (w.alloc (.cells (nCells e) 51)).cell? ⟨w.heap.size, 3, none⟩ = some (.int .i64 e.guard) := by simp [go_sem, nCells]
  have e4 : (w.alloc (.cells (nCells e) 51)).cell? ⟨w.heap.size, 4, none⟩ = some (.int .i64 e.read) := by simp [go_sem, nCells]
  have e5 : (w.alloc (.cells (nCells e) 51)).cell? ⟨w.heap.size, 5, none⟩ = some (.int .i64 e.cls) := by simp [go_sem, nCells]
  have e6 : (w.alloc (.cells (nCells e) 51)).cell? ⟨w.heap.size, 6, none⟩ = some (.int .u64 e.n) := by simp [go_sem, nCells]
  have e7 : (w.alloc (.cells (nCells e) 51)).cell? ⟨w.heap.size, 7, none⟩ = some (.int .i64 e.code) := by simp [go_sem, nCells]
  rw [hk] at e0
  have HB1 := Lib.hid hb1
  have HU1 := Lib.hid hu1
  have HL := Lib.hid (show W < w.heap.size ∧ S < w.heap.size ∧ G < w.heap.size from ⟨hlW, hlS, hlG⟩)
  have c4 := hu1.c4
  have n1 := h.nWS
  clear h hb1 hu1 hlW hlS hlG
  go_enter Tryd.func41, Tryd.ntmps41
  go_wp2_with fail
  generalize w.alloc (.cells (nCells e) 51) = w1 at *
  have ht3 : (t : Int) < 3 := by omega
  go_loopw [6] (fun v wr => ∃ k : Nat, k ≤ 12 ∧ v = .int .i64 k ∧ UAt W S G B a b cs cg ⟨u.s, clgU u.g t e.guard k, u.n⟩ wr ∧ Kz W S G w1 wr) (fun v _ => 12 - (intOf v).toNat)
  case atStart => exact ⟨0, by omega, rfl, by rw [clg_none]; exact HU1.out, Kz.refl _ _ _ _⟩
  case round =>
    obtain ⟨k, hk, rfl, hu, hkz⟩ := hrel
    have HU2 := Lib.hid hu
    have HK2 := Lib.hid hkz
    have c5 := hu.c5
    have fG := hu.fG
    have hk12 : (k : Int) ≤ 12 := by omega
    have x3 := hkz.cell (p := ⟨w.heap.size, 3, none⟩) ⟨by have := HL.out; simp only; omega, by have := HL.out; simp only; omega, by have := HL.out; simp only; omega⟩ e3
    by_cases hlt : k < 12
    · have hlt' : (k : Int) < 12 := by omega
      have gk := hu.gc (t * 12 + k) (by omega)
      clear hu hkz
      by_cases hg : e.guard < 0 ∨ e.guard = k
      · have HE := Lib.hid (show UAt W S G B a b cs cg ⟨u.s, clgU u.g t e.guard (k + 1), u.n⟩ (wr.setCell ⟨G, t * 12 + k, none⟩ (.int .i64 0)) ∧ Kz W S G w1 (wr.setCell ⟨G, t * 12 + k, none⟩ (.int .i64 0)) from
          ⟨by rw [← clg_step u.g t e.guard k hg]; exact HU2.out.setG _ (by omega) 0, HK2.out.set (Or.inr (Or.inr rfl)) _⟩)
        by_cases hg0 : e.guard < 0
        · have d0 : decide (e.guard < 0) = true := by simpa using hg0
          go_wp2
          go_roundw
          case rel => exact ⟨k + 1, by omega, by go_num, HE.out.1, HE.out.2⟩
          case measure => simp [intOf]; omega
        · have d0 : decide (e.guard < 0) = false := by simpa using hg0
          have d1 : (e.guard == (k : Int)) = true := by simp; omega
          clear hg hg0
          go_wp2
          go_roundw
          case rel => exact ⟨k + 1, by omega, by go_num, HE.out.1, HE.out.2⟩
          case measure => simp [intOf]; omega
      · have HE := Lib.hid (show UAt W S G B a b cs cg ⟨u.s, clgU u.g t e.guard (k + 1), u.n⟩ wr ∧ Kz W S G w1 wr from ⟨by rw [← clg_skip u.g t e.guard k hg]; exact HU2.out, HK2.out⟩)
        have d0 : decide (e.guard < 0) = false := by simp; omega
        have d1 : (e.guard == (k : Int)) = false := by simp; omega
        clear hg
        go_wp2
        go_roundw
        case rel => exact ⟨k + 1, by omega, by go_num, HE.out.1, HE.out.2⟩
        case measure => simp [intOf]; omega
    · obtain rfl : k = 12 := by omega
      clear hu hkz
      go_wp2
      go_returns
      exact ⟨rfl, HU2.out, (Kz.of_below HB1.out).trans HK2.out⟩

set_option maxHeartbeats 8000000 in
set_option maxRecDepth 100000 in
theorem note_out {W S G : Nat} {B a b : Int} {cs cg : Nat} {u : U} (t : Nat) (ht : t < 3) (e : Ev) (w : World) (h : UAt W S G B a b cs cg u w) (hk : (e.nk == 7) = false) (hs : e.slot ≠ 1) :
    Calls Tryd.prog 41 #[.pointer (some ⟨W, 0, none⟩), .int .i64 t, .agg (nCells e)] w fun x w' => x = .returned (.tuple #[]) ∧ UAt W S G B a b cs cg (u) w' ∧ Kz W S G w w' := by
  have hb1 : Below w.heap.size w (w.alloc (.cells (nCells e) 51)) := by go_grown
  have hu1 := h.below hb1
  obtain ⟨hlW, hlS, hlG⟩ := h.lt
  have e0 : (w.alloc (.cells (nCells e) 51)).cell? ⟨w.heap.size, 0, none⟩ = some (.int .i64 e.nk) := by simp [go_sem, nCells]
  have e1 : (w.alloc (.cells (nCells e) 51)).cell? ⟨w.heap.size, 1, none⟩ = some (.int .i64 e.slot) := by simp [go_sem, nCells]
  have e2 : (w.alloc (.cells (nCells e) 51)).cell? ⟨w.heap.size, 2, none⟩ = some (.int .i64 e.life) := by simp [go_sem, nCells]
  have e3 : (w.alloc (.cells (nCells e) 51)).cell? ⟨w.heap.size, 3, none⟩ = some (.int .i64 e.guard) := by simp [go_sem, nCells]
  have e4 : (w.alloc (.cells (nCells e) 51)).cell? ⟨w.heap.size, 4, none⟩ = some (.int .i64 e.read) := by simp [go_sem, nCells]
  have e5 : (w.alloc (.cells (nCells e) 51)).cell? ⟨w.heap.size, 5, none⟩ = some (.int .i64 e.cls) := by simp [go_sem, nCells]
  have e6 : (w.alloc (.cells (nCells e) 51)).cell? ⟨w.heap.size, 6, none⟩ = some (.int .u64 e.n) := by simp [go_sem, nCells]
  have e7 : (w.alloc (.cells (nCells e) 51)).cell? ⟨w.heap.size, 7, none⟩ = some (.int .i64 e.code) := by simp [go_sem, nCells]
  have HB1 := Lib.hid hb1
  have HU1 := Lib.hid hu1
  have HL := Lib.hid (show W < w.heap.size ∧ S < w.heap.size ∧ G < w.heap.size from ⟨hlW, hlS, hlG⟩)
  have c4 := hu1.c4
  have n1 := h.nWS
  clear h hb1 hu1 hlW hlS hlG
  go_enter Tryd.func41, Tryd.ntmps41
  go_wp2_with fail
  generalize w.alloc (.cells (nCells e) 51) = w1 at *
  have hlo : e.slot < 1 ∨ 1 < e.slot := by omega
  have hd : (decide (e.slot < 1) = true) ∨ (decide (e.slot < 1) = false ∧ decide (1 < e.slot) = true) := by
    rcases hlo with hs1 | hs1
    · exact Or.inl (by simpa using hs1)
    · exact Or.inr ⟨by simp; omega, by simpa using hs1⟩
  clear hlo hs
  rcases hd with d1 | ⟨d1, d2⟩
  all_goals
    go_quiet (fail)
    go_wp2
    go_returns
    exact ⟨rfl, HU1.out.draw _, (Kz.of_below HB1.out).draw _⟩

set_option maxHeartbeats 8000000 in
set_option maxRecDepth 100000 in
theorem note_disc {W S G : Nat} {B a b : Int} {cs cg : Nat} {u : U} (t : Nat) (ht : t < 3) (e : Ev) (w : World) (h : UAt W S G B a b cs cg u w) (hk : e.nk = 4) (hs : e.slot = 1) :
    Calls Tryd.prog 41 #[.pointer (some ⟨W, 0, none⟩), .int .i64 t, .agg (nCells e)] w fun x w' => x = .returned (.tuple #[]) ∧ UAt W S G B a b cs cg (freeU u) w' ∧ Kz W S G w w' := by
  have hb1 : Below w.heap.size w (w.alloc (.cells (nCells e) 51)) := by go_grown
  have hu1 := h.below hb1
  obtain ⟨hlW, hlS, hlG⟩ := h.lt
  have e0 : (w.alloc (.cells (nCells e) 51)).cell? ⟨w.heap.size, 0, none⟩ = some (.int .i64 e.nk) := by simp [go_sem, nCells]
  have e1 : (w.alloc (.cells (nCells e) 51)).cell? ⟨w.heap.size, 1, none⟩ = some (.int .i64 e.slot) := by simp [go_sem, nCells]
  have e2 : (w.alloc (.cells (nCells e) 51)).cell? ⟨w.heap.size, 2, none⟩ = some (.int .i64 e.life) := by simp [go_sem, nCells]
  have e3 : (w.alloc (.cells (nCells e) 51)).cell? ⟨w.heap.size, 3, none⟩ = some (.int .i64 e.guard) := by simp [go_sem, nCells]
  have e4 : (w.alloc (.cells (nCells e) 51)).cell? ⟨w.heap.size, 4, none⟩ = some (.int .i64 e.read) := by simp [go_sem, nCells]
  have e5 : (w.alloc (.cells (nCells e) 51)).cell? ⟨w.heap.size, 5, none⟩ = some (.int .i64 e.cls) := by simp [go_sem, nCells]
  have e6 : (w.alloc (.cells (nCells e) 51)).cell? ⟨w.heap.size, 6, none⟩ = some (.int .u64 e.n) := by simp [go_sem, nCells]
  have e7 : (w.alloc (.cells (nCells e) 51)).cell? ⟨w.heap.size, 7, none⟩ = some (.int .i64 e.code) := by simp [go_sem, nCells]
  rw [hk] at e0
  rw [hs] at e1
  have HB1 := Lib.hid hb1
  have HU1 := Lib.hid hu1
  have HL := Lib.hid (show W < w.heap.size ∧ S < w.heap.size ∧ G < w.heap.size from ⟨hlW, hlS, hlG⟩)
  have c4 := hu1.c4
  have n1 := h.nWS
  clear h hb1 hu1 hlW hlS hlG
  go_enter Tryd.func41, Tryd.ntmps41
  go_wp2_with fail
  generalize w.alloc (.cells (nCells e) 51) = w1 at *
  go_quiet (fail)
  go_wp2_with fail
  go_quiet (fail)
  go_wp2_with fail
  refine (free_u _ (HU1.out.draw _)).mono ?_
  rintro x w2 ⟨rfl, hu2, hk2⟩
  have HU2 := Lib.hid hu2
  have HK2 := Lib.hid (((Kz.of_below HB1.out).draw _).trans hk2)
  clear hu2 hk2
  go_wp2
  go_returns
  exact ⟨rfl, HU2.out, HK2.out⟩

set_option maxHeartbeats 8000000 in
set_option maxRecDepth 100000 in
theorem note_free {W S G : Nat} {B a b : Int} {cs cg : Nat} {u : U} (t : Nat) (ht : t < 3) (e : Ev) (w : World) (h : UAt W S G B a b cs cg u w) (hk : e.nk = 9) (hs : e.slot = 1) :
    Calls Tryd.prog 41 #[.pointer (some ⟨W, 0, none⟩), .int .i64 t, .agg (nCells e)] w fun x w' => x = .returned (.tuple #[]) ∧ UAt W S G B a b cs cg (freeU u) w' ∧ Kz W S G w w' := by
  have hb1 : Below w.heap.size w (w.alloc (.cells (nCells e) 51)) := by go_grown
  have hu1 := h.below hb1
  obtain ⟨hlW, hlS, hlG⟩ := h.lt
  have e0 : (w.alloc (.cells (nCells e) 51)).cell? ⟨w.heap.size, 0, none⟩ = some (.int .i64 e.nk) := by simp [go_sem, nCells]
  have e1 : (w.alloc (.cells (nCells e) 51)).cell? ⟨w.heap.size, 1, none⟩ = some (.int .i64 e.slot) := by simp [go_sem, nCells]
  have e2 : (w.alloc (.cells (nCells e) 51)).cell? ⟨w.heap.size, 2, none⟩ = some (.int .i64 e.life) := by simp [go_sem, nCells]
  have e3 : (w.alloc (.cells (nCells e) 51)).cell? ⟨w.heap.size, 3, none⟩ = some (.int .i64 e.guard) := by simp [go_sem, nCells]
  have e4 : (w.alloc (.cells (nCells e) 51)).cell? ⟨w.heap.size, 4, none⟩ = some (.int .i64 e.read) := by simp [go_sem, nCells]
  have e5 : (w.alloc (.cells (nCells e) 51)).cell? ⟨w.heap.size, 5, none⟩ = some (.int .i64 e.cls) := by simp [go_sem, nCells]
  have e6 : (w.alloc (.cells (nCells e) 51)).cell? ⟨w.heap.size, 6, none⟩ = some (.int .u64 e.n) := by simp [go_sem, nCells]
  have e7 : (w.alloc (.cells (nCells e) 51)).cell? ⟨w.heap.size, 7, none⟩ = some (.int .i64 e.code) := by simp [go_sem, nCells]
  rw [hk] at e0
  rw [hs] at e1
  have HB1 := Lib.hid hb1
  have HU1 := Lib.hid hu1
  have HL := Lib.hid (show W < w.heap.size ∧ S < w.heap.size ∧ G < w.heap.size from ⟨hlW, hlS, hlG⟩)
  have c4 := hu1.c4
  have n1 := h.nWS
  clear h hb1 hu1 hlW hlS hlG
  go_enter Tryd.func41, Tryd.ntmps41
  go_wp2_with fail
  generalize w.alloc (.cells (nCells e) 51) = w1 at *
  go_quiet (fail)
  go_wp2_with fail
  go_quiet (fail)
  go_wp2_with fail
  refine (free_u _ (HU1.out.draw _)).mono ?_
  rintro x w2 ⟨rfl, hu2, hk2⟩
  have HU2 := Lib.hid hu2
  have HK2 := Lib.hid (((Kz.of_below HB1.out).draw _).trans hk2)
  clear hu2 hk2
  go_wp2
  go_returns
  exact ⟨rfl, HU2.out, HK2.out⟩

set_option maxHeartbeats 8000000 in
set_option maxRecDepth 100000 in
theorem note_alloc {W S G : Nat} {B a b : Int} {cs cg : Nat} {u : U} (t : Nat) (ht : t < 3) (e : Ev) (w : World) (h : UAt W S G B a b cs cg u w) (hk : e.nk = 3) (hs : e.slot = 1) :
    Calls Tryd.prog 41 #[.pointer (some ⟨W, 0, none⟩), .int .i64 t, .agg (nCells e)] w fun x w' => x = .returned (.tuple #[]) ∧ UAt W S G B a b cs cg (alcU u t e.life) w' ∧ Kz W S G w w' := by
  have hb1 : Below w.heap.size w (w.alloc (.cells (nCells e) 51)) := by go_grown
  have hu1 := h.below hb1
  obtain ⟨hlW, hlS, hlG⟩ := h.lt
  have e0 : (w.alloc (.cells (nCells e) 51)).cell? ⟨w.heap.size, 0, none⟩ = some (.int .i64 e.nk) := by simp [go_sem, nCells]
  have e1 : (w.alloc (.cells (nCells e) 51)).cell? ⟨w.heap.size, 1, none⟩ = some (.int .i64 e.slot) := by simp [go_sem, nCells]
  have e2 : (w.alloc (.cells (nCells e) 51)).cell? ⟨w.heap.size, 2, none⟩ = some (.int .i64 e.life) := by simp [go_sem, nCells]
  have e3 : (w.alloc (.cells (nCells e) 51)).cell? ⟨w.heap.size, 3, none⟩ = some (.int .i64 e.guard) := by simp [go_sem, nCells]
  have e4 : (w.alloc (.cells (nCells e) 51)).cell? ⟨w.heap.size, 4, none⟩ = some (.int .i64 e.read) := by simp [go_sem, nCells]
  have e5 : (w.alloc (.cells (nCells e) 51)).cell? ⟨w.heap.size, 5, none⟩ = some (.int .i64 e.cls) := by simp [go_sem, nCells]
  have e6 : (w.alloc (.cells (nCells e) 51)).cell? ⟨w.heap.size, 6, none⟩ = some (.int .u64 e.n) := by simp [go_sem, nCells]
  have e7 : (w.alloc (.cells (nCells e) 51)).cell? ⟨w.heap.size, 7, none⟩ = some (.int .i64 e.code) := by simp [go_sem, nCells]
  rw [hk] at e0
  rw [hs] at e1
  have HB1 := Lib.hid hb1
  have HU1 := Lib.hid hu1
  have HL := Lib.hid (show W < w.heap.size ∧ S < w.heap.size ∧ G < w.heap.size from ⟨hlW, hlS, hlG⟩)
  have c4 := hu1.c4
  have n1 := h.nWS
  clear h hb1 hu1 hlW hlS hlG
  go_enter Tryd.func41, Tryd.ntmps41
  go_wp2_with fail
  generalize w.alloc (.cells (nCells e) 51) = w1 at *
  go_quiet (fail)
  go_wp2_with fail
  go_quiet (fail)
  go_wp2_with fail
  refine (free_u _ (HU1.out.draw _)).mono ?_
  rintro x w2 ⟨rfl, hu2, hk2⟩
  have x2 := hk2.cell (p := ⟨w.heap.size, 2, none⟩) ⟨by have := HL.out; simp only; omega, by have := HL.out; simp only; omega, by have := HL.out; simp only; omega⟩ e2
  have hnS : w.heap.size ≠ S := by have := HL.out; omega
  have hnS' : S ≠ w.heap.size := by have := HL.out; omega
  have HU2 := Lib.hid hu2
  have HK2 := Lib.hid (((Kz.of_below HB1.out).draw _).trans hk2)
  have s0 := hu2.s0
  have s1 := hu2.s1
  have s2 := hu2.s2
  have s3 := hu2.s3
  have c6 := hu2.c6
  have fS := hu2.fS
  clear hu2 hk2
  go_wp2
  go_returns
  exact ⟨rfl, (((HU2.out.setS 0 (by decide) 1).setS 2 (by decide) t).setS 1 (by decide) e.life).setS 3 (by decide) u.n, (((HK2.out.set (p := ⟨S, 0, none⟩) (Or.inr (Or.inl rfl)) _).set (p := ⟨S, 2, none⟩) (Or.inr (Or.inl rfl)) _).set (p := ⟨S, 1, none⟩) (Or.inr (Or.inl rfl)) _).set (p := ⟨S, 3, none⟩) (Or.inr (Or.inl rfl)) _⟩

set_option maxHeartbeats 8000000 in
set_option maxRecDepth 100000 in
theorem note_ret {W S G : Nat} {B a b : Int} {cs cg : Nat} {u : U} (t : Nat) (ht : t < 3) (e : Ev) (w : World) (h : UAt W S G B a b cs cg u w) (hk : e.nk = 8) (hs : e.slot = 1) :
    Calls Tryd.prog 41 #[.pointer (some ⟨W, 0, none⟩), .int .i64 t, .agg (nCells e)] w fun x w' => x = .returned (.tuple #[]) ∧ UAt W S G B a b cs cg (retU u t) w' ∧ Kz W S G w w' := by
  have hb1 : Below w.heap.size w (w.alloc (.cells (nCells e) 51)) := by go_grown
  have hu1 := h.below hb1
  obtain ⟨hlW, hlS, hlG⟩ := h.lt
  have e0 : (w.alloc (.cells (nCells e) 51)).cell? ⟨w.heap.size, 0, none⟩ = some (.int .i64 e.nk) := by simp [go_sem, nCells]
  have e1 : (w.alloc (.cells (nCells e) 51)).cell? ⟨w.heap.size, 1, none⟩ = some (.int .i64 e.slot) := by simp [go_sem, nCells]
  have e2 : (w.alloc (.cells (nCells e) 51)).cell? ⟨w.heap.size, 2, none⟩ = some (.int .i64 e.life) := by simp [go_sem, nCells]
  have e3 : (w.alloc (.cells (nCells e) 51)).cell? ⟨w.heap.size, 3, none⟩ = some (.int .i64 e.guard) := by simp [go_sem, nCells]
  have e4 : (w.alloc (.cells (nCells e) 51)).cell? ⟨w.heap.size, 4, none⟩ = some (.int .i64 e.read) := by simp [go_sem, nCells]
  have e5 : (w.alloc (.cells (nCells e) 51)).cell? ⟨w.heap.size, 5, none⟩ = some (.int .i64 e.cls) := by simp [go_sem, nCells]
  have e6 : (w.alloc (.cells (nCells e) 51)).cell? ⟨w.heap.size, 6, none⟩ = some (.int .u64 e.n) := by simp [go_sem, nCells]
  have e7 : (w.alloc (.cells (nCells e) 51)).cell? ⟨w.heap.size, 7, none⟩ = some (.int .i64 e.code) := by simp [go_sem, nCells]
  rw [hk] at e0
  rw [hs] at e1
  have HB1 := Lib.hid hb1
  have HU1 := Lib.hid hu1
  have HL := Lib.hid (show W < w.heap.size ∧ S < w.heap.size ∧ G < w.heap.size from ⟨hlW, hlS, hlG⟩)
  have c4 := hu1.c4
  have n1 := h.nWS
  clear h hb1 hu1 hlW hlS hlG
  go_enter Tryd.func41, Tryd.ntmps41
  go_wp2_with fail
  generalize w.alloc (.cells (nCells e) 51) = w1 at *
  go_quiet (fail)
  go_wp2_with fail
  go_quiet (fail)
  have s0 := HU1.out.s0
  have s2 := HU1.out.s2
  have s5 := HU1.out.s5
  have c6 := HU1.out.c6
  have fS := HU1.out.fS
  go_wp2
  go_returns
  exact ⟨rfl, (((HU1.out.draw _).setS 0 (by decide) 3).setS 2 (by decide) t).setS 5 (by decide) u.n, ((((Kz.of_below HB1.out).draw _).set (p := ⟨S, 0, none⟩) (Or.inr (Or.inl rfl)) _).set (p := ⟨S, 2, none⟩) (Or.inr (Or.inl rfl)) _).set (p := ⟨S, 5, none⟩) (Or.inr (Or.inl rfl)) _⟩

end Go.Proofs.YtejfcmgnacimgaaDoor
