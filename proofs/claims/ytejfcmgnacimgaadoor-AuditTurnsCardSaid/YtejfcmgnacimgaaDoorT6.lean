/- The document's own rules, case by case. -/
import Derived.Test.YtejfcmgnacimgaaDoorT5b
namespace Go.Proofs.YtejfcmgnacimgaaDoor
open Go.RowKit
set_option linter.unusedVariables false
set_option linter.unusedSimpArgs false

def accU (u : U) (t : Nat) (i k : Int) : Int := if i = 0 then 0 else if k < 0 then 2 else if hasU u t i then 0 else 1

set_option maxHeartbeats 8000000 in
set_option maxRecDepth 100000 in
theorem rule_acc {W S G : Nat} {B a b : Int} {cs cg : Nat} {u : U} (t : Nat) (ht : t < 3) (e : Ev) (he : e.Ok) (hth : e.th = (t : Int)) (w : World) (h : UAt W S G B a b cs cg u w) (hk : (e.kind == 5) = false) (hby : e.by_ = 1) :
    Calls Tryd.prog 40 #[.pointer (some ⟨W, 0, none⟩), .agg (evCells e)] w fun x w' => x = .returned (.int .i64 (accU u t (fndS B a b e.at_).1 (fndS B a b e.at_).2)) ∧ Below w.heap.size w w' := by
  have hb1 : Below w.heap.size w (w.alloc (.cells (evCells e) 54)) := by go_grown
  have hu1 := h.below hb1
  obtain ⟨hlW, hlS, hlG⟩ := h.lt
  have e0 : (w.alloc (.cells (evCells e) 54)).cell? ⟨w.heap.size, 0, none⟩ = some (.int .i64 e.seq) := by simp [go_sem, evCells]
  have e1 : (w.alloc (.cells (evCells e) 54)).cell? ⟨w.heap.size, 1, none⟩ = some (.int .i64 e.th) := by simp [go_sem, evCells]
  have e2 : (w.alloc (.cells (evCells e) 54)).cell? ⟨w.heap.size, 2, none⟩ = some (.int .i64 e.by_) := by simp [go_sem, evCells]
  have e3 : (w.alloc (.cells (evCells e) 54)).cell? ⟨w.heap.size, 3, none⟩ = some (.int .i64 e.kind) := by simp [go_sem, evCells]
  have e4 : (w.alloc (.cells (evCells e) 54)).cell? ⟨w.heap.size, 4, none⟩ = some (.int .i64 e.at_) := by simp [go_sem, evCells]
  have e5 : (w.alloc (.cells (evCells e) 54)).cell? ⟨w.heap.size, 5, none⟩ = some (.int .u64 e.old) := by simp [go_sem, evCells]
  have e6 : (w.alloc (.cells (evCells e) 54)).cell? ⟨w.heap.size, 6, none⟩ = some (.int .u64 e.new) := by simp [go_sem, evCells]
  have e7 : (w.alloc (.cells (evCells e) 54)).cell? ⟨w.heap.size, 7, none⟩ = some (.bool e.ok) := by simp [go_sem, evCells]
  have e8 : (w.alloc (.cells (evCells e) 54)).cell? ⟨w.heap.size, 8, none⟩ = some (.int .i64 e.nk) := by simp [go_sem, evCells]
  have e9 : (w.alloc (.cells (evCells e) 54)).cell? ⟨w.heap.size, 9, none⟩ = some (.int .i64 e.slot) := by simp [go_sem, evCells]
  have e10 : (w.alloc (.cells (evCells e) 54)).cell? ⟨w.heap.size, 10, none⟩ = some (.int .i64 e.life) := by simp [go_sem, evCells]
  have e11 : (w.alloc (.cells (evCells e) 54)).cell? ⟨w.heap.size, 11, none⟩ = some (.int .i64 e.guard) := by simp [go_sem, evCells]
  have e12 : (w.alloc (.cells (evCells e) 54)).cell? ⟨w.heap.size, 12, none⟩ = some (.int .i64 e.read) := by simp [go_sem, evCells]
  have e13 : (w.alloc (.cells (evCells e) 54)).cell? ⟨w.heap.size, 13, none⟩ = some (.int .i64 e.cls) := by simp [go_sem, evCells]
  have e14 : (w.alloc (.cells (evCells e) 54)).cell? ⟨w.heap.size, 14, none⟩ = some (.int .u64 e.n) := by simp [go_sem, evCells]
  have e15 : (w.alloc (.cells (evCells e) 54)).cell? ⟨w.heap.size, 15, none⟩ = some (.int .i64 e.code) := by simp [go_sem, evCells]
  rw [hby] at e2
  rw [hth] at e1
  have HFD := fun w h => find_any W B a b 1 e.at_ he.at_ w h
  generalize (fndS B a b e.at_).1 = i at HFD ⊢
  generalize (fndS B a b e.at_).2 = k at HFD ⊢
  have HB1 := Lib.hid hb1
  have HU1 := Lib.hid hu1
  have HL := Lib.hid (show W < w.heap.size ∧ S < w.heap.size ∧ G < w.heap.size from ⟨hlW, hlS, hlG⟩)
  have hsz1 : (w.alloc (.cells (evCells e) 54)).heap.size = w.heap.size + 1 := by simp
  have c4 := hu1.c4
  have n1 := h.nWS
  have hW1 : W < w.heap.size + 1 := by omega
  have hS1 : S < w.heap.size + 1 := by omega
  clear h hb1 hu1 hlW hlS hlG
  go_enter Tryd.func40, Tryd.ntmps40
  go_wp2_with fail
  generalize w.alloc (.cells (evCells e) 54) = w1 at *
  refine (HFD _ HU1.out.wat).mono ?_
  rintro x w2 ⟨rfl, rfl⟩
  by_cases hi : i = 0
  · subst hi
    go_wp2
    go_returns
    exact ⟨by simp [accU], HB1.out⟩
  · have hib : (i == 0) = false := by simpa using hi
    by_cases hk0 : k < 0
    · have d0 : decide (k < 0) = true := by simpa using hk0
      have HE := Lib.hid (show accU u t i k = 2 by simp [accU, hi, hk0])
      clear hi hk0
      go_wp2
      go_returns
      exact ⟨by rw [HE.out] <;> rfl, HB1.out⟩
    · have d0 : decide (k < 0) = false := by simpa using hk0
      have HE := Lib.hid (show accU u t i k = if hasU u t i then 0 else 1 by simp [accU, hi, hk0])
      clear hi hk0
      go_wp2_with fail
      refine (has_u t ht i _ HU1.out).mono ?_
      rintro x w3 ⟨rfl, rfl⟩
      cases hh : hasU u t i
      · have HE2 := Lib.hid (HE.out.trans (by rw [hh]; rfl : _ = (1 : Int)))
        go_wp2
        go_returns
        exact ⟨by rw [HE2.out] <;> rfl, HB1.out⟩
      · have HE2 := Lib.hid (HE.out.trans (by rw [hh]; rfl : _ = (0 : Int)))
        go_wp2
        go_returns
        exact ⟨by rw [HE2.out] <;> rfl, HB1.out⟩

set_option maxHeartbeats 8000000 in
set_option maxRecDepth 100000 in
theorem rule_alloc3 {W S G : Nat} {B a b : Int} {cs cg : Nat} {u : U} (t : Nat) (ht : t < 3) (e : Ev) (he : e.Ok) (hth : e.th = (t : Int)) (w : World) (h : UAt W S G B a b cs cg u w) (hk : e.kind = 5) (hn : e.nk = 3) (hs : e.slot = 1) (h0 : (u.s 0 == 0) = false) :
    Calls Tryd.prog 40 #[.pointer (some ⟨W, 0, none⟩), .agg (evCells e)] w fun x w' => x = .returned (.int .i64 (3)) ∧ Below w.heap.size w w' := by
  have hb1 : Below w.heap.size w (w.alloc (.cells (evCells e) 54)) := by go_grown
  have hu1 := h.below hb1
  obtain ⟨hlW, hlS, hlG⟩ := h.lt
  have e0 : (w.alloc (.cells (evCells e) 54)).cell? ⟨w.heap.size, 0, none⟩ = some (.int .i64 e.seq) := by simp [go_sem, evCells]
  have e1 : (w.alloc (.cells (evCells e) 54)).cell? ⟨w.heap.size, 1, none⟩ = some (.int .i64 e.th) := by simp [go_sem, evCells]
  have e2 : (w.alloc (.cells (evCells e) 54)).cell? ⟨w.heap.size, 2, none⟩ = some (.int .i64 e.by_) := by simp [go_sem, evCells]
  have e3 : (w.alloc (.cells (evCells e) 54)).cell? ⟨w.heap.size, 3, none⟩ = some (.int .i64 e.kind) := by simp [go_sem, evCells]
  have e4 : (w.alloc (.cells (evCells e) 54)).cell? ⟨w.heap.size, 4, none⟩ = some (.int .i64 e.at_) := by simp [go_sem, evCells]
  have e5 : (w.alloc (.cells (evCells e) 54)).cell? ⟨w.heap.size, 5, none⟩ = some (.int .u64 e.old) := by simp [go_sem, evCells]
  have e6 : (w.alloc (.cells (evCells e) 54)).cell? ⟨w.heap.size, 6, none⟩ = some (.int .u64 e.new) := by simp [go_sem, evCells]
  have e7 : (w.alloc (.cells (evCells e) 54)).cell? ⟨w.heap.size, 7, none⟩ = some (.bool e.ok) := by simp [go_sem, evCells]
  have e8 : (w.alloc (.cells (evCells e) 54)).cell? ⟨w.heap.size, 8, none⟩ = some (.int .i64 e.nk) := by simp [go_sem, evCells]
  have e9 : (w.alloc (.cells (evCells e) 54)).cell? ⟨w.heap.size, 9, none⟩ = some (.int .i64 e.slot) := by simp [go_sem, evCells]
  have e10 : (w.alloc (.cells (evCells e) 54)).cell? ⟨w.heap.size, 10, none⟩ = some (.int .i64 e.life) := by simp [go_sem, evCells]
  have e11 : (w.alloc (.cells (evCells e) 54)).cell? ⟨w.heap.size, 11, none⟩ = some (.int .i64 e.guard) := by simp [go_sem, evCells]
  have e12 : (w.alloc (.cells (evCells e) 54)).cell? ⟨w.heap.size, 12, none⟩ = some (.int .i64 e.read) := by simp [go_sem, evCells]
  have e13 : (w.alloc (.cells (evCells e) 54)).cell? ⟨w.heap.size, 13, none⟩ = some (.int .i64 e.cls) := by simp [go_sem, evCells]
  have e14 : (w.alloc (.cells (evCells e) 54)).cell? ⟨w.heap.size, 14, none⟩ = some (.int .u64 e.n) := by simp [go_sem, evCells]
  have e15 : (w.alloc (.cells (evCells e) 54)).cell? ⟨w.heap.size, 15, none⟩ = some (.int .i64 e.code) := by simp [go_sem, evCells]
  rw [hk] at e3
  rw [hn] at e8
  rw [hth] at e1
  rw [hs] at e9
  have s0 := hu1.s0
  have s1 := hu1.s1
  have s2 := hu1.s2
  have s3 := hu1.s3
  have s4 := hu1.s4
  have s5 := hu1.s5
  obtain ⟨s6, s7, s8, s9, s10, s11, s12, s13⟩ := hu1.cells
  have x1 : (evCells e)[1]? = some (.int .i64 (t : Int)) := by simp [evCells, hth]
  have x3 : (evCells e)[3]? = some (.int .i64 5) := by simp [evCells, hk]
  have x8 : (evCells e)[8]? = some (.int .i64 3) := by simp [evCells, hn]
  have x9 : (evCells e)[9]? = some (.int .i64 1) := by simp [evCells, hs]
  have x10 : (evCells e)[10]? = some (.int .i64 (e.life)) := by simp [evCells]
  have HB1 := Lib.hid hb1
  have HU1 := Lib.hid hu1
  have HL := Lib.hid (show W < w.heap.size ∧ S < w.heap.size ∧ G < w.heap.size from ⟨hlW, hlS, hlG⟩)
  have hsz1 : (w.alloc (.cells (evCells e) 54)).heap.size = w.heap.size + 1 := by simp
  have c4 := hu1.c4
  have n1 := h.nWS
  have hW1 : W < w.heap.size + 1 := by omega
  have hS1 : S < w.heap.size + 1 := by omega
  clear h hb1 hu1 hlW hlS hlG
  go_enter Tryd.func40, Tryd.ntmps40
  go_wp2
  go_returns
  exact ⟨rfl, by go_grown⟩

set_option maxHeartbeats 8000000 in
set_option maxRecDepth 100000 in
theorem rule_alloc4 {W S G : Nat} {B a b : Int} {cs cg : Nat} {u : U} (t : Nat) (ht : t < 3) (e : Ev) (he : e.Ok) (hth : e.th = (t : Int)) (w : World) (h : UAt W S G B a b cs cg u w) (hk : e.kind = 5) (hn : e.nk = 3) (hs : e.slot = 1) (h0 : u.s 0 = 0) (h1 : -1000 ≤ u.s 1 ∧ u.s 1 ≤ 1000) (hl : (e.life == u.s 1 + 1) = false) :
    Calls Tryd.prog 40 #[.pointer (some ⟨W, 0, none⟩), .agg (evCells e)] w fun x w' => x = .returned (.int .i64 (4)) ∧ Below w.heap.size w w' := by
  have hb1 : Below w.heap.size w (w.alloc (.cells (evCells e) 54)) := by go_grown
  have hu1 := h.below hb1
  obtain ⟨hlW, hlS, hlG⟩ := h.lt
  have e0 : (w.alloc (.cells (evCells e) 54)).cell? ⟨w.heap.size, 0, none⟩ = some (.int .i64 e.seq) := by simp [go_sem, evCells]
  have e1 : (w.alloc (.cells (evCells e) 54)).cell? ⟨w.heap.size, 1, none⟩ = some (.int .i64 e.th) := by simp [go_sem, evCells]
  have e2 : (w.alloc (.cells (evCells e) 54)).cell? ⟨w.heap.size, 2, none⟩ = some (.int .i64 e.by_) := by simp [go_sem, evCells]
  have e3 : (w.alloc (.cells (evCells e) 54)).cell? ⟨w.heap.size, 3, none⟩ = some (.int .i64 e.kind) := by simp [go_sem, evCells]
  have e4 : (w.alloc (.cells (evCells e) 54)).cell? ⟨w.heap.size, 4, none⟩ = some (.int .i64 e.at_) := by simp [go_sem, evCells]
  have e5 : (w.alloc (.cells (evCells e) 54)).cell? ⟨w.heap.size, 5, none⟩ = some (.int .u64 e.old) := by simp [go_sem, evCells]
  have e6 : (w.alloc (.cells (evCells e) 54)).cell? ⟨w.heap.size, 6, none⟩ = some (.int .u64 e.new) := by simp [go_sem, evCells]
  have e7 : (w.alloc (.cells (evCells e) 54)).cell? ⟨w.heap.size, 7, none⟩ = some (.bool e.ok) := by simp [go_sem, evCells]
  have e8 : (w.alloc (.cells (evCells e) 54)).cell? ⟨w.heap.size, 8, none⟩ = some (.int .i64 e.nk) := by simp [go_sem, evCells]
  have e9 : (w.alloc (.cells (evCells e) 54)).cell? ⟨w.heap.size, 9, none⟩ = some (.int .i64 e.slot) := by simp [go_sem, evCells]
  have e10 : (w.alloc (.cells (evCells e) 54)).cell? ⟨w.heap.size, 10, none⟩ = some (.int .i64 e.life) := by simp [go_sem, evCells]
  have e11 : (w.alloc (.cells (evCells e) 54)).cell? ⟨w.heap.size, 11, none⟩ = some (.int .i64 e.guard) := by simp [go_sem, evCells]
  have e12 : (w.alloc (.cells (evCells e) 54)).cell? ⟨w.heap.size, 12, none⟩ = some (.int .i64 e.read) := by simp [go_sem, evCells]
  have e13 : (w.alloc (.cells (evCells e) 54)).cell? ⟨w.heap.size, 13, none⟩ = some (.int .i64 e.cls) := by simp [go_sem, evCells]
  have e14 : (w.alloc (.cells (evCells e) 54)).cell? ⟨w.heap.size, 14, none⟩ = some (.int .u64 e.n) := by simp [go_sem, evCells]
  have e15 : (w.alloc (.cells (evCells e) 54)).cell? ⟨w.heap.size, 15, none⟩ = some (.int .i64 e.code) := by simp [go_sem, evCells]
  rw [hk] at e3
  rw [hn] at e8
  rw [hth] at e1
  rw [hs] at e9
  have s0 := hu1.s0
  have s1 := hu1.s1
  have s2 := hu1.s2
  have s3 := hu1.s3
  have s4 := hu1.s4
  have s5 := hu1.s5
  obtain ⟨s6, s7, s8, s9, s10, s11, s12, s13⟩ := hu1.cells
  rw [h0] at s0
  obtain ⟨l0, l1⟩ := h1
  have x1 : (evCells e)[1]? = some (.int .i64 (t : Int)) := by simp [evCells, hth]
  have x3 : (evCells e)[3]? = some (.int .i64 5) := by simp [evCells, hk]
  have x8 : (evCells e)[8]? = some (.int .i64 3) := by simp [evCells, hn]
  have x9 : (evCells e)[9]? = some (.int .i64 1) := by simp [evCells, hs]
  have x10 : (evCells e)[10]? = some (.int .i64 (e.life)) := by simp [evCells]
  have HB1 := Lib.hid hb1
  have HU1 := Lib.hid hu1
  have HL := Lib.hid (show W < w.heap.size ∧ S < w.heap.size ∧ G < w.heap.size from ⟨hlW, hlS, hlG⟩)
  have hsz1 : (w.alloc (.cells (evCells e) 54)).heap.size = w.heap.size + 1 := by simp
  have c4 := hu1.c4
  have n1 := h.nWS
  have hW1 : W < w.heap.size + 1 := by omega
  have hS1 : S < w.heap.size + 1 := by omega
  clear h hb1 hu1 hlW hlS hlG
  go_enter Tryd.func40, Tryd.ntmps40
  go_wp2
  go_returns
  exact ⟨rfl, by go_grown⟩

set_option maxHeartbeats 8000000 in
set_option maxRecDepth 100000 in
theorem rule_alloc0 {W S G : Nat} {B a b : Int} {cs cg : Nat} {u : U} (t : Nat) (ht : t < 3) (e : Ev) (he : e.Ok) (hth : e.th = (t : Int)) (w : World) (h : UAt W S G B a b cs cg u w) (hk : e.kind = 5) (hn : e.nk = 3) (hs : e.slot = 1) (h0 : u.s 0 = 0) (h1 : -1000 ≤ u.s 1 ∧ u.s 1 ≤ 1000) (hl : e.life = u.s 1 + 1) :
    Calls Tryd.prog 40 #[.pointer (some ⟨W, 0, none⟩), .agg (evCells e)] w fun x w' => x = .returned (.int .i64 (0)) ∧ Below w.heap.size w w' := by
  have hb1 : Below w.heap.size w (w.alloc (.cells (evCells e) 54)) := by go_grown
  have hu1 := h.below hb1
  obtain ⟨hlW, hlS, hlG⟩ := h.lt
  have e0 : (w.alloc (.cells (evCells e) 54)).cell? ⟨w.heap.size, 0, none⟩ = some (.int .i64 e.seq) := by simp [go_sem, evCells]
  have e1 : (w.alloc (.cells (evCells e) 54)).cell? ⟨w.heap.size, 1, none⟩ = some (.int .i64 e.th) := by simp [go_sem, evCells]
  have e2 : (w.alloc (.cells (evCells e) 54)).cell? ⟨w.heap.size, 2, none⟩ = some (.int .i64 e.by_) := by simp [go_sem, evCells]
  have e3 : (w.alloc (.cells (evCells e) 54)).cell? ⟨w.heap.size, 3, none⟩ = some (.int .i64 e.kind) := by simp [go_sem, evCells]
  have e4 : (w.alloc (.cells (evCells e) 54)).cell? ⟨w.heap.size, 4, none⟩ = some (.int .i64 e.at_) := by simp [go_sem, evCells]
  have e5 : (w.alloc (.cells (evCells e) 54)).cell? ⟨w.heap.size, 5, none⟩ = some (.int .u64 e.old) := by simp [go_sem, evCells]
  have e6 : (w.alloc (.cells (evCells e) 54)).cell? ⟨w.heap.size, 6, none⟩ = some (.int .u64 e.new) := by simp [go_sem, evCells]
  have e7 : (w.alloc (.cells (evCells e) 54)).cell? ⟨w.heap.size, 7, none⟩ = some (.bool e.ok) := by simp [go_sem, evCells]
  have e8 : (w.alloc (.cells (evCells e) 54)).cell? ⟨w.heap.size, 8, none⟩ = some (.int .i64 e.nk) := by simp [go_sem, evCells]
  have e9 : (w.alloc (.cells (evCells e) 54)).cell? ⟨w.heap.size, 9, none⟩ = some (.int .i64 e.slot) := by simp [go_sem, evCells]
  have e10 : (w.alloc (.cells (evCells e) 54)).cell? ⟨w.heap.size, 10, none⟩ = some (.int .i64 e.life) := by simp [go_sem, evCells]
  have e11 : (w.alloc (.cells (evCells e) 54)).cell? ⟨w.heap.size, 11, none⟩ = some (.int .i64 e.guard) := by simp [go_sem, evCells]
  have e12 : (w.alloc (.cells (evCells e) 54)).cell? ⟨w.heap.size, 12, none⟩ = some (.int .i64 e.read) := by simp [go_sem, evCells]
  have e13 : (w.alloc (.cells (evCells e) 54)).cell? ⟨w.heap.size, 13, none⟩ = some (.int .i64 e.cls) := by simp [go_sem, evCells]
  have e14 : (w.alloc (.cells (evCells e) 54)).cell? ⟨w.heap.size, 14, none⟩ = some (.int .u64 e.n) := by simp [go_sem, evCells]
  have e15 : (w.alloc (.cells (evCells e) 54)).cell? ⟨w.heap.size, 15, none⟩ = some (.int .i64 e.code) := by simp [go_sem, evCells]
  rw [hk] at e3
  rw [hn] at e8
  rw [hth] at e1
  rw [hs] at e9
  have s0 := hu1.s0
  have s1 := hu1.s1
  have s2 := hu1.s2
  have s3 := hu1.s3
  have s4 := hu1.s4
  have s5 := hu1.s5
  obtain ⟨s6, s7, s8, s9, s10, s11, s12, s13⟩ := hu1.cells
  rw [h0] at s0
  rw [hl] at e10
  obtain ⟨l0, l1⟩ := h1
  have x1 : (evCells e)[1]? = some (.int .i64 (t : Int)) := by simp [evCells, hth]
  have x3 : (evCells e)[3]? = some (.int .i64 5) := by simp [evCells, hk]
  have x8 : (evCells e)[8]? = some (.int .i64 3) := by simp [evCells, hn]
  have x9 : (evCells e)[9]? = some (.int .i64 1) := by simp [evCells, hs]
  have x10 : (evCells e)[10]? = some (.int .i64 (u.s 1 + 1)) := by simp [evCells, hl]
  have HB1 := Lib.hid hb1
  have HU1 := Lib.hid hu1
  have HL := Lib.hid (show W < w.heap.size ∧ S < w.heap.size ∧ G < w.heap.size from ⟨hlW, hlS, hlG⟩)
  have hsz1 : (w.alloc (.cells (evCells e) 54)).heap.size = w.heap.size + 1 := by simp
  have c4 := hu1.c4
  have n1 := h.nWS
  have hW1 : W < w.heap.size + 1 := by omega
  have hS1 : S < w.heap.size + 1 := by omega
  clear h hb1 hu1 hlW hlS hlG
  go_enter Tryd.func40, Tryd.ntmps40
  go_wp2
  go_returns
  exact ⟨rfl, by go_grown⟩

set_option maxHeartbeats 8000000 in
set_option maxRecDepth 100000 in
theorem rule_disc5a {W S G : Nat} {B a b : Int} {cs cg : Nat} {u : U} (t : Nat) (ht : t < 3) (e : Ev) (he : e.Ok) (hth : e.th = (t : Int)) (w : World) (h : UAt W S G B a b cs cg u w) (hk : e.kind = 5) (hn : e.nk = 4) (hs : e.slot = 1) (h0 : (u.s 0 == 1) = false) :
    Calls Tryd.prog 40 #[.pointer (some ⟨W, 0, none⟩), .agg (evCells e)] w fun x w' => x = .returned (.int .i64 (5)) ∧ Below w.heap.size w w' := by
  have hb1 : Below w.heap.size w (w.alloc (.cells (evCells e) 54)) := by go_grown
  have hu1 := h.below hb1
  obtain ⟨hlW, hlS, hlG⟩ := h.lt
  have e0 : (w.alloc (.cells (evCells e) 54)).cell? ⟨w.heap.size, 0, none⟩ = some (.int .i64 e.seq) := by simp [go_sem, evCells]
  have e1 : (w.alloc (.cells (evCells e) 54)).cell? ⟨w.heap.size, 1, none⟩ = some (.int .i64 e.th) := by simp [go_sem, evCells]
  have e2 : (w.alloc (.cells (evCells e) 54)).cell? ⟨w.heap.size, 2, none⟩ = some (.int .i64 e.by_) := by simp [go_sem, evCells]
  have e3 : (w.alloc (.cells (evCells e) 54)).cell? ⟨w.heap.size, 3, none⟩ = some (.int .i64 e.kind) := by simp [go_sem, evCells]
  have e4 : (w.alloc (.cells (evCells e) 54)).cell? ⟨w.heap.size, 4, none⟩ = some (.int .i64 e.at_) := by simp [go_sem, evCells]
  have e5 : (w.alloc (.cells (evCells e) 54)).cell? ⟨w.heap.size, 5, none⟩ = some (.int .u64 e.old) := by simp [go_sem, evCells]
  have e6 : (w.alloc (.cells (evCells e) 54)).cell? ⟨w.heap.size, 6, none⟩ = some (.int .u64 e.new) := by simp [go_sem, evCells]
  have e7 : (w.alloc (.cells (evCells e) 54)).cell? ⟨w.heap.size, 7, none⟩ = some (.bool e.ok) := by simp [go_sem, evCells]
  have e8 : (w.alloc (.cells (evCells e) 54)).cell? ⟨w.heap.size, 8, none⟩ = some (.int .i64 e.nk) := by simp [go_sem, evCells]
  have e9 : (w.alloc (.cells (evCells e) 54)).cell? ⟨w.heap.size, 9, none⟩ = some (.int .i64 e.slot) := by simp [go_sem, evCells]
  have e10 : (w.alloc (.cells (evCells e) 54)).cell? ⟨w.heap.size, 10, none⟩ = some (.int .i64 e.life) := by simp [go_sem, evCells]
  have e11 : (w.alloc (.cells (evCells e) 54)).cell? ⟨w.heap.size, 11, none⟩ = some (.int .i64 e.guard) := by simp [go_sem, evCells]
  have e12 : (w.alloc (.cells (evCells e) 54)).cell? ⟨w.heap.size, 12, none⟩ = some (.int .i64 e.read) := by simp [go_sem, evCells]
  have e13 : (w.alloc (.cells (evCells e) 54)).cell? ⟨w.heap.size, 13, none⟩ = some (.int .i64 e.cls) := by simp [go_sem, evCells]
  have e14 : (w.alloc (.cells (evCells e) 54)).cell? ⟨w.heap.size, 14, none⟩ = some (.int .u64 e.n) := by simp [go_sem, evCells]
  have e15 : (w.alloc (.cells (evCells e) 54)).cell? ⟨w.heap.size, 15, none⟩ = some (.int .i64 e.code) := by simp [go_sem, evCells]
  rw [hk] at e3
  rw [hn] at e8
  rw [hth] at e1
  rw [hs] at e9
  have s0 := hu1.s0
  have s1 := hu1.s1
  have s2 := hu1.s2
  have s3 := hu1.s3
  have s4 := hu1.s4
  have s5 := hu1.s5
  obtain ⟨s6, s7, s8, s9, s10, s11, s12, s13⟩ := hu1.cells
  have x1 : (evCells e)[1]? = some (.int .i64 (t : Int)) := by simp [evCells, hth]
  have x3 : (evCells e)[3]? = some (.int .i64 5) := by simp [evCells, hk]
  have x8 : (evCells e)[8]? = some (.int .i64 4) := by simp [evCells, hn]
  have x9 : (evCells e)[9]? = some (.int .i64 1) := by simp [evCells, hs]
  have x10 : (evCells e)[10]? = some (.int .i64 (e.life)) := by simp [evCells]
  have HB1 := Lib.hid hb1
  have HU1 := Lib.hid hu1
  have HL := Lib.hid (show W < w.heap.size ∧ S < w.heap.size ∧ G < w.heap.size from ⟨hlW, hlS, hlG⟩)
  have hsz1 : (w.alloc (.cells (evCells e) 54)).heap.size = w.heap.size + 1 := by simp
  have c4 := hu1.c4
  have n1 := h.nWS
  have hW1 : W < w.heap.size + 1 := by omega
  have hS1 : S < w.heap.size + 1 := by omega
  clear h hb1 hu1 hlW hlS hlG
  go_enter Tryd.func40, Tryd.ntmps40
  go_wp2
  go_returns
  exact ⟨rfl, by go_grown⟩

set_option maxHeartbeats 8000000 in
set_option maxRecDepth 100000 in
theorem rule_disc5b {W S G : Nat} {B a b : Int} {cs cg : Nat} {u : U} (t : Nat) (ht : t < 3) (e : Ev) (he : e.Ok) (hth : e.th = (t : Int)) (w : World) (h : UAt W S G B a b cs cg u w) (hk : e.kind = 5) (hn : e.nk = 4) (hs : e.slot = 1) (h0 : u.s 0 = 1) (h2 : (u.s 2 == (t : Int)) = false) :
    Calls Tryd.prog 40 #[.pointer (some ⟨W, 0, none⟩), .agg (evCells e)] w fun x w' => x = .returned (.int .i64 (5)) ∧ Below w.heap.size w w' := by
  have hb1 : Below w.heap.size w (w.alloc (.cells (evCells e) 54)) := by go_grown
  have hu1 := h.below hb1
  obtain ⟨hlW, hlS, hlG⟩ := h.lt
  have e0 : (w.alloc (.cells (evCells e) 54)).cell? ⟨w.heap.size, 0, none⟩ = some (.int .i64 e.seq) := by simp [go_sem, evCells]
  have e1 : (w.alloc (.cells (evCells e) 54)).cell? ⟨w.heap.size, 1, none⟩ = some (.int .i64 e.th) := by simp [go_sem, evCells]
  have e2 : (w.alloc (.cells (evCells e) 54)).cell? ⟨w.heap.size, 2, none⟩ = some (.int .i64 e.by_) := by simp [go_sem, evCells]
  have e3 : (w.alloc (.cells (evCells e) 54)).cell? ⟨w.heap.size, 3, none⟩ = some (.int .i64 e.kind) := by simp [go_sem, evCells]
  have e4 : (w.alloc (.cells (evCells e) 54)).cell? ⟨w.heap.size, 4, none⟩ = some (.int .i64 e.at_) := by simp [go_sem, evCells]
  have e5 : (w.alloc (.cells (evCells e) 54)).cell? ⟨w.heap.size, 5, none⟩ = some (.int .u64 e.old) := by simp [go_sem, evCells]
  have e6 : (w.alloc (.cells (evCells e) 54)).cell? ⟨w.heap.size, 6, none⟩ = some (.int .u64 e.new) := by simp [go_sem, evCells]
  have e7 : (w.alloc (.cells (evCells e) 54)).cell? ⟨w.heap.size, 7, none⟩ = some (.bool e.ok) := by simp [go_sem, evCells]
  have e8 : (w.alloc (.cells (evCells e) 54)).cell? ⟨w.heap.size, 8, none⟩ = some (.int .i64 e.nk) := by simp [go_sem, evCells]
  have e9 : (w.alloc (.cells (evCells e) 54)).cell? ⟨w.heap.size, 9, none⟩ = some (.int .i64 e.slot) := by simp [go_sem, evCells]
  have e10 : (w.alloc (.cells (evCells e) 54)).cell? ⟨w.heap.size, 10, none⟩ = some (.int .i64 e.life) := by simp [go_sem, evCells]
  have e11 : (w.alloc (.cells (evCells e) 54)).cell? ⟨w.heap.size, 11, none⟩ = some (.int .i64 e.guard) := by simp [go_sem, evCells]
  have e12 : (w.alloc (.cells (evCells e) 54)).cell? ⟨w.heap.size, 12, none⟩ = some (.int .i64 e.read) := by simp [go_sem, evCells]
  have e13 : (w.alloc (.cells (evCells e) 54)).cell? ⟨w.heap.size, 13, none⟩ = some (.int .i64 e.cls) := by simp [go_sem, evCells]
  have e14 : (w.alloc (.cells (evCells e) 54)).cell? ⟨w.heap.size, 14, none⟩ = some (.int .u64 e.n) := by simp [go_sem, evCells]
  have e15 : (w.alloc (.cells (evCells e) 54)).cell? ⟨w.heap.size, 15, none⟩ = some (.int .i64 e.code) := by simp [go_sem, evCells]
  rw [hk] at e3
  rw [hn] at e8
  rw [hth] at e1
  rw [hs] at e9
  have s0 := hu1.s0
  have s1 := hu1.s1
  have s2 := hu1.s2
  have s3 := hu1.s3
  have s4 := hu1.s4
  have s5 := hu1.s5
  obtain ⟨s6, s7, s8, s9, s10, s11, s12, s13⟩ := hu1.cells
  rw [h0] at s0
  have x1 : (evCells e)[1]? = some (.int .i64 (t : Int)) := by simp [evCells, hth]
  have x3 : (evCells e)[3]? = some (.int .i64 5) := by simp [evCells, hk]
  have x8 : (evCells e)[8]? = some (.int .i64 4) := by simp [evCells, hn]
  have x9 : (evCells e)[9]? = some (.int .i64 1) := by simp [evCells, hs]
  have x10 : (evCells e)[10]? = some (.int .i64 (e.life)) := by simp [evCells]
  have HB1 := Lib.hid hb1
  have HU1 := Lib.hid hu1
  have HL := Lib.hid (show W < w.heap.size ∧ S < w.heap.size ∧ G < w.heap.size from ⟨hlW, hlS, hlG⟩)
  have hsz1 : (w.alloc (.cells (evCells e) 54)).heap.size = w.heap.size + 1 := by simp
  have c4 := hu1.c4
  have n1 := h.nWS
  have hW1 : W < w.heap.size + 1 := by omega
  have hS1 : S < w.heap.size + 1 := by omega
  clear h hb1 hu1 hlW hlS hlG
  go_enter Tryd.func40, Tryd.ntmps40
  go_wp2
  go_returns
  exact ⟨rfl, by go_grown⟩

set_option maxHeartbeats 8000000 in
set_option maxRecDepth 100000 in
theorem rule_disc0 {W S G : Nat} {B a b : Int} {cs cg : Nat} {u : U} (t : Nat) (ht : t < 3) (e : Ev) (he : e.Ok) (hth : e.th = (t : Int)) (w : World) (h : UAt W S G B a b cs cg u w) (hk : e.kind = 5) (hn : e.nk = 4) (hs : e.slot = 1) (h0 : u.s 0 = 1) (h2 : u.s 2 = (t : Int)) :
    Calls Tryd.prog 40 #[.pointer (some ⟨W, 0, none⟩), .agg (evCells e)] w fun x w' => x = .returned (.int .i64 (0)) ∧ Below w.heap.size w w' := by
  have hb1 : Below w.heap.size w (w.alloc (.cells (evCells e) 54)) := by go_grown
  have hu1 := h.below hb1
  obtain ⟨hlW, hlS, hlG⟩ := h.lt
  have e0 : (w.alloc (.cells (evCells e) 54)).cell? ⟨w.heap.size, 0, none⟩ = some (.int .i64 e.seq) := by simp [go_sem, evCells]
  have e1 : (w.alloc (.cells (evCells e) 54)).cell? ⟨w.heap.size, 1, none⟩ = some (.int .i64 e.th) := by simp [go_sem, evCells]
  have e2 : (w.alloc (.cells (evCells e) 54)).cell? ⟨w.heap.size, 2, none⟩ = some (.int .i64 e.by_) := by simp [go_sem, evCells]
  have e3 : (w.alloc (.cells (evCells e) 54)).cell? ⟨w.heap.size, 3, none⟩ = some (.int .i64 e.kind) := by simp [go_sem, evCells]
  have e4 : (w.alloc (.cells (evCells e) 54)).cell? ⟨w.heap.size, 4, none⟩ = some (.int .i64 e.at_) := by simp [go_sem, evCells]
  have e5 : (w.alloc (.cells (evCells e) 54)).cell? ⟨w.heap.size, 5, none⟩ = some (.int .u64 e.old) := by simp [go_sem, evCells]
  have e6 : (w.alloc (.cells (evCells e) 54)).cell? ⟨w.heap.size, 6, none⟩ = some (.int .u64 e.new) := by simp [go_sem, evCells]
  have e7 : (w.alloc (.cells (evCells e) 54)).cell? ⟨w.heap.size, 7, none⟩ = some (.bool e.ok) := by simp [go_sem, evCells]
  have e8 : (w.alloc (.cells (evCells e) 54)).cell? ⟨w.heap.size, 8, none⟩ = some (.int .i64 e.nk) := by simp [go_sem, evCells]
  have e9 : (w.alloc (.cells (evCells e) 54)).cell? ⟨w.heap.size, 9, none⟩ = some (.int .i64 e.slot) := by simp [go_sem, evCells]
  have e10 : (w.alloc (.cells (evCells e) 54)).cell? ⟨w.heap.size, 10, none⟩ = some (.int .i64 e.life) := by simp [go_sem, evCells]
  have e11 : (w.alloc (.cells (evCells e) 54)).cell? ⟨w.heap.size, 11, none⟩ = some (.int .i64 e.guard) := by simp [go_sem, evCells]
  have e12 : (w.alloc (.cells (evCells e) 54)).cell? ⟨w.heap.size, 12, none⟩ = some (.int .i64 e.read) := by simp [go_sem, evCells]
  have e13 : (w.alloc (.cells (evCells e) 54)).cell? ⟨w.heap.size, 13, none⟩ = some (.int .i64 e.cls) := by simp [go_sem, evCells]
  have e14 : (w.alloc (.cells (evCells e) 54)).cell? ⟨w.heap.size, 14, none⟩ = some (.int .u64 e.n) := by simp [go_sem, evCells]
  have e15 : (w.alloc (.cells (evCells e) 54)).cell? ⟨w.heap.size, 15, none⟩ = some (.int .i64 e.code) := by simp [go_sem, evCells]
  rw [hk] at e3
  rw [hn] at e8
  rw [hth] at e1
  rw [hs] at e9
  have s0 := hu1.s0
  have s1 := hu1.s1
  have s2 := hu1.s2
  have s3 := hu1.s3
  have s4 := hu1.s4
  have s5 := hu1.s5
  obtain ⟨s6, s7, s8, s9, s10, s11, s12, s13⟩ := hu1.cells
  rw [h0] at s0
  rw [h2] at s2
  have x1 : (evCells e)[1]? = some (.int .i64 (t : Int)) := by simp [evCells, hth]
  have x3 : (evCells e)[3]? = some (.int .i64 5) := by simp [evCells, hk]
  have x8 : (evCells e)[8]? = some (.int .i64 4) := by simp [evCells, hn]
  have x9 : (evCells e)[9]? = some (.int .i64 1) := by simp [evCells, hs]
  have x10 : (evCells e)[10]? = some (.int .i64 (e.life)) := by simp [evCells]
  have HB1 := Lib.hid hb1
  have HU1 := Lib.hid hu1
  have HL := Lib.hid (show W < w.heap.size ∧ S < w.heap.size ∧ G < w.heap.size from ⟨hlW, hlS, hlG⟩)
  have hsz1 : (w.alloc (.cells (evCells e) 54)).heap.size = w.heap.size + 1 := by simp
  have c4 := hu1.c4
  have n1 := h.nWS
  have hW1 : W < w.heap.size + 1 := by omega
  have hS1 : S < w.heap.size + 1 := by omega
  clear h hb1 hu1 hlW hlS hlG
  go_enter Tryd.func40, Tryd.ntmps40
  go_wp2
  go_returns
  exact ⟨rfl, by go_grown⟩

set_option maxHeartbeats 8000000 in
set_option maxRecDepth 100000 in
theorem rule_ret6 {W S G : Nat} {B a b : Int} {cs cg : Nat} {u : U} (t : Nat) (ht : t < 3) (e : Ev) (he : e.Ok) (hth : e.th = (t : Int)) (w : World) (h : UAt W S G B a b cs cg u w) (hk : e.kind = 5) (hn : e.nk = 8) (hs : e.slot = 1) (h0 : (u.s 0 == 2) = false) :
    Calls Tryd.prog 40 #[.pointer (some ⟨W, 0, none⟩), .agg (evCells e)] w fun x w' => x = .returned (.int .i64 (6)) ∧ Below w.heap.size w w' := by
  have hb1 : Below w.heap.size w (w.alloc (.cells (evCells e) 54)) := by go_grown
  have hu1 := h.below hb1
  obtain ⟨hlW, hlS, hlG⟩ := h.lt
  have e0 : (w.alloc (.cells (evCells e) 54)).cell? ⟨w.heap.size, 0, none⟩ = some (.int .i64 e.seq) := by simp [go_sem, evCells]
  have e1 : (w.alloc (.cells (evCells e) 54)).cell? ⟨w.heap.size, 1, none⟩ = some (.int .i64 e.th) := by simp [go_sem, evCells]
  have e2 : (w.alloc (.cells (evCells e) 54)).cell? ⟨w.heap.size, 2, none⟩ = some (.int .i64 e.by_) := by simp [go_sem, evCells]
  have e3 : (w.alloc (.cells (evCells e) 54)).cell? ⟨w.heap.size, 3, none⟩ = some (.int .i64 e.kind) := by simp [go_sem, evCells]
  have e4 : (w.alloc (.cells (evCells e) 54)).cell? ⟨w.heap.size, 4, none⟩ = some (.int .i64 e.at_) := by simp [go_sem, evCells]
  have e5 : (w.alloc (.cells (evCells e) 54)).cell? ⟨w.heap.size, 5, none⟩ = some (.int .u64 e.old) := by simp [go_sem, evCells]
  have e6 : (w.alloc (.cells (evCells e) 54)).cell? ⟨w.heap.size, 6, none⟩ = some (.int .u64 e.new) := by simp [go_sem, evCells]
  have e7 : (w.alloc (.cells (evCells e) 54)).cell? ⟨w.heap.size, 7, none⟩ = some (.bool e.ok) := by simp [go_sem, evCells]
  have e8 : (w.alloc (.cells (evCells e) 54)).cell? ⟨w.heap.size, 8, none⟩ = some (.int .i64 e.nk) := by simp [go_sem, evCells]
  have e9 : (w.alloc (.cells (evCells e) 54)).cell? ⟨w.heap.size, 9, none⟩ = some (.int .i64 e.slot) := by simp [go_sem, evCells]
  have e10 : (w.alloc (.cells (evCells e) 54)).cell? ⟨w.heap.size, 10, none⟩ = some (.int .i64 e.life) := by simp [go_sem, evCells]
  have e11 : (w.alloc (.cells (evCells e) 54)).cell? ⟨w.heap.size, 11, none⟩ = some (.int .i64 e.guard) := by simp [go_sem, evCells]
  have e12 : (w.alloc (.cells (evCells e) 54)).cell? ⟨w.heap.size, 12, none⟩ = some (.int .i64 e.read) := by simp [go_sem, evCells]
  have e13 : (w.alloc (.cells (evCells e) 54)).cell? ⟨w.heap.size, 13, none⟩ = some (.int .i64 e.cls) := by simp [go_sem, evCells]
  have e14 : (w.alloc (.cells (evCells e) 54)).cell? ⟨w.heap.size, 14, none⟩ = some (.int .u64 e.n) := by simp [go_sem, evCells]
  have e15 : (w.alloc (.cells (evCells e) 54)).cell? ⟨w.heap.size, 15, none⟩ = some (.int .i64 e.code) := by simp [go_sem, evCells]
  rw [hk] at e3
  rw [hn] at e8
  rw [hth] at e1
  rw [hs] at e9
  have s0 := hu1.s0
  have s1 := hu1.s1
  have s2 := hu1.s2
  have s3 := hu1.s3
  have s4 := hu1.s4
  have s5 := hu1.s5
  obtain ⟨s6, s7, s8, s9, s10, s11, s12, s13⟩ := hu1.cells
  have x1 : (evCells e)[1]? = some (.int .i64 (t : Int)) := by simp [evCells, hth]
  have x3 : (evCells e)[3]? = some (.int .i64 5) := by simp [evCells, hk]
  have x8 : (evCells e)[8]? = some (.int .i64 8) := by simp [evCells, hn]
  have x9 : (evCells e)[9]? = some (.int .i64 1) := by simp [evCells, hs]
  have x10 : (evCells e)[10]? = some (.int .i64 (e.life)) := by simp [evCells]
  have HB1 := Lib.hid hb1
  have HU1 := Lib.hid hu1
  have HL := Lib.hid (show W < w.heap.size ∧ S < w.heap.size ∧ G < w.heap.size from ⟨hlW, hlS, hlG⟩)
  have hsz1 : (w.alloc (.cells (evCells e) 54)).heap.size = w.heap.size + 1 := by simp
  have c4 := hu1.c4
  have n1 := h.nWS
  have hW1 : W < w.heap.size + 1 := by omega
  have hS1 : S < w.heap.size + 1 := by omega
  clear h hb1 hu1 hlW hlS hlG
  go_enter Tryd.func40, Tryd.ntmps40
  go_wp2
  go_returns
  exact ⟨rfl, by go_grown⟩

set_option maxHeartbeats 8000000 in
set_option maxRecDepth 100000 in
theorem rule_ret0 {W S G : Nat} {B a b : Int} {cs cg : Nat} {u : U} (t : Nat) (ht : t < 3) (e : Ev) (he : e.Ok) (hth : e.th = (t : Int)) (w : World) (h : UAt W S G B a b cs cg u w) (hk : e.kind = 5) (hn : e.nk = 8) (hs : e.slot = 1) (h0 : u.s 0 = 2) :
    Calls Tryd.prog 40 #[.pointer (some ⟨W, 0, none⟩), .agg (evCells e)] w fun x w' => x = .returned (.int .i64 (0)) ∧ Below w.heap.size w w' := by
  have hb1 : Below w.heap.size w (w.alloc (.cells (evCells e) 54)) := by go_grown
  have hu1 := h.below hb1
  obtain ⟨hlW, hlS, hlG⟩ := h.lt
  have e0 : (w.alloc (.cells (evCells e) 54)).cell? ⟨w.heap.size, 0, none⟩ = some (.int .i64 e.seq) := by simp [go_sem, evCells]
  have e1 : (w.alloc (.cells (evCells e) 54)).cell? ⟨w.heap.size, 1, none⟩ = some (.int .i64 e.th) := by simp [go_sem, evCells]
  have e2 : (w.alloc (.cells (evCells e) 54)).cell? ⟨w.heap.size, 2, none⟩ = some (.int .i64 e.by_) := by simp [go_sem, evCells]
  have e3 : (w.alloc (.cells (evCells e) 54)).cell? ⟨w.heap.size, 3, none⟩ = some (.int .i64 e.kind) := by simp [go_sem, evCells]
  have e4 : (w.alloc (.cells (evCells e) 54)).cell? ⟨w.heap.size, 4, none⟩ = some (.int .i64 e.at_) := by simp [go_sem, evCells]
  have e5 : (w.alloc (.cells (evCells e) 54)).cell? ⟨w.heap.size, 5, none⟩ = some (.int .u64 e.old) := by simp [go_sem, evCells]
  have e6 : (w.alloc (.cells (evCells e) 54)).cell? ⟨w.heap.size, 6, none⟩ = some (.int .u64 e.new) := by simp [go_sem, evCells]
  have e7 : (w.alloc (.cells (evCells e) 54)).cell? ⟨w.heap.size, 7, none⟩ = some (.bool e.ok) := by simp [go_sem, evCells]
  have e8 : (w.alloc (.cells (evCells e) 54)).cell? ⟨w.heap.size, 8, none⟩ = some (.int .i64 e.nk) := by simp [go_sem, evCells]
  have e9 : (w.alloc (.cells (evCells e) 54)).cell? ⟨w.heap.size, 9, none⟩ = some (.int .i64 e.slot) := by simp [go_sem, evCells]
  have e10 : (w.alloc (.cells (evCells e) 54)).cell? ⟨w.heap.size, 10, none⟩ = some (.int .i64 e.life) := by simp [go_sem, evCells]
  have e11 : (w.alloc (.cells (evCells e) 54)).cell? ⟨w.heap.size, 11, none⟩ = some (.int .i64 e.guard) := by simp [go_sem, evCells]
  have e12 : (w.alloc (.cells (evCells e) 54)).cell? ⟨w.heap.size, 12, none⟩ = some (.int .i64 e.read) := by simp [go_sem, evCells]
  have e13 : (w.alloc (.cells (evCells e) 54)).cell? ⟨w.heap.size, 13, none⟩ = some (.int .i64 e.cls) := by simp [go_sem, evCells]
  have e14 : (w.alloc (.cells (evCells e) 54)).cell? ⟨w.heap.size, 14, none⟩ = some (.int .u64 e.n) := by simp [go_sem, evCells]
  have e15 : (w.alloc (.cells (evCells e) 54)).cell? ⟨w.heap.size, 15, none⟩ = some (.int .i64 e.code) := by simp [go_sem, evCells]
  rw [hk] at e3
  rw [hn] at e8
  rw [hth] at e1
  rw [hs] at e9
  have s0 := hu1.s0
  have s1 := hu1.s1
  have s2 := hu1.s2
  have s3 := hu1.s3
  have s4 := hu1.s4
  have s5 := hu1.s5
  obtain ⟨s6, s7, s8, s9, s10, s11, s12, s13⟩ := hu1.cells
  rw [h0] at s0
  have x1 : (evCells e)[1]? = some (.int .i64 (t : Int)) := by simp [evCells, hth]
  have x3 : (evCells e)[3]? = some (.int .i64 5) := by simp [evCells, hk]
  have x8 : (evCells e)[8]? = some (.int .i64 8) := by simp [evCells, hn]
  have x9 : (evCells e)[9]? = some (.int .i64 1) := by simp [evCells, hs]
  have x10 : (evCells e)[10]? = some (.int .i64 (e.life)) := by simp [evCells]
  have HB1 := Lib.hid hb1
  have HU1 := Lib.hid hu1
  have HL := Lib.hid (show W < w.heap.size ∧ S < w.heap.size ∧ G < w.heap.size from ⟨hlW, hlS, hlG⟩)
  have hsz1 : (w.alloc (.cells (evCells e) 54)).heap.size = w.heap.size + 1 := by simp
  have c4 := hu1.c4
  have n1 := h.nWS
  have hW1 : W < w.heap.size + 1 := by omega
  have hS1 : S < w.heap.size + 1 := by omega
  clear h hb1 hu1 hlW hlS hlG
  go_enter Tryd.func40, Tryd.ntmps40
  go_wp2
  go_returns
  exact ⟨rfl, by go_grown⟩

set_option maxHeartbeats 8000000 in
set_option maxRecDepth 100000 in
theorem rule_free7 {W S G : Nat} {B a b : Int} {cs cg : Nat} {u : U} (t : Nat) (ht : t < 3) (e : Ev) (he : e.Ok) (hth : e.th = (t : Int)) (w : World) (h : UAt W S G B a b cs cg u w) (hk : e.kind = 5) (hn : e.nk = 9) (hs : e.slot = 1) (h0 : (u.s 0 == 3) = false) :
    Calls Tryd.prog 40 #[.pointer (some ⟨W, 0, none⟩), .agg (evCells e)] w fun x w' => x = .returned (.int .i64 (7)) ∧ Below w.heap.size w w' := by
  have hb1 : Below w.heap.size w (w.alloc (.cells (evCells e) 54)) := by go_grown
  have hu1 := h.below hb1
  obtain ⟨hlW, hlS, hlG⟩ := h.lt
  have e0 : (w.alloc (.cells (evCells e) 54)).cell? ⟨w.heap.size, 0, none⟩ = some (.int .i64 e.seq) := by simp [go_sem, evCells]
  have e1 : (w.alloc (.cells (evCells e) 54)).cell? ⟨w.heap.size, 1, none⟩ = some (.int .i64 e.th) := by simp [go_sem, evCells]
  have e2 : (w.alloc (.cells (evCells e) 54)).cell? ⟨w.heap.size, 2, none⟩ = some (.int .i64 e.by_) := by simp [go_sem, evCells]
  have e3 : (w.alloc (.cells (evCells e) 54)).cell? ⟨w.heap.size, 3, none⟩ = some (.int .i64 e.kind) := by simp [go_sem, evCells]
  have e4 : (w.alloc (.cells (evCells e) 54)).cell? ⟨w.heap.size, 4, none⟩ = some (.int .i64 e.at_) := by simp [go_sem, evCells]
  have e5 : (w.alloc (.cells (evCells e) 54)).cell? ⟨w.heap.size, 5, none⟩ = some (.int .u64 e.old) := by simp [go_sem, evCells]
  have e6 : (w.alloc (.cells (evCells e) 54)).cell? ⟨w.heap.size, 6, none⟩ = some (.int .u64 e.new) := by simp [go_sem, evCells]
  have e7 : (w.alloc (.cells (evCells e) 54)).cell? ⟨w.heap.size, 7, none⟩ = some (.bool e.ok) := by simp [go_sem, evCells]
  have e8 : (w.alloc (.cells (evCells e) 54)).cell? ⟨w.heap.size, 8, none⟩ = some (.int .i64 e.nk) := by simp [go_sem, evCells]
  have e9 : (w.alloc (.cells (evCells e) 54)).cell? ⟨w.heap.size, 9, none⟩ = some (.int .i64 e.slot) := by simp [go_sem, evCells]
  have e10 : (w.alloc (.cells (evCells e) 54)).cell? ⟨w.heap.size, 10, none⟩ = some (.int .i64 e.life) := by simp [go_sem, evCells]
  have e11 : (w.alloc (.cells (evCells e) 54)).cell? ⟨w.heap.size, 11, none⟩ = some (.int .i64 e.guard) := by simp [go_sem, evCells]
  have e12 : (w.alloc (.cells (evCells e) 54)).cell? ⟨w.heap.size, 12, none⟩ = some (.int .i64 e.read) := by simp [go_sem, evCells]
  have e13 : (w.alloc (.cells (evCells e) 54)).cell? ⟨w.heap.size, 13, none⟩ = some (.int .i64 e.cls) := by simp [go_sem, evCells]
  have e14 : (w.alloc (.cells (evCells e) 54)).cell? ⟨w.heap.size, 14, none⟩ = some (.int .u64 e.n) := by simp [go_sem, evCells]
  have e15 : (w.alloc (.cells (evCells e) 54)).cell? ⟨w.heap.size, 15, none⟩ = some (.int .i64 e.code) := by simp [go_sem, evCells]
  rw [hk] at e3
  rw [hn] at e8
  rw [hth] at e1
  rw [hs] at e9
  have s0 := hu1.s0
  have s1 := hu1.s1
  have s2 := hu1.s2
  have s3 := hu1.s3
  have s4 := hu1.s4
  have s5 := hu1.s5
  obtain ⟨s6, s7, s8, s9, s10, s11, s12, s13⟩ := hu1.cells
  have x1 : (evCells e)[1]? = some (.int .i64 (t : Int)) := by simp [evCells, hth]
  have x3 : (evCells e)[3]? = some (.int .i64 5) := by simp [evCells, hk]
  have x8 : (evCells e)[8]? = some (.int .i64 9) := by simp [evCells, hn]
  have x9 : (evCells e)[9]? = some (.int .i64 1) := by simp [evCells, hs]
  have x10 : (evCells e)[10]? = some (.int .i64 (e.life)) := by simp [evCells]
  have HB1 := Lib.hid hb1
  have HU1 := Lib.hid hu1
  have HL := Lib.hid (show W < w.heap.size ∧ S < w.heap.size ∧ G < w.heap.size from ⟨hlW, hlS, hlG⟩)
  have hsz1 : (w.alloc (.cells (evCells e) 54)).heap.size = w.heap.size + 1 := by simp
  have c4 := hu1.c4
  have n1 := h.nWS
  have hW1 : W < w.heap.size + 1 := by omega
  have hS1 : S < w.heap.size + 1 := by omega
  clear h hb1 hu1 hlW hlS hlG
  go_enter Tryd.func40, Tryd.ntmps40
  go_wp2
  go_returns
  exact ⟨rfl, by go_grown⟩

end Go.Proofs.YtejfcmgnacimgaaDoor
