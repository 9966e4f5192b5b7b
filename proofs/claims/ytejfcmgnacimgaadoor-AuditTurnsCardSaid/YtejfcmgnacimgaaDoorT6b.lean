/- The document's own rules, the rest of the cases. -/
import Derived.Test.YtejfcmgnacimgaaDoorT5b
namespace Go.Proofs.YtejfcmgnacimgaaDoor
open Go.RowKit
set_option linter.unusedVariables false
set_option linter.unusedSimpArgs false

set_option maxHeartbeats 8000000 in
set_option maxRecDepth 100000 in
theorem rule_free {W S G : Nat} {B a b : Int} {cs cg : Nat} {u : U} (t : Nat) (ht : t < 3) (e : Ev) (he : e.Ok) (hth : e.th = (t : Int)) (w : World) (h : UAt W S G B a b cs cg u w) (hk : e.kind = 5) (hn : e.nk = 9) (hs : e.slot = 1) (h0 : u.s 0 = 3) :
    Calls Tryd.prog 40 #[.pointer (some ⟨W, 0, none⟩), .agg (evCells e)] w fun x w' => x = .returned (.int .i64 (if hasU u 0 1 then 8 else if hasU u 1 1 then 8 else if hasU u 2 1 then 8 else 0)) ∧ Below w.heap.size w w' := by
  have hb1 : Below w.heap.size w (w.alloc (.cells (evCells e) 54)) := by go_grown
  have hu1 := h.below hb1
  obtain ⟨hlW, hlS, hlG⟩ := h.lt
  have e0 : (w.alloc (.cells (evCells e) 54)).cell? ⟨w.heap.size, 0, none⟩ = some (.int .i64 e.seq) := by simp [go_sem, evCells]
  have e1 : (w.alloc (.cells (evCells e) 54)).cell? ⟨w.heap.size, 1, none⟩ = some (.int .i64 e.th) := by simp [go_sem, evCells]
  have e2 : (w.alloc (.cells (evCells e) 54)).cell? ⟨w.heap.size, 2, none⟩ = some (.int .i64 e.by_) := by simp [go_sem, evCells]
  have e3 : (w.alloc (.cells (evCells e) 54)).cell? ⟨w.heap.size, 3, none⟩ = some (.int .i64 e.kind) := by simp [go_sem, evCells]
  have e4 : (w.alloc (.cells (evCells e) 54)).cell? ⟨w.heap.size, 4, none⟩ = some (.int .i64 e.at_) := by simp [go_sem, evCells]
  have e5 : (w.alloc (.cells (evCells e) 54)).cell? ⟨w.heap.size, 5, none⟩ = some (.int .u64 e.old) := by simp [go_sem, evCells]
  have e6 : (w.alloc (.cells (evCells e) 54)).cell? ⟨w.heap.size, 6, none⟩ = some (.int .u64 e.new) := by simp [go_sem, evCells]
  have e7 : (w.alloc (.cells (evCells e) 54)).cell? ⟨w.heap.size, 7, none⟩ = some (.bool e.ok) := by simp [go_sem, evCells]
  have e8 : (w.alloc (.cells (evCells e) 54)).cell? ⟨w.heap.size, 8, none⟩ = some (.int .i64 e.nk) := by simp [go_sem, evCells]
  have e9 : (w.alloc (.cells (evCells e) 54)).cell? ⟨w.heap.size, 9, none⟩ = some (.int .i64 e.slot) := by simp [go_sem, evCells]
  have e10 : (w.alloc (.cells (evCells e) 54)).cell? ⟨w.heap.size, 10, none⟩ = some (.int .i64 e.life) := by simp [go_sem, evCells]
  have e11 : (w.alloc (.cells (evCells e) 54)).cell? ⟨w.heap.size, 11, none⟩ = some (.int .i64 e.guard) := by simp [go_sem, evCells]
  have e12 : (w.alloc (.cells (evCells e) 54)).cell? ⟨w.heap.size, 12, none⟩ = some (.int .i64 e.read) := by simp [go_sem, evCells]
  have e13 : (w.alloc (.cells (evCells e) 54)).cell? ⟨w.heap.size, 13, none⟩ = some (.int .i64 e.cls) := by simp [go_sem, evCells]
  have e14 : (w.alloc (.cells (evCells e) 54)).cell? ⟨w.heap.size, 14, none⟩ = some (.int .u64 e.n) := by simp [go_sem, evCells]
  have e15 : (w.alloc (.cells (evCells e) 54)).cell? ⟨w.heap.size, 15, none⟩ = some (.int .i64 e.code) := by simp [go_sem, evCells]
  rw [hk] at e3
  rw [hn] at e8
  rw [hth] at e1
  rw [hs] at e9
  have s0 := hu1.s0
  have s1 := hu1.s1
  have s2 := hu1.s2
  have s3 := hu1.s3
  have s4 := hu1.s4
  have s5 := hu1.s5
  obtain ⟨s6, s7, s8, s9, s10, s11, s12, s13⟩ := hu1.cells
  rw [h0] at s0
  have c5 := hu1.c5
  have hbw : Below w.heap.size w ((w.alloc (.cells (evCells e) 54)).alloc (.cells #[.int .i64 3, .int .i64 (u.s 1), .int .i64 (u.s 2), .int .i64 (u.s 3), .int .i64 (u.s 4), .int .i64 (u.s 5), .int .u64 (u.s 6), .int .u64 (u.s 7), .int .u64 (u.s 8), .int .u64 (u.s 9), .int .u64 (u.s 10), .int .u64 (u.s 11), .int .u64 (u.s 12), .int .u64 (u.s 13)] 61)) := by go_grown
  have HUW := Lib.hid (h.below hbw)
  have HBW := Lib.hid hbw
  clear hbw
  have x1 : (evCells e)[1]? = some (.int .i64 (t : Int)) := by simp [evCells, hth]
  have x3 : (evCells e)[3]? = some (.int .i64 5) := by simp [evCells, hk]
  have x8 : (evCells e)[8]? = some (.int .i64 9) := by simp [evCells, hn]
  have x9 : (evCells e)[9]? = some (.int .i64 1) := by simp [evCells, hs]
  have x10 : (evCells e)[10]? = some (.int .i64 (e.life)) := by simp [evCells]
  have HB1 := Lib.hid hb1
  have HU1 := Lib.hid hu1
  have HL := Lib.hid (show W < w.heap.size ∧ S < w.heap.size ∧ G < w.heap.size from ⟨hlW, hlS, hlG⟩)
  have hsz1 : (w.alloc (.cells (evCells e) 54)).heap.size = w.heap.size + 1 := by simp
  have c4 := hu1.c4
  have n1 := h.nWS
  have hW1 : W < w.heap.size + 1 := by omega
  have hS1 : S < w.heap.size + 1 := by omega
  clear h hb1 hu1 hlW hlS hlG
  go_enter Tryd.func40, Tryd.ntmps40
  go_wp2_with fail
  generalize (w.alloc (.cells (evCells e) 54)).alloc _ = w2 at HUW HBW ⊢
  have c5 := HUW.out.c5
  have q0 : Calls Tryd.prog 47 #[.pointer (some ⟨W, 0, none⟩), .int .i64 0, .int .i64 1] w2 fun e w' => e = .returned (.bool (hasU u 0 1)) ∧ w2 = w' := has_u 0 (by decide) 1 w2 HUW.out
  have q1 : Calls Tryd.prog 47 #[.pointer (some ⟨W, 0, none⟩), .int .i64 1, .int .i64 1] w2 fun e w' => e = .returned (.bool (hasU u 1 1)) ∧ w2 = w' := has_u 1 (by decide) 1 w2 HUW.out
  have q2 : Calls Tryd.prog 47 #[.pointer (some ⟨W, 0, none⟩), .int .i64 2, .int .i64 1] w2 fun e w' => e = .returned (.bool (hasU u 2 1)) ∧ w2 = w' := has_u 2 (by decide) 1 w2 HUW.out
  refine wp_loop_rounds 4 ?_
  rw [rounds_succ]
  go_wp2_with fail
  refine q0.mono ?_
  rintro x w3 ⟨rfl, rfl⟩
  cases v0 : hasU u 0 1
  · go_wp2_with fail
    rw [rounds_succ]
    go_wp2_with fail
    refine q1.mono ?_
    rintro x w3 ⟨rfl, rfl⟩
    cases v1 : hasU u 1 1
    · go_wp2_with fail
      rw [rounds_succ]
      go_wp2_with fail
      refine q2.mono ?_
      rintro x w3 ⟨rfl, rfl⟩
      cases v2 : hasU u 2 1
      · go_wp2_with fail
        rw [rounds_succ]
        go_wp2
        all_goals go_returns
        all_goals exact ⟨rfl, HBW.out⟩
      · go_wp2
        all_goals go_returns
        all_goals exact ⟨rfl, HBW.out⟩
    · go_wp2
      all_goals go_returns
      all_goals exact ⟨rfl, HBW.out⟩
  · go_wp2
    all_goals go_returns
    all_goals exact ⟨rfl, HBW.out⟩

set_option maxHeartbeats 8000000 in
set_option maxRecDepth 100000 in
theorem rule_prot {W S G : Nat} {B a b : Int} {cs cg : Nat} {u : U} (t : Nat) (ht : t < 3) (e : Ev) (he : e.Ok) (hth : e.th = (t : Int)) (w : World) (h : UAt W S G B a b cs cg u w) (hk : e.kind = 5) (hn : e.nk = 5) (hs : e.slot = 1) :
    Calls Tryd.prog 40 #[.pointer (some ⟨W, 0, none⟩), .agg (evCells e)] w fun x w' => x = .returned (.int .i64 (0)) ∧ Below w.heap.size w w' := by
  have hb1 : Below w.heap.size w (w.alloc (.cells (evCells e) 54)) := by go_grown
  have hu1 := h.below hb1
  obtain ⟨hlW, hlS, hlG⟩ := h.lt
  have e0 : (w.alloc (.cells (evCells e) 54)).cell? ⟨w.heap.size, 0, none⟩ = some (.int .i64 e.seq) := by simp [go_sem, evCells]
  have e1 : (w.alloc (.cells (evCells e) 54)).cell? ⟨w.heap.size, 1, none⟩ = some (.int .i64 e.th) := by simp [go_sem, evCells]
  have e2 : (w.alloc (.cells (evCells e) 54)).cell? ⟨w.heap.size, 2, none⟩ = some (.int .i64 e.by_) := by simp [go_sem, evCells]
  have e3 : (w.alloc (.cells (evCells e) 54)).cell? ⟨w.heap.size, 3, none⟩ = some (.int .i64 e.kind) := by simp [go_sem, evCells]
  have e4 : (w.alloc (.cells (evCells e) 54)).cell? ⟨w.heap.size, 4, none⟩ = some (.int .i64 e.at_) := by simp [go_sem, evCells]
  have e5 : (w.alloc (.cells (evCells e) 54)).cell? ⟨w.heap.size, 5, none⟩ = some (.int .u64 e.old) := by simp [go_sem, evCells]
  have e6 : (w.alloc (.cells (evCells e) 54)).cell? ⟨w.heap.size, 6, none⟩ = some (.int .u64 e.new) := by simp [go_sem, evCells]
  have e7 : (w.alloc (.cells (evCells e) 54)).cell? ⟨w.heap.size, 7, none⟩ = some (.bool e.ok) := by simp [go_sem, evCells]
  have e8 : (w.alloc (.cells (evCells e) 54)).cell? ⟨w.heap.size, 8, none⟩ = some (.int .i64 e.nk) := by simp [go_sem, evCells]
  have e9 : (w.alloc (.cells (evCells e) 54)).cell? ⟨w.heap.size, 9, none⟩ = some (.int .i64 e.slot) := by simp [go_sem, evCells]
  have e10 : (w.alloc (.cells (evCells e) 54)).cell? ⟨w.heap.size, 10, none⟩ = some (.int .i64 e.life) := by simp [go_sem, evCells]
  have e11 : (w.alloc (.cells (evCells e) 54)).cell? ⟨w.heap.size, 11, none⟩ = some (.int .i64 e.guard) := by simp [go_sem, evCells]
  have e12 : (w.alloc (.cells (evCells e) 54)).cell? ⟨w.heap.size, 12, none⟩ = some (.int .i64 e.read) := by simp [go_sem, evCells]
  have e13 : (w.alloc (.cells (evCells e) 54)).cell? ⟨w.heap.size, 13, none⟩ = some (.int .i64 e.cls) := by simp [go_sem, evCells]
  have e14 : (w.alloc (.cells (evCells e) 54)).cell? ⟨w.heap.size, 14, none⟩ = some (.int .u64 e.n) := by simp [go_sem, evCells]
  have e15 : (w.alloc (.cells (evCells e) 54)).cell? ⟨w.heap.size, 15, none⟩ = some (.int .i64 e.code) := by simp [go_sem, evCells]
  rw [hk] at e3
  rw [hn] at e8
  rw [hth] at e1
  rw [hs] at e9
  have s0 := hu1.s0
  have s1 := hu1.s1
  have s2 := hu1.s2
  have s3 := hu1.s3
  have s4 := hu1.s4
  have s5 := hu1.s5
  obtain ⟨s6, s7, s8, s9, s10, s11, s12, s13⟩ := hu1.cells
  have x1 : (evCells e)[1]? = some (.int .i64 (t : Int)) := by simp [evCells, hth]
  have x3 : (evCells e)[3]? = some (.int .i64 5) := by simp [evCells, hk]
  have x8 : (evCells e)[8]? = some (.int .i64 5) := by simp [evCells, hn]
  have x9 : (evCells e)[9]? = some (.int .i64 1) := by simp [evCells, hs]
  have x10 : (evCells e)[10]? = some (.int .i64 (e.life)) := by simp [evCells]
  have HB1 := Lib.hid hb1
  have HU1 := Lib.hid hu1
  have HL := Lib.hid (show W < w.heap.size ∧ S < w.heap.size ∧ G < w.heap.size from ⟨hlW, hlS, hlG⟩)
  have hsz1 : (w.alloc (.cells (evCells e) 54)).heap.size = w.heap.size + 1 := by simp
  have c4 := hu1.c4
  have n1 := h.nWS
  have hW1 : W < w.heap.size + 1 := by omega
  have hS1 : S < w.heap.size + 1 := by omega
  clear h hb1 hu1 hlW hlS hlG
  go_enter Tryd.func40, Tryd.ntmps40
  go_wp2
  go_returns
  exact ⟨rfl, by go_grown⟩

set_option maxHeartbeats 8000000 in
set_option maxRecDepth 100000 in
theorem rule_clear1 {W S G : Nat} {B a b : Int} {cs cg : Nat} {u : U} (t : Nat) (ht : t < 3) (e : Ev) (he : e.Ok) (hth : e.th = (t : Int)) (w : World) (h : UAt W S G B a b cs cg u w) (hk : e.kind = 5) (hn : e.nk = 7) (hs : e.slot = 1) :
    Calls Tryd.prog 40 #[.pointer (some ⟨W, 0, none⟩), .agg (evCells e)] w fun x w' => x = .returned (.int .i64 (0)) ∧ Below w.heap.size w w' := by
  have hb1 : Below w.heap.size w (w.alloc (.cells (evCells e) 54)) := by go_grown
  have hu1 := h.below hb1
  obtain ⟨hlW, hlS, hlG⟩ := h.lt
  have e0 : (w.alloc (.cells (evCells e) 54)).cell? ⟨w.heap.size, 0, none⟩ = some (.int .i64 e.seq) := by simp [go_sem, evCells]
  have e1 : (w.alloc (.cells (evCells e) 54)).cell? ⟨w.heap.size, 1, none⟩ = some (.int .i64 e.th) := by simp [go_sem, evCells]
  have e2 : (w.alloc (.cells (evCells e) 54)).cell? ⟨w.heap.size, 2, none⟩ = some (.int .i64 e.by_) := by simp [go_sem, evCells]
  have e3 : (w.alloc (.cells (evCells e) 54)).cell? ⟨w.heap.size, 3, none⟩ = some (.int .i64 e.kind) := by simp [go_sem, evCells]
  have e4 : (w.alloc (.cells (evCells e) 54)).cell? ⟨w.heap.size, 4, none⟩ = some (.int .i64 e.at_) := by simp [go_sem, evCells]
  have e5 : (w.alloc (.cells (evCells e) 54)).cell? ⟨w.heap.size, 5, none⟩ = some (.int .u64 e.old) := by simp [go_sem, evCells]
  have e6 : (w.alloc (.cells (evCells e) 54)).cell? ⟨w.heap.size, 6, none⟩ = some (.int .u64 e.new) := by simp [go_sem, evCells]
  have e7 : (w.alloc (.cells (evCells e) 54)).cell? ⟨w.heap.size, 7, none⟩ = some (.bool e.ok) := by simp [go_sem, evCells]
  have e8 : (w.alloc (.cells (evCells e) 54)).cell? ⟨w.heap.size, 8, none⟩ = some (.int .i64 e.nk) := by simp [go_sem, evCells]
  have e9 : (w.alloc (.cells (evCells e) 54)).cell? ⟨w.heap.size, 9, none⟩ = some (.int .i64 e.slot) := by simp [go_sem, evCells]
  have e10 : (w.alloc (.cells (evCells e) 54)).cell? ⟨w.heap.size, 10, none⟩ = some (.int .i64 e.life) := by simp [go_sem, evCells]
  have e11 : (w.alloc (.cells (evCells e) 54)).cell? ⟨w.heap.size, 11, none⟩ = some (.int .i64 e.guard) := by simp [go_sem, evCells]
  have e12 : (w.alloc (.cells (evCells e) 54)).cell? ⟨w.heap.size, 12, none⟩ = some (.int .i64 e.read) := by simp [go_sem, evCells]
  have e13 : (w.alloc (.cells (evCells e) 54)).cell? ⟨w.heap.size, 13, none⟩ = some (.int .i64 e.cls) := by simp [go_sem, evCells]
  have e14 : (w.alloc (.cells (evCells e) 54)).cell? ⟨w.heap.size, 14, none⟩ = some (.int .u64 e.n) := by simp [go_sem, evCells]
  have e15 : (w.alloc (.cells (evCells e) 54)).cell? ⟨w.heap.size, 15, none⟩ = some (.int .i64 e.code) := by simp [go_sem, evCells]
  rw [hk] at e3
  rw [hn] at e8
  rw [hth] at e1
  rw [hs] at e9
  have s0 := hu1.s0
  have s1 := hu1.s1
  have s2 := hu1.s2
  have s3 := hu1.s3
  have s4 := hu1.s4
  have s5 := hu1.s5
  obtain ⟨s6, s7, s8, s9, s10, s11, s12, s13⟩ := hu1.cells
  have x1 : (evCells e)[1]? = some (.int .i64 (t : Int)) := by simp [evCells, hth]
  have x3 : (evCells e)[3]? = some (.int .i64 5) := by simp [evCells, hk]
  have x8 : (evCells e)[8]? = some (.int .i64 7) := by simp [evCells, hn]
  have x9 : (evCells e)[9]? = some (.int .i64 1) := by simp [evCells, hs]
  have x10 : (evCells e)[10]? = some (.int .i64 (e.life)) := by simp [evCells]
  have HB1 := Lib.hid hb1
  have HU1 := Lib.hid hu1
  have HL := Lib.hid (show W < w.heap.size ∧ S < w.heap.size ∧ G < w.heap.size from ⟨hlW, hlS, hlG⟩)
  have hsz1 : (w.alloc (.cells (evCells e) 54)).heap.size = w.heap.size + 1 := by simp
  have c4 := hu1.c4
  have n1 := h.nWS
  have hW1 : W < w.heap.size + 1 := by omega
  have hS1 : S < w.heap.size + 1 := by omega
  clear h hb1 hu1 hlW hlS hlG
  go_enter Tryd.func40, Tryd.ntmps40
  go_wp2
  go_returns
  exact ⟨rfl, by go_grown⟩

set_option maxHeartbeats 8000000 in
set_option maxRecDepth 100000 in
theorem rule_out8 {W S G : Nat} {B a b : Int} {cs cg : Nat} {u : U} (t : Nat) (ht : t < 3) (e : Ev) (he : e.Ok) (hth : e.th = (t : Int)) (w : World) (h : UAt W S G B a b cs cg u w) (hk : e.kind = 5) (hn : e.nk = 8) (hs1 : decide (1 ≤ e.slot) = true) (hs2 : decide (e.slot ≤ 1) = false) :
    Calls Tryd.prog 40 #[.pointer (some ⟨W, 0, none⟩), .agg (evCells e)] w fun x w' => x = .returned (.int .i64 (6)) ∧ Below w.heap.size w w' := by
  have hb1 : Below w.heap.size w (w.alloc (.cells (evCells e) 54)) := by go_grown
  have hu1 := h.below hb1
  obtain ⟨hlW, hlS, hlG⟩ := h.lt
  have e0 : (w.alloc (.cells (evCells e) 54)).cell? ⟨w.heap.size, 0, none⟩ = some (.int .i64 e.seq) := by simp [go_sem, evCells]
  have e1 : (w.alloc (.cells (evCells e) 54)).cell? ⟨w.heap.size, 1, none⟩ = some (.int .i64 e.th) := by simp [go_sem, evCells]
  have e2 : (w.alloc (.cells (evCells e) 54)).cell? ⟨w.heap.size, 2, none⟩ = some (.int .i64 e.by_) := by simp [go_sem, evCells]
  have e3 : (w.alloc (.cells (evCells e) 54)).cell? ⟨w.heap.size, 3, none⟩ = some (.int .i64 e.kind) := by simp [go_sem, evCells]
  have e4 : (w.alloc (.cells (evCells e) 54)).cell? ⟨w.heap.size, 4, none⟩ = some (.int .i64 e.at_) := by simp [go_sem, evCells]
  have e5 : (w.alloc (.cells (evCells e) 54)).cell? ⟨w.heap.size, 5, none⟩ = some (.int .u64 e.old) := by simp [go_sem, evCells]
  have e6 : (w.alloc (.cells (evCells e) 54)).cell? ⟨w.heap.size, 6, none⟩ = some (.int .u64 e.new) := by simp [go_sem, evCells]
  have e7 : (w.alloc (.cells (evCells e) 54)).cell? ⟨w.heap.size, 7, none⟩ = some (.bool e.ok) := by simp [go_sem, evCells]
  have e8 : (w.alloc (.cells (evCells e) 54)).cell? ⟨w.heap.size, 8, none⟩ = some (.int .i64 e.nk) := by simp [go_sem, evCells]
  have e9 : (w.alloc (.cells (evCells e) 54)).cell? ⟨w.heap.size, 9, none⟩ = some (.int .i64 e.slot) := by simp [go_sem, evCells]
  have e10 : (w.alloc (.cells (evCells e) 54)).cell? ⟨w.heap.size, 10, none⟩ = some (.int .i64 e.life) := by simp [go_sem, evCells]
  have e11 : (w.alloc (.cells (evCells e) 54)).cell? ⟨w.heap.size, 11, none⟩ = some (.int .i64 e.guard) := by simp [go_sem, evCells]
  have e12 : (w.alloc (.cells (evCells e) 54)).cell? ⟨w.heap.size, 12, none⟩ = some (.int .i64 e.read) := by simp [go_sem, evCells]
  have e13 : (w.alloc (.cells (evCells e) 54)).cell? ⟨w.heap.size, 13, none⟩ = some (.int .i64 e.cls) := by simp [go_sem, evCells]
  have e14 : (w.alloc (.cells (evCells e) 54)).cell? ⟨w.heap.size, 14, none⟩ = some (.int .u64 e.n) := by simp [go_sem, evCells]
  have e15 : (w.alloc (.cells (evCells e) 54)).cell? ⟨w.heap.size, 15, none⟩ = some (.int .i64 e.code) := by simp [go_sem, evCells]
  rw [hk] at e3
  rw [hn] at e8
  rw [hth] at e1
  have x1 : (evCells e)[1]? = some (.int .i64 (t : Int)) := by simp [evCells, hth]
  have x3 : (evCells e)[3]? = some (.int .i64 5) := by simp [evCells, hk]
  have x8 : (evCells e)[8]? = some (.int .i64 8) := by simp [evCells, hn]
  have x9 : (evCells e)[9]? = some (.int .i64 e.slot) := by simp [evCells]
  have x10 : (evCells e)[10]? = some (.int .i64 (e.life)) := by simp [evCells]
  have HB1 := Lib.hid hb1
  have HU1 := Lib.hid hu1
  have HL := Lib.hid (show W < w.heap.size ∧ S < w.heap.size ∧ G < w.heap.size from ⟨hlW, hlS, hlG⟩)
  have hsz1 : (w.alloc (.cells (evCells e) 54)).heap.size = w.heap.size + 1 := by simp
  have c4 := hu1.c4
  have n1 := h.nWS
  have hW1 : W < w.heap.size + 1 := by omega
  have hS1 : S < w.heap.size + 1 := by omega
  clear h hb1 hu1 hlW hlS hlG
  go_enter Tryd.func40, Tryd.ntmps40
  go_wp2
  go_returns
  exact ⟨rfl, by go_grown⟩

set_option maxHeartbeats 8000000 in
set_option maxRecDepth 100000 in
theorem rule_clear {W S G : Nat} {B a b : Int} {cs cg : Nat} {u : U} (t : Nat) (ht : t < 3) (e : Ev) (he : e.Ok) (hth : e.th = (t : Int)) (w : World) (h : UAt W S G B a b cs cg u w) (hk : e.kind = 5) (hn : e.nk = 7) (hs1 : decide (1 ≤ e.slot) = false) :
    Calls Tryd.prog 40 #[.pointer (some ⟨W, 0, none⟩), .agg (evCells e)] w fun x w' => x = .returned (.int .i64 (0)) ∧ Below w.heap.size w w' := by
  have hb1 : Below w.heap.size w (w.alloc (.cells (evCells e) 54)) := by go_grown
  have hu1 := h.below hb1
  obtain ⟨hlW, hlS, hlG⟩ := h.lt
  have e0 : (w.alloc (.cells (evCells e) 54)).cell? ⟨w.heap.size, 0, none⟩ = some (.int .i64 e.seq) := by simp [go_sem, evCells]
  have e1 : (w.alloc (.cells (evCells e) 54)).cell? ⟨w.heap.size, 1, none⟩ = some (.int .i64 e.th) := by simp [go_sem, evCells]
  have e2 : (w.alloc (.cells (evCells e) 54)).cell? ⟨w.heap.size, 2, none⟩ = some (.int .i64 e.by_) := by simp [go_sem, evCells]
  have e3 : (w.alloc (.cells (evCells e) 54)).cell? ⟨w.heap.size, 3, none⟩ = some (.int .i64 e.kind) := by simp [go_sem, evCells]
  have e4 : (w.alloc (.cells (evCells e) 54)).cell? ⟨w.heap.size, 4, none⟩ = some (.int .i64 e.at_) := by simp [go_sem, evCells]
  have e5 : (w.alloc (.cells (evCells e) 54)).cell? ⟨w.heap.size, 5, none⟩ = some (.int .u64 e.old) := by simp [go_sem, evCells]
  have e6 : (w.alloc (.cells (evCells e) 54)).cell? ⟨w.heap.size, 6, none⟩ = some (.int .u64 e.new) := by simp [go_sem, evCells]
  have e7 : (w.alloc (.cells (evCells e) 54)).cell? ⟨w.heap.size, 7, none⟩ = some (.bool e.ok) := by simp [go_sem, evCells]
  have e8 : (w.alloc (.cells (evCells e) 54)).cell? ⟨w.heap.size, 8, none⟩ = some (.int .i64 e.nk) := by simp [go_sem, evCells]
  have e9 : (w.alloc (.cells (evCells e) 54)).cell? ⟨w.heap.size, 9, none⟩ = some (.int .i64 e.slot) := by simp [go_sem, evCells]
  have e10 : (w.alloc (.cells (evCells e) 54)).cell? ⟨w.heap.size, 10, none⟩ = some (.int .i64 e.life) := by simp [go_sem, evCells]
  have e11 : (w.alloc (.cells (evCells e) 54)).cell? ⟨w.heap.size, 11, none⟩ = some (.int .i64 e.guard) := by simp [go_sem, evCells]
  have e12 : (w.alloc (.cells (evCells e) 54)).cell? ⟨w.heap.size, 12, none⟩ = some (.int .i64 e.read) := by simp [go_sem, evCells]
  have e13 : (w.alloc (.cells (evCells e) 54)).cell? ⟨w.heap.size, 13, none⟩ = some (.int .i64 e.cls) := by simp [go_sem, evCells]
  have e14 : (w.alloc (.cells (evCells e) 54)).cell? ⟨w.heap.size, 14, none⟩ = some (.int .u64 e.n) := by simp [go_sem, evCells]
  have e15 : (w.alloc (.cells (evCells e) 54)).cell? ⟨w.heap.size, 15, none⟩ = some (.int .i64 e.code) := by simp [go_sem, evCells]
  rw [hk] at e3
  rw [hn] at e8
  rw [hth] at e1
  have x1 : (evCells e)[1]? = some (.int .i64 (t : Int)) := by simp [evCells, hth]
  have x3 : (evCells e)[3]? = some (.int .i64 5) := by simp [evCells, hk]
  have x8 : (evCells e)[8]? = some (.int .i64 7) := by simp [evCells, hn]
  have x9 : (evCells e)[9]? = some (.int .i64 e.slot) := by simp [evCells]
  have x10 : (evCells e)[10]? = some (.int .i64 (e.life)) := by simp [evCells]
  have HB1 := Lib.hid hb1
  have HU1 := Lib.hid hu1
  have HL := Lib.hid (show W < w.heap.size ∧ S < w.heap.size ∧ G < w.heap.size from ⟨hlW, hlS, hlG⟩)
  have hsz1 : (w.alloc (.cells (evCells e) 54)).heap.size = w.heap.size + 1 := by simp
  have c4 := hu1.c4
  have n1 := h.nWS
  have hW1 : W < w.heap.size + 1 := by omega
  have hS1 : S < w.heap.size + 1 := by omega
  clear h hb1 hu1 hlW hlS hlG
  go_enter Tryd.func40, Tryd.ntmps40
  go_wp2
  go_returns
  exact ⟨rfl, by go_grown⟩

end Go.Proofs.YtejfcmgnacimgaaDoor
