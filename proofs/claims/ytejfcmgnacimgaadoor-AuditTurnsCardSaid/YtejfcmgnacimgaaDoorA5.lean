/- The contracts of judge and what it calls: which rule an event breaks. -/
import Derived.Test.YtejfcmgnacimgaaDoorA4
namespace Go.Proofs.YtejfcmgnacimgaaDoor
open Go.RowKit
set_option linter.unusedVariables false
set_option linter.unusedSimpArgs false

structure Ev where
  seq : Int
  th : Int
  by_ : Int
  kind : Int
  at_ : Int
  old : Int
  new : Int
  ok : Bool
  nk : Int
  slot : Int
  life : Int
  guard : Int
  read : Int
  cls : Int
  n : Int
  code : Int

def evCells (e : Ev) : Array Value := #[.int .i64 e.seq, .int .i64 e.th, .int .i64 e.by_, .int .i64 e.kind, .int .i64 e.at_, .int .u64 e.old, .int .u64 e.new, .bool e.ok,
  .int .i64 e.nk, .int .i64 e.slot, .int .i64 e.life, .int .i64 e.guard, .int .i64 e.read, .int .i64 e.cls, .int .u64 e.n, .int .i64 e.code]

/-- What is asked of an event's numbers. -/
structure Ev.Ok (e : Ev) : Prop where
  th : (Lit.int .i64 e.th).wf = true
  at_ : -9223372036854775808 ≤ e.at_ ∧ e.at_ ≤ 9223372036854775807
  new : 0 ≤ e.new ∧ e.new ≤ 18446744073709551615

/-- An event lies in a block. -/
structure EvAt (E : Nat) (e : Ev) (w : World) : Prop where
  c0 : w.cell? ⟨E, 0, none⟩ = some (.int .i64 e.seq)
  c1 : w.cell? ⟨E, 1, none⟩ = some (.int .i64 e.th)
  c2 : w.cell? ⟨E, 2, none⟩ = some (.int .i64 e.by_)
  c3 : w.cell? ⟨E, 3, none⟩ = some (.int .i64 e.kind)
  c4 : w.cell? ⟨E, 4, none⟩ = some (.int .i64 e.at_)
  c5 : w.cell? ⟨E, 5, none⟩ = some (.int .u64 e.old)
  c6 : w.cell? ⟨E, 6, none⟩ = some (.int .u64 e.new)
  c7 : w.cell? ⟨E, 7, none⟩ = some (.bool e.ok)
  c8 : w.cell? ⟨E, 8, none⟩ = some (.int .i64 e.nk)
  c9 : w.cell? ⟨E, 9, none⟩ = some (.int .i64 e.slot)
  c10 : w.cell? ⟨E, 10, none⟩ = some (.int .i64 e.life)
  c11 : w.cell? ⟨E, 11, none⟩ = some (.int .i64 e.guard)
  c12 : w.cell? ⟨E, 12, none⟩ = some (.int .i64 e.read)
  c13 : w.cell? ⟨E, 13, none⟩ = some (.int .i64 e.cls)
  c14 : w.cell? ⟨E, 14, none⟩ = some (.int .u64 e.n)
  c15 : w.cell? ⟨E, 15, none⟩ = some (.int .i64 e.code)

theorem EvAt.below {E : Nat} {e : Ev} {w w' : World} (h : EvAt E e w) (hb : Below w.heap.size w w') : EvAt E e w' :=
  ⟨keep hb h.c0, keep hb h.c1, keep hb h.c2, keep hb h.c3, keep hb h.c4, keep hb h.c5, keep hb h.c6, keep hb h.c7, keep hb h.c8, keep hb h.c9, keep hb h.c10, keep hb h.c11, keep hb h.c12, keep hb h.c13, keep hb h.c14, keep hb h.c15⟩
theorem EvAt.new (e : Ev) (w : World) (t : TypeId) : EvAt w.heap.size e (w.alloc (.cells (evCells e) t)) := by
  constructor <;> simp [go_sem, evCells]

def ntB (e : Ev) (k : Int) : Bool := e.kind == 5 && e.nk == k

theorem notes_any (E : Nat) (e : Ev) (k : Int) (w : World) (h : EvAt E e w) : Calls Tryd.prog 29 #[.int .i64 k, .pointer (some ⟨E, 0, none⟩)] w fun x w' => x = .returned (.bool (ntB e k)) ∧ w = w' := by
  have c3 := h.c3
  have c8 := h.c8
  unfold ntB
  by_cases hk : e.kind = 5
  all_goals
    go_enter Tryd.func29, Tryd.ntmps29
    go_wp2
    go_returns
    exact ⟨ret_bool (by simp [hk]), rfl⟩

def subj (s : RS) (e : Ev) : Int × Int := if accB e.kind then fndS s.B s.a s.b e.at_ else if hasB s e.slot then (e.slot, 0) else (0, 0)

theorem fndS_clamp {s : RS} (hs : s.Ok) (p : Int) : fndS s.B (clamp s.a 4096) (clamp s.b 4096) p = fndS s.B s.a s.b p := by
  rw [clamp_in hs.a.1 hs.a.2, clamp_in hs.b.1 hs.b.2]

theorem slot_in {R S M : Nat} {s : RS} (hs : s.Ok) (p : Int) (hp : -9223372036854775808 ≤ p ∧ p ≤ 9223372036854775807) (w : World) (h : RepAt R S M s w) :
    Calls Tryd.prog 10 #[.agg #[.int .i64 s.T, .int .i64 s.B, .int .i64 s.a, .int .i64 s.b], .int .i64 p] w fun e w' => e = .returned (.tuple #[.int .i64 (fndS s.B s.a s.b p).1, .int .i64 (fndS s.B s.a s.b p).2]) ∧ Below w.heap.size w w' := by
  have := slot_any s.T s.B s.a s.b p hs.B hp w h.z
  rw [fndS_clamp hs] at this
  exact this

set_option maxHeartbeats 4000000 in
set_option maxRecDepth 100000 in
theorem subject_any {R S M : Nat} {s : RS} (hs : s.Ok) (e : Ev) (he : e.Ok) (w : World) (h : RepAt R S M s w) :
    Calls Tryd.prog 27 #[.pointer (some ⟨R, 0, none⟩), .agg (evCells e)] w fun x w' => x = .returned (.tuple #[.int .i64 (subj s e).1, .int .i64 (subj s e).2]) ∧ Below w.heap.size w w' := by
  have hb0 : Below w.heap.size w (w.alloc (.cells (evCells e) 54)) := by go_grown
  have hE := EvAt.new e w 54
  have hR := h.below hb0
  have hz : w.heap.size < (w.alloc (.cells (evCells e) 54)).heap.size := by simp
  have c3 := hE.c3
  have c4 := hE.c4
  have c9 := hE.c9
  clear hE
  have r0 := hR.r0
  have r1 := hR.r1
  have r2 := hR.r2
  have r3 := hR.r3
  have HR := Lib.hid hR
  have HB := Lib.hid hb0
  clear hR hb0 h
  unfold subj
  cases ha : accB e.kind
  · rw [if_neg (by simp)]
    cases hb : hasB s e.slot
    · rw [if_neg (by simp)]
      have HA := Lib.hid ha
      have HH := Lib.hid hb
      clear ha hb
      go_enter Tryd.func27, Tryd.ntmps27
      go_wp2_with fail
      refine (isAccess_any _ _).mono ?_
      rintro x w' ⟨rfl, rfl⟩
      rw [HA.out]
      go_wp2_with fail
      refine (hasSlot_any _ _ HR.out).mono ?_
      rintro x w' ⟨rfl, rfl⟩
      rw [HH.out]
      go_wp2
      go_returns
      exact ⟨rfl, HB.out⟩
    · rw [if_pos rfl]
      have HA := Lib.hid ha
      have HH := Lib.hid hb
      clear ha hb
      go_enter Tryd.func27, Tryd.ntmps27
      go_wp2_with fail
      refine (isAccess_any _ _).mono ?_
      rintro x w' ⟨rfl, rfl⟩
      rw [HA.out]
      go_wp2_with fail
      refine (hasSlot_any _ _ HR.out).mono ?_
      rintro x w' ⟨rfl, rfl⟩
      rw [HH.out]
      go_wp2
      go_returns
      exact ⟨rfl, HB.out⟩
  · rw [if_pos rfl]
    have HA := Lib.hid ha
    clear ha
    go_enter Tryd.func27, Tryd.ntmps27
    go_wp2_with fail
    refine (isAccess_any _ _).mono ?_
    rintro x w' ⟨rfl, rfl⟩
    rw [HA.out]
    go_wp2_with fail
    go_region_with (go_at_call 10; refine (slot_in hs _ he.at_ _ (RepAt.below HR.out (by go_grown))).mono ?_; rintro x w1 ⟨rfl, hb1⟩)
    all_goals
      go_wp2
      go_returns
      first
        | exact ⟨rfl, HB.out.trans (Below.mono (Below.trans (by go_grown) hb1) (by simp))⟩
end Go.Proofs.YtejfcmgnacimgaaDoor
