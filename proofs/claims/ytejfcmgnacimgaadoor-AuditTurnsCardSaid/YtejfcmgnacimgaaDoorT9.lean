/- The stories of AuditTurns, and what both checks say of them, reckoned. -/
import Derived.Test.YtejfcmgnacimgaaDoorT8
import Derived.Test.YtejfcmgnacimgaaDoorT0b
namespace Go.Proofs.YtejfcmgnacimgaaDoor
open Go.RowKit
set_option linter.unusedVariables false
set_option linter.unusedSimpArgs false

def nE (th nk slot life guard read cls : Int) : Ev := ⟨0, th, 0, 5, 0, 0, 0, false, nk, slot, life, guard, read, cls, 0, 0⟩
def aE (th kind at_ new : Int) (ok : Bool) : Ev := ⟨0, th, 1, kind, at_, 0, new, ok, 0, 0, 0, 0, 0, 0, 0, 0⟩

/-- The story, turned at one place. -/
def story (turn t c g : Int) : List Ev :=
  [nE t 3 1 1 0 0 c, aE t 2 7 9 false, aE t 3 0 1 (turn != 6), aE (1 - t) 1 0 1 false, nE (1 - t) 5 1 0 g 3 0,
   aE (if turn = 1 then t else 1 - t) 1 (if turn = 2 then 6 else 7) 9 false, nE t (if turn = 5 then 4 else if turn = 7 then 9 else 8) 1 0 0 0 0, aE (1 - t) 1 8 0 false,
   nE (1 - t) (if turn = 9 then 8 else 7) (if turn = 9 then 2 else 0) 0 (if turn = 8 then g + 1 else g) 0 0, nE t (if turn = 3 then 7 else 9) 1 0 0 0 0, nE t 3 1 (if turn = 4 then 3 else 2) 0 0 c]
/-- The cells of a list of events. -/
def rowOf (es : List Ev) : Array Value := (es.flatMap fun e => (evCells e).toList).toArray
def wantV (turn t : Int) : Vd :=
  if turn = 1 then ⟨5, 1, t, 1⟩ else if turn = 2 then ⟨5, 2, 1 - t, 1⟩ else if turn = 3 then ⟨10, 3, t, 1⟩ else if turn = 4 then ⟨10, 4, t, 1⟩ else if turn = 5 then ⟨6, 5, t, 1⟩
  else if turn = 6 then ⟨5, 1, 1 - t, 1⟩ else if turn = 7 then ⟨6, 7, t, 1⟩ else if turn = 8 then ⟨9, 8, t, 1⟩ else if turn = 9 then ⟨8, 6, 1 - t, 0⟩ else noV

def vdB (v w : Vd) : Bool := v.at_ == w.at_ && (v.fault == w.fault && (v.th == w.th && v.slot == w.slot))
theorem vdB_eq {v w : Vd} (h : vdB v w = true) : v = w := by
  unfold vdB at h
  simp at h
  obtain ⟨h1, h2, h3, h4⟩ := h
  cases v; cases w
  simp only at h1 h2 h3 h4
  subst h1 h2 h3 h4
  rfl
def bothB (c turn t g : Nat) : Bool :=
  vdB (chkF (start 2 5 (1 - (c : Int)) c) 0 (story turn t c g)) (wantV turn t) && (match chkU 5 (1 - (c : Int)) c u0 0 (story turn t c g) with | some v => vdB v (wantV turn t) | none => false)
def allB : Bool := (List.range 2).all fun c => (List.range 10).all fun turn => (List.range 2).all fun t => (List.range 12).all fun g => bothB c turn t g
theorem all_true : allB = true := by kernel_rfl

theorem both {c turn t g : Nat} (hc : c < 2) (hu : turn < 10) (ht : t < 2) (hg : g < 12) : chkF (start 2 5 (1 - (c : Int)) c) 0 (story turn t c g) = wantV turn t ∧ chkU 5 (1 - (c : Int)) c u0 0 (story turn t c g) = some (wantV turn t) := by
  have h := all_true
  have h1 := List.all_eq_true.1 h c (List.mem_range.2 hc)
  have h2 := List.all_eq_true.1 h1 turn (List.mem_range.2 hu)
  have h3 := List.all_eq_true.1 h2 t (List.mem_range.2 ht)
  have h4 := List.all_eq_true.1 h3 g (List.mem_range.2 hg)
  unfold bothB at h4
  rw [Bool.and_eq_true] at h4
  refine ⟨vdB_eq h4.1, ?_⟩
  have h5 := h4.2
  cases hx : chkU 5 (1 - (c : Int)) c u0 0 (story turn t c g) with
  | none => rw [hx] at h5; cases h5
  | some v => rw [hx] at h5; rw [vdB_eq h5]
end Go.Proofs.YtejfcmgnacimgaaDoor
