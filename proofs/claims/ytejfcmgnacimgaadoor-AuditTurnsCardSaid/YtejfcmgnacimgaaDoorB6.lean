/- The contracts of writes and write. -/
import Derived.Test.YtejfcmgnacimgaaDoorB5
import Derived.Laws.EntriesVeiled
namespace Go.Proofs.YtejfcmgnacimgaaDoor
open Go.RowKit
set_option linter.unusedVariables false
set_option linter.unusedSimpArgs false

def writesB (e : Ev) : Bool := (e.kind == 2 || (e.kind == 3 && e.ok)) && (e.by_ == 1 || e.by_ == 4)

set_option maxHeartbeats 4000000 in
set_option maxRecDepth 100000 in
theorem writes_any (e : Ev) (w : World) : Calls Tryd.prog 38 #[.agg (evCells e)] w fun x w' => x = .returned (.bool (writesB e)) ∧ Below w.heap.size w w' := by
  have hE := EvAt.new e w 54
  have c2 := hE.c2
  have c3 := hE.c3
  have c7 := hE.c7
  have hb0 : Below w.heap.size w (w.alloc (.cells (evCells e) 54)) := by go_grown
  have HB := Lib.hid hb0
  clear hE hb0
  unfold writesB
  cases k2 : e.kind == 2 <;> cases k3 : e.kind == 3 <;> cases ko : e.ok <;> cases b1 : e.by_ == 1 <;> cases b4 : e.by_ == 4
  all_goals
    rw [ko] at c7
    go_enter Tryd.func38, Tryd.ntmps38
    go_wp2
    go_returns
    exact ⟨rfl, HB.out⟩

theorem nm_le (x : Int) (h0 : 0 ≤ x) (h : x < 10) : nm x ≤ 7 := by unfold nm; split <;> omega
theorem fndS_le (B a b p : Int) : (fndS B a b p).2 ≤ 7 := by
  unfold fndS
  split
  · simp
  · split
    · exact nm_le _ (by omega) (by omega)
    · split
      · exact nm_le _ (by omega) (by omega)
      · simp

def wrS (x : Sl) (k : Nat) (v : Int) : Sl := ⟨x.st, x.life, x.th, x.pub, x.ret, x.ends, fun j => if j = k then v else x.ws j⟩
def writeF (s : RS) (at_ : Int) (e : Ev) : RS :=
  if ownB s e.th (fndS s.B s.a s.b e.at_).1 then
    if 0 ≤ (fndS s.B s.a s.b e.at_).2 then setSl s (fndS s.B s.a s.b e.at_).1.toNat (wrS (s.sl (fndS s.B s.a s.b e.at_).1.toNat) (fndS s.B s.a s.b e.at_).2.toNat e.new) else s
  else pubF (s.m + 1) s e.th at_ e.new

theorem cnt_le (s : RS) (t : Int) : cnt s t ≤ s.m := by
  unfold cnt
  have := List.countP_le_length (p := fun i : Nat => ownB s t (i : Int)) (l := List.range s.m)
  simpa using this

set_option maxHeartbeats 8000000 in
set_option maxRecDepth 100000 in
theorem write_no {R S M : Nat} {s : RS} (hS0 : S ≠ 0) (hs : s.Ok) (hwk : s.Wok) (at_ : Int) (e : Ev) (he : e.Ok) (hth : e.th ≠ -1) (w : World) (h : RepAt R S M s w) (ho : ownB s e.th (fndS s.B s.a s.b e.at_).1 = false) :
    Calls Tryd.prog 39 #[.pointer (some ⟨R, 0, none⟩), .int .i64 at_, .agg (evCells e)] w fun x w' => x = .returned (.tuple #[]) ∧ RepAt R S M (writeF s at_ e) w' ∧ Kq w.heap.size S M w w' := by
  obtain ⟨W, hW⟩ : ∃ W, W = ((w.alloc (.cells #[.pointer (some ⟨R, 0, none⟩)] 65)).alloc (.cells #[.int .i64 at_] 3)).alloc (.cells (evCells e) 54) := ⟨_, rfl⟩
  have hb0 : Below w.heap.size w W := by subst hW; go_grown
  have hr := h.below hb0
  have hE : EvAt (w.heap.size + 2) e W := by
    have := EvAt.new e ((w.alloc (.cells #[.pointer (some ⟨R, 0, none⟩)] 65)).alloc (.cells #[.int .i64 at_] 3)) 54
    rw [← hW] at this
    simpa using this
  have p1 : W.cell? ⟨w.heap.size, 0, none⟩ = some (.pointer (some ⟨R, 0, none⟩)) := by subst hW; simp [go_sem]
  have p2 : W.cell? ⟨w.heap.size + 1, 0, none⟩ = some (.int .i64 at_) := by subst hW; simp [go_sem]
  have hz : W.heap.size = w.heap.size + 3 := by subst hW; simp
  have hlt := h.lt
  have HB := Lib.hid hb0
  have HR := Lib.hid hr
  have HE := Lib.hid hE
  have r0 := hr.r0
  have r1 := hr.r1
  have r2 := hr.r2
  have r3 := hr.r3
  have c4 := hE.c4
  have hRw : R < w.heap.size := World.block_lt_of_cell? _ _ h.r0
  clear h hb0 hr hE
  unfold writeF
  rw [if_neg (by simp [ho])]
  · skip
    have HO := Lib.hid ho
    clear ho
    go_enter Tryd.func39, Tryd.ntmps39
    go_wp2_with fail
    rw [← hW]
    clear hW
    go_region_with (go_at_call 10; refine (slot_in hs _ he.at_ _ (RepAt.below HR.out (by go_grown))).mono ?_; rintro x w1 ⟨rfl, hb1⟩)
    all_goals
      have hbW : Below W.heap.size W w1 := Below.mono (Below.trans (by go_grown) hb1) (Nat.le_refl _)
      have HR1 := Lib.hid (HR.out.below hbW)
      have HE1 := Lib.hid (HE.out.below hbW)
      have HB1 := Lib.hid (HB.out.trans (hbW.mono HB.out.size))
      have hz1 : w.heap.size + 3 ≤ w1.heap.size := by rw [← hz]; exact hbW.size
      have hz2 : w.heap.size + 2 < w1.heap.size := by omega
      have hz3 : w.heap.size + 1 + 1 < w1.heap.size := by omega
      have p1' := keep hbW p1
      have p2' := keep hbW p2
      clear hbW hb1 r0 r1 r2 r3 c4 p1 p2 hz HR HE HB
      have c1 := HE1.out.c1
      have c6 := HE1.out.c6
      have r4 := HR1.out.r4
      go_wp2_with fail
      refine (owns_any _ _ _ HR1.out).mono ?_
      rintro x w' ⟨rfl, rfl⟩
      rw [HO.out]
      have hcap : Cap S M w.heap.size (w.heap.size + 2) (w.heap.size + 1) w1.heap.size R e at_ (w1.alloc (.cells #[.func (.func 46) #[] #[.pointer (some ⟨w.heap.size, 0, none⟩), .pointer (some ⟨w.heap.size + 2, 0, none⟩), .pointer (some ⟨w.heap.size + 1, 0, none⟩), .pointer (some ⟨w1.heap.size, 0, none⟩)]] 96)) := by
        have hg : Below w1.heap.size w1 (w1.alloc (.cells #[.func (.func 46) #[] #[.pointer (some ⟨w.heap.size, 0, none⟩), .pointer (some ⟨w.heap.size + 2, 0, none⟩), .pointer (some ⟨w.heap.size + 1, 0, none⟩), .pointer (some ⟨w1.heap.size, 0, none⟩)]] 96)) := by go_grown
        exact ⟨keep hg p1', HE1.out.below hg, keep hg p2', by simp [go_sem], ⟨by omega, by omega, by omega, by omega⟩, ⟨by omega, by omega, by omega, by omega⟩⟩
      have HC := Lib.hid hcap
      have hg : Below w1.heap.size w1 (w1.alloc (.cells #[.func (.func 46) #[] #[.pointer (some ⟨w.heap.size, 0, none⟩), .pointer (some ⟨w.heap.size + 2, 0, none⟩), .pointer (some ⟨w.heap.size + 1, 0, none⟩), .pointer (some ⟨w1.heap.size, 0, none⟩)]] 96)) := by go_grown
      have HR2 := Lib.hid (HR1.out.below hg)
      have HB2 := Lib.hid (HB1.out.trans (hg.mono HB1.out.size))
      clear hcap hg
      go_wp2_with fail
      refine (pub_any hS0 e hth at_ s.m s hwk (cnt_le _ _) e.new he.new.1 he.new.2 _ HR2.out HC.out).mono ?_
      rintro x w5 ⟨rfl, hr5, hk5⟩
      have HF := Lib.hid (And.intro hr5 ((Kq.of_below HB2.out (Nat.le_refl _)).trans (hk5.mono HB2.out.size)))
      clear hr5 hk5
      go_wp2
      go_returns
      exact ⟨rfl, HF.out⟩
end Go.Proofs.YtejfcmgnacimgaaDoor
