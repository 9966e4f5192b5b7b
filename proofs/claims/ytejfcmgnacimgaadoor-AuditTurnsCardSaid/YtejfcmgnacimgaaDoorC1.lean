/- The contract of judge, whole. -/
import Derived.Test.YtejfcmgnacimgaaDoorA6a
import Derived.Test.YtejfcmgnacimgaaDoorA6b
import Derived.Test.YtejfcmgnacimgaaDoorA6c
import Derived.Test.YtejfcmgnacimgaaDoorA6d
namespace Go.Proofs.YtejfcmgnacimgaaDoor
open Go.RowKit
set_option linter.unusedVariables false
set_option linter.unusedSimpArgs false

def judgeF (s : RS) (e : Ev) : Int :=
  let i := (subj s e).1
  let x := s.sl i.toNat
  let touch := accB e.kind && (e.by_ == 1 && i != 0)
  if !thB s e.th then 0
  else if touch && decide ((subj s e).2 < 0) then 2
  else if touch && !rightB s e.th i then 1
  else if ntB e 3 && (i == 0 || x.st != 0) then 3
  else if ntB e 3 && !folB e.life x.life then 4
  else if ntB e 4 && !ownB s e.th i then 5
  else if ntB e 8 && x.st != 2 then 6
  else if ntB e 9 && x.st != 3 then 7
  else if ntB e 9 && anyB s i (s.T + 1).toNat then 8
  else 0

theorem fndS_in {s : RS} (hs : s.Ok) (p : Int) : 0 ≤ (fndS s.B s.a s.b p).1 ∧ (fndS s.B s.a s.b p).1 < (s.m : Int) := by
  have h1 := hs.a
  have h2 := hs.b
  have h3 := hs.m
  unfold fndS
  split
  · simp; omega
  · split
    · simp only; omega
    · split
      · simp only; omega
      · simp; omega

theorem subj_in {s : RS} (hs : s.Ok) (e : Ev) : ∃ n : Nat, (subj s e).1 = (n : Int) ∧ n < s.m := by
  have h3 := hs.m
  have h1 := hs.a
  have h2 := hs.b
  unfold subj
  split
  · have := fndS_in hs e.at_
    exact ⟨(fndS s.B s.a s.b e.at_).1.toNat, by omega, by omega⟩
  · split
    · rename_i h
      obtain ⟨n, h1, -, h2⟩ := hasB_yes h
      exact ⟨n, h1, h2⟩
    · exact ⟨0, rfl, by omega⟩

theorem acc_nt {e : Ev} (h : accB e.kind = true) (k : Int) : ntB e k = false := by
  unfold accB at h
  unfold ntB
  simp at h
  have : ¬ e.kind = 5 := by omega
  simp [this]
theorem nt_acc {e : Ev} {k : Int} (h : ntB e k = true) : accB e.kind = false ∧ e.nk = k := by
  unfold ntB at h
  simp at h
  unfold accB
  rw [h.1]
  exact ⟨by decide, h.2⟩
theorem nt_other {e : Ev} {k l : Int} (h : ntB e k = true) (hl : l ≠ k) : ntB e l = false := by
  have := (nt_acc h).2
  unfold ntB
  rw [this]
  simp
  exact fun _ g => hl g.symm

theorem judge_any {R S M : Nat} {s : RS} (hs : s.Ok) (e : Ev) (he : e.Ok) (w : World) (h : RepAt R S M s w) :
    Calls Tryd.prog 22 #[.pointer (some ⟨R, 0, none⟩), .agg (evCells e)] w fun x w' => x = .returned (.tuple #[.int .i64 (judgeF s e), .int .i64 (subj s e).1]) ∧ Below w.heap.size w w' := by
  obtain ⟨n, hn1, hn⟩ := subj_in hs e
  obtain ⟨wd, hwd⟩ : ∃ wd, (subj s e).2 = wd := ⟨_, rfl⟩
  have hsub : subj s e = ((n : Int), wd) := by rw [← hn1, ← hwd]
  have hl : ∀ {d : Int} (hd : judgeF s e = d), (Calls Tryd.prog 22 #[.pointer (some ⟨R, 0, none⟩), .agg (evCells e)] w fun x w' => x = .returned (.tuple #[.int .i64 d, .int .i64 n]) ∧ Below w.heap.size w w') →
      Calls Tryd.prog 22 #[.pointer (some ⟨R, 0, none⟩), .agg (evCells e)] w fun x w' => x = .returned (.tuple #[.int .i64 (judgeF s e), .int .i64 (subj s e).1]) ∧ Below w.heap.size w w' := by
    intro d hd hc
    rw [hd, hn1]
    exact hc
  cases hT : thB s e.th
  · cases ha : accB e.kind
    · exact hl (by simp [judgeF, hT]) (judge_A1 hs e he w h n hn wd hsub hT ha)
    · cases hb : e.by_ == 1
      · exact hl (by simp [judgeF, hT]) (judge_A2 hs e he w h n hn wd hsub hT ha hb)
      · cases hz : (n : Int) != 0
        · exact hl (by simp [judgeF, hT]) (judge_A3 hs e he w h n hn wd hsub hT ha hb hz)
        · exact hl (by simp [judgeF, hT]) (judge_A4 hs e he w h n hn wd hsub hT ha hb hz)
  · cases ha : accB e.kind
    · have htouch : (accB e.kind && (e.by_ == 1 && (n : Int) != 0)) = false := by rw [ha]; rfl
      cases n3 : ntB e 3
      · cases n4 : ntB e 4
        · cases n8 : ntB e 8
          · cases n9 : ntB e 9
            · exact hl (by simp [judgeF, hT, hsub, ha, n3, n4, n8, n9]) (judge_G1 hs e he w h n hn wd hsub hT ha n3 n4 n8 n9)
            · cases hst : (s.sl n).st != 3
              · cases hy : anyB s n (s.T + 1).toNat
                · exact hl (by simp [judgeF, hT, hsub, ha, n3, n4, n8, n9, hy, hst]) (judge_F3 hs e he w h n hn wd hsub hT ha n3 n4 n8 n9 hst hy)
                · exact hl (by simp [judgeF, hT, hsub, ha, n3, n4, n8, n9, hy, hst]) (judge_F2 hs e he w h n hn wd hsub hT ha n3 n4 n8 n9 hst hy)
              · exact hl (by simp [judgeF, hT, hsub, ha, n3, n4, n8, n9, hst]) (judge_F1 hs e he w h n hn wd hsub hT ha n3 n4 n8 n9 hst)
          · have n9 := nt_other n8 (show (9 : Int) ≠ 8 by decide)
            cases hst : (s.sl n).st != 2
            · exact hl (by simp [judgeF, hT, hsub, ha, n3, n4, n8, n9, hst]) (judge_E2 hs e he w h n hn wd hsub hT ha n3 n4 n8 n9 hst)
            · exact hl (by simp [judgeF, hT, hsub, ha, n3, n4, n8, n9, hst]) (judge_E1 hs e he w h n hn wd hsub hT ha n3 n4 n8 n9 hst)
        · have n8 := nt_other n4 (show (8 : Int) ≠ 4 by decide)
          have n9 := nt_other n4 (show (9 : Int) ≠ 4 by decide)
          cases ho : ownB s e.th n
          · exact hl (by simp [judgeF, hT, hsub, ha, n3, n4, n8, n9, ho]) (judge_D1 hs e he w h n hn wd hsub hT ha n3 n4 n8 n9 ho)
          · exact hl (by simp [judgeF, hT, hsub, ha, n3, n4, n8, n9, ho]) (judge_D2 hs e he w h n hn wd hsub hT ha n3 n4 n8 n9 ho)
      · have n4 := nt_other n3 (show (4 : Int) ≠ 3 by decide)
        have n8 := nt_other n3 (show (8 : Int) ≠ 3 by decide)
        have n9 := nt_other n3 (show (9 : Int) ≠ 3 by decide)
        cases hz : (n : Int) == 0
        · cases hst : (s.sl n).st != 0
          · cases hf : folB e.life (s.sl n).life
            · exact hl (by simp [judgeF, hT, hsub, ha, n3, n4, n8, n9, hst, hf] <;> simpa using hz) (judge_C3 hs e he w h n hn wd hsub hT ha n3 n4 n8 n9 hz hst hf)
            · exact hl (by simp [judgeF, hT, hsub, ha, n3, n4, n8, n9, hst, hf] <;> simpa using hz) (judge_C4 hs e he w h n hn wd hsub hT ha n3 n4 n8 n9 hz hst hf)
          · exact hl (by simp [judgeF, hT, hsub, ha, n3, n4, n8, n9, hst] <;> simpa using hz) (judge_C2 hs e he w h n hn wd hsub hT ha n3 n4 n8 n9 hz hst)
        · exact hl (by have h0 : n = 0 := (by simpa using hz); subst h0; simp [judgeF, hT, hsub, ha, n3]) (judge_C1 hs e he w h n hn wd hsub hT ha n3 n4 n8 n9 hz)
    · have n3 := acc_nt ha 3
      have n4 := acc_nt ha 4
      have n8 := acc_nt ha 8
      have n9 := acc_nt ha 9
      cases hb : e.by_ == 1
      · exact hl (by simp [judgeF, hT, hsub, ha, n3, n4, n8, n9, hb]) (judge_G2 hs e he w h n hn wd hsub hT ha hb n3 n4 n8 n9)
      · cases hz : (n : Int) != 0
        · exact hl (by simp only [judgeF, hT, hsub, ha, n3, n4, n8, n9, hb, hz]; rfl) (judge_G3 hs e he w h n hn wd hsub hT ha hb hz n3 n4 n8 n9)
        · by_cases hw : wd < 0
          · exact hl (by simp only [judgeF, hT, hsub, ha, n3, n4, n8, n9, hb, hz, decide_eq_true hw]; rfl) (judge_B1 hs e he w h n hn wd hsub hT ha hb hz hw)
          · have hw' : decide (wd < 0) = false := by simpa using hw
            have hw0 : 0 ≤ wd := by omega
            cases hr : rightB s e.th n
            · exact hl (by simp only [judgeF, hT, hsub, ha, n3, n4, n8, n9, hb, hz, hw', hr]; rfl) (judge_B2 hs e he w h n hn wd hsub hT ha hb hz hw0 hr)
            · exact hl (by simp only [judgeF, hT, hsub, ha, n3, n4, n8, n9, hb, hz, hw', hr]; rfl) (judge_B3 hs e he w h n hn wd hsub hT ha hb hz hw0 hr n3 n4 n8 n9)
end Go.Proofs.YtejfcmgnacimgaaDoor
