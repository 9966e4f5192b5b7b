/- The document's own world of layer 6: Size, Begin, Find. -/
import Derived.Test.YtejfcmgnacimgaaDoorA2
import Derived.LoopTactic
namespace Go.Proofs.YtejfcmgnacimgaaDoor
open Go.RowKit
set_option linter.unusedVariables false
set_option linter.unusedSimpArgs false

/-- The cells of such a world that places hang on. -/
structure WAt (W : Nat) (B a b : Int) (m : Nat) (w : World) : Prop where
  c1 : w.cell? ⟨W, 1, none⟩ = some (.int .i64 B)
  c2 : w.cell? ⟨W, 2, none⟩ = some (.int .i64 a)
  c4 : ∃ ad cap, w.cell? ⟨W, 4, none⟩ = some (.slice ad m cap)
  hB : 0 ≤ B ∧ B ≤ 1000
  ha : 0 ≤ a ∧ a ≤ 20
  hb : 0 ≤ b ∧ b ≤ 20
  hm : (m : Int) = a + b

def szW (a i : Int) : Int := if i ≤ a then 6 else 10
def begW (B a i : Int) : Int := if i - 1 ≤ a then B + 6 * (i - 1) else B + 6 * a + 10 * (i - 1 - a)
theorem begW_succ (B a i : Int) : begW B a (i + 1) = begW B a i + szW a i := by unfold begW szW; split <;> split <;> split <;> omega
theorem begW_one {B a : Int} (h : 0 ≤ a) : begW B a 1 = B := by unfold begW; rw [if_pos (by omega)]; omega
theorem begW_bd {B a i : Int} (hB : 0 ≤ B ∧ B ≤ 1000) (ha : 0 ≤ a ∧ a ≤ 20) (hi : 1 ≤ i ∧ i ≤ 50) : 0 ≤ begW B a i ∧ begW B a i ≤ 2000 := by unfold begW; split <;> omega

theorem size_any (W : Nat) (B a b : Int) (m : Nat) (i : Int) (w : World) (h : WAt W B a b m w) : Calls Tryd.prog 19 #[.pointer (some ⟨W, 0, none⟩), .int .i64 i] w fun e w' => e = .returned (.int .i64 (szW a i)) ∧ w = w' := by
  have c2 := h.c2
  unfold szW
  clear h
  by_cases hi : i ≤ a
  · rw [if_pos hi]
    go_enter Tryd.func19, Tryd.ntmps19
    go_wp2
    go_returns
    exact ⟨rfl, rfl⟩
  · rw [if_neg hi]
    have hd : decide (i ≤ a) = false := by simpa using hi
    clear hi
    go_enter Tryd.func19, Tryd.ntmps19
    go_wp2
    go_returns
    exact ⟨rfl, rfl⟩

set_option maxHeartbeats 1000000 in
set_option maxRecDepth 100000 in
theorem begin_any (W : Nat) (B a b : Int) (m : Nat) (n : Nat) (hn : 1 ≤ n ∧ n ≤ m) (w : World) (h : WAt W B a b m w) : Calls Tryd.prog 12 #[.pointer (some ⟨W, 0, none⟩), .int .i64 n] w fun e w' => e = .returned (.int .i64 (begW B a n)) ∧ w = w' := by
  have c1 := h.c1
  have HH := Lib.hid h
  have hn40 : (n : Int) ≤ 40 := by have := h.hm; have := h.ha; have := h.hb; omega
  have h1 := begW_one (B := B) h.ha.1
  have H1 := Lib.hid h1
  clear h h1
  go_enter Tryd.func12, Tryd.ntmps12
  go_wp2_with fail
  go_loop [5, 6] (fun u v => ∃ k : Nat, 1 ≤ k ∧ k ≤ n ∧ v = .int .i64 k ∧ u = .int .i64 (begW B a k)) (fun _ v => n - (intOf v).toNat)
  case atStart => exact ⟨1, by omega, by omega, rfl, by rw [show ((1 : Nat) : Int) = 1 from rfl, H1.out]⟩
  case round =>
    obtain ⟨k, hk1, hk2, rfl, rfl⟩ := hrel
    have hk50 : (k : Int) ≤ 50 := by omega
    obtain ⟨b0, b1⟩ := begW_bd HH.out.hB HH.out.ha (i := k) (by omega)
    have hs := begW_succ B a k
    have sz : 0 ≤ szW a k ∧ szW a k ≤ 10 := by unfold szW; split <;> omega
    obtain ⟨s0, s1⟩ := sz
    have HS := Lib.hid hs
    clear hs
    by_cases hlt : k < n
    · have hlt' : (k : Int) < n := by omega
      go_wp2_with fail
      refine (size_any W B a b m k _ HH.out).mono ?_
      rintro e w' ⟨rfl, rfl⟩
      go_wp2
      go_round
      case rel => exact ⟨k + 1, by omega, by omega, by go_num, by rw [show ((k + 1 : Nat) : Int) = (k : Int) + 1 from rfl, HS.out]⟩
      case measure => simp [intOf]; omega
    · obtain rfl : k = n := by omega
      go_wp2
      go_returns
      exact ⟨rfl, rfl⟩

theorem fnd_here {B a b p k : Int} (ha : 0 ≤ a) (hb : 0 ≤ b) (hk : 1 ≤ k ∧ k ≤ a + b) (h0 : begW B a k ≤ p) (h1 : p < begW B a k + szW a k) : fndS B a b p = (k, nm (p - begW B a k)) := by
  by_cases hka : k ≤ a
  · have e1 : begW B a k = B + 6 * (k - 1) := by unfold begW; rw [if_pos (by omega)]
    have e2 : szW a k = 6 := by unfold szW; rw [if_pos hka]
    rw [e1] at h0
    rw [e1, e2] at h1
    rw [e1]
    unfold fndS
    rw [if_neg (by omega), if_pos (by omega), show (p - B) / 6 + 1 = k by omega, show (p - B) % 6 = p - (B + 6 * (k - 1)) by omega]
  · have e2 : szW a k = 10 := by unfold szW; rw [if_neg hka]
    have e1 : begW B a k = B + 6 * a + 10 * (k - 1 - a) := by
      unfold begW
      by_cases hk1 : k - 1 ≤ a
      · rw [if_pos hk1]; omega
      · rw [if_neg hk1]
    rw [e1] at h0
    rw [e1, e2] at h1
    rw [e1]
    unfold fndS
    rw [if_neg (by omega), if_neg (by omega), if_pos (by omega), show a + (p - B - 6 * a) / 10 + 1 = k by omega, show (p - B - 6 * a) % 10 = p - (B + 6 * a + 10 * (k - 1 - a)) by omega]
theorem fnd_none {B a b p : Int} (ha : 0 ≤ a) (hb : 0 ≤ b) (h : p < B ∨ begW B a (a + b + 1) ≤ p) : fndS B a b p = (0, 0) := by
  unfold begW at h
  unfold fndS
  by_cases hp : p < B
  · rw [if_pos hp]
  · have h' : begW B a (a + b + 1) ≤ p := by unfold begW; rcases h with h | h; exact absurd h hp; exact h
    unfold begW at h'
    rw [if_neg hp]
    split at h'
    · rw [if_neg (by omega), if_neg (by omega)]
    · rw [if_neg (by omega), if_neg (by omega)]

set_option maxHeartbeats 2000000 in
set_option maxRecDepth 100000 in
theorem find_any (W : Nat) (B a b : Int) (m : Nat) (p : Int) (hp : -9223372036854775808 ≤ p ∧ p ≤ 9223372036854775807) (w : World) (h : WAt W B a b m w) :
    Calls Tryd.prog 11 #[.pointer (some ⟨W, 0, none⟩), .int .i64 p] w fun e w' => e = .returned (.tuple #[.int .i64 (fndS B a b p).1, .int .i64 (fndS B a b p).2]) ∧ w = w' := by
  have c1 := h.c1
  obtain ⟨ad, cap, c4⟩ := h.c4
  have HH := Lib.hid h
  have hm40 : (m : Int) ≤ 40 := by have := h.hm; have := h.ha; have := h.hb; omega
  have h1 := begW_one (B := B) h.ha.1
  have H1 := Lib.hid h1
  have HP := Lib.hid hp
  clear h h1 hp
  go_enter Tryd.func11, Tryd.ntmps11
  go_wp2_with fail
  go_loop [6, 7] (fun u v => ∃ k : Nat, 1 ≤ k ∧ k ≤ m + 1 ∧ v = .int .i64 k ∧ u = .int .i64 (begW B a k) ∧ (p < B ∨ begW B a k ≤ p)) (fun _ v => m + 1 - (intOf v).toNat)
  case atStart => exact ⟨1, by omega, by omega, rfl, by rw [show ((1 : Nat) : Int) = 1 from rfl, H1.out], by rw [show ((1 : Nat) : Int) = 1 from rfl, H1.out]; omega⟩
  case round =>
    obtain ⟨k, hk1, hk2, rfl, rfl, hpk⟩ := hrel
    have HPK := Lib.hid hpk
    clear hpk
    have hk50 : (k : Int) ≤ 50 := by omega
    obtain ⟨b0, b1⟩ := begW_bd HH.out.hB HH.out.ha (i := k) (by omega)
    have hs := begW_succ B a k
    have sz : 0 ≤ szW a k ∧ szW a k ≤ 10 := by unfold szW; split <;> omega
    obtain ⟨s0, s1⟩ := sz
    have HS := Lib.hid hs
    clear hs
    by_cases hlt : k ≤ m
    · have hlt' : (k : Int) ≤ m := by omega
      have hB := HH.out.hB
      have hgm : B ≤ begW B a k := by unfold begW; have := HH.out.ha; split <;> omega
      by_cases hge : begW B a k ≤ p
      · by_cases hin : p < begW B a k + szW a k
        · have hfd := fnd_here HH.out.ha.1 HH.out.hb.1 (p := p) (k := k) (by have := HH.out.hm; omega) hge hin
          have hx0 : 0 ≤ p - begW B a k := by omega
          have hx1 : p - begW B a k < 10 := by omega
          by_cases h2 : p - begW B a k < 2
          · have hn : nm (p - begW B a k) = -1 - (p - begW B a k) := by unfold nm; rw [if_pos h2]
            rw [hn] at hfd
            have HFD := Lib.hid hfd
            clear hn hgm hB hfd
            go_wp2_with fail
            refine (size_any W B a b m k _ HH.out).mono ?_
            rintro e w' ⟨rfl, rfl⟩
            go_wp2
            go_returns
            exact ⟨by rw [HFD.out]; rfl, rfl⟩
          · have hn : nm (p - begW B a k) = p - begW B a k - 2 := by unfold nm; rw [if_neg h2]
            rw [hn] at hfd
            have HFD := Lib.hid hfd
            have h2' : decide (p - begW B a k < 2) = false := by simpa using h2
            clear hn hgm hB h2 hfd
            go_wp2_with fail
            refine (size_any W B a b m k _ HH.out).mono ?_
            rintro e w' ⟨rfl, rfl⟩
            go_wp2
            go_returns
            exact ⟨by rw [HFD.out]; rfl, rfl⟩
        · have hin' : decide (p < begW B a k + szW a k) = false := by simpa using hin
          have hnx : begW B a (k + 1) ≤ p := by rw [HS.out]; omega
          have HNX := Lib.hid hnx
          clear hin hnx hgm hB
          go_wp2_with fail
          refine (size_any W B a b m k _ HH.out).mono ?_
          rintro e w' ⟨rfl, rfl⟩
          go_wp2_with fail
          refine (size_any W B a b m k _ HH.out).mono ?_
          rintro e w' ⟨rfl, rfl⟩
          go_wp2
          go_round
          case rel => exact ⟨k + 1, by omega, by omega, by go_num, by rw [show ((k + 1 : Nat) : Int) = (k : Int) + 1 from rfl, HS.out], Or.inr HNX.out⟩
          case measure => simp [intOf]; omega
      · have hge' : decide (begW B a k ≤ p) = false := by simpa using hge
        have hpB : p < B := by rcases HPK.out with h | h; exact h; exact absurd h hge
        have HPB := Lib.hid hpB
        clear hge hpB hgm hB
        go_wp2_with fail
        refine (size_any W B a b m k _ HH.out).mono ?_
        rintro e w' ⟨rfl, rfl⟩
        go_wp2
        go_round
        case rel => exact ⟨k + 1, by omega, by omega, by go_num, by rw [show ((k + 1 : Nat) : Int) = (k : Int) + 1 from rfl, HS.out], Or.inl HPB.out⟩
        case measure => simp [intOf]; omega
    · obtain rfl : k = m + 1 := by omega
      have hd : decide (((m + 1 : Nat) : Int) ≤ (m : Int)) = false := by simp; omega
      have hfd : fndS B a b p = (0, 0) := fnd_none HH.out.ha.1 HH.out.hb.1 (by have := HH.out.hm; rw [show a + b + 1 = ((m + 1 : Nat) : Int) by omega]; exact HPK.out)
      have HFD := Lib.hid hfd
      clear hfd
      go_wp2
      go_returns
      exact ⟨by rw [HFD.out]; rfl, rfl⟩
end Go.Proofs.YtejfcmgnacimgaaDoor
