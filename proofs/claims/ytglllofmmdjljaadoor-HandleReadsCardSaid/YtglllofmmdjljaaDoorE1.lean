/- What the reference's Num answers for any word: its decimal digits; no condition. -/
import Derived.Test.YtglllofmmdjljaaDoorA3
namespace Go.Proofs.YtglllofmmdjljaaDoor
open Go.RowKit Go.Sort Go.Lib

def dch (d : Nat) : UInt8 := UInt8.ofNat (48 + d)

theorem slice_digit (d : Nat) (hd : d < 10) (W : World) : (Instr.slice 9 (.string ⟨#[48, 49, 50, 51, 52, 53, 54, 55, 56, 57]⟩) (some (.int .i64 (d : Int))) (some (.int .i64 ((d : Int) + 1))) none).run Tryd.prog W = .ok (.string ⟨[dch d].toArray⟩) W := by
  have h : d = 0 ∨ d = 1 ∨ d = 2 ∨ d = 3 ∨ d = 4 ∨ d = 5 ∨ d = 6 ∨ d = 7 ∨ d = 8 ∨ d = 9 := by omega
  rcases h with rfl | rfl | rfl | rfl | rfl | rfl | rfl | rfl | rfl | rfl <;> rfl

theorem dec_small {n : Nat} (h : n < 10) : decDigits n = [dch n] := by rw [decDigits, dif_pos h]; rfl
theorem dec_big {n : Nat} (h : ¬ n < 10) : decDigits n = decDigits (n / 10) ++ [dch (n % 10)] := by rw [decDigits, dif_neg h]; rfl

def NumInv (n0 : Nat) (t0 t3 : Value) : Prop := ∃ (n : Nat) (S : List UInt8), t0 = .int .u64 n ∧ t3 = .string ⟨S.toArray⟩ ∧ decDigits n ++ S = decDigits n0 ∧ n ≤ n0

set_option maxHeartbeats 400000 in
set_option maxRecDepth 100000 in
theorem num_any (n0 : Nat) (h1 : n0 < 18446744073709551616) (w : World) :
    Calls Tryd.prog 32 #[.int .u64 n0] w fun e w' => e = .returned (.string ⟨(decDigits n0).toArray⟩) ∧ w = w' := by
  have hlen := dec_len n0 h1
  go_enter Tryd.func32, Tryd.ntmps32
  go_wp2
  go_loop [0, 3] (fun t0 t3 => NumInv n0 t0 t3) (fun t0 _ => (RowKit.intOf t0).toNat)
  case atStart => exact ⟨n0, [], rfl, rfl, by simp, Nat.le_refl _⟩
  case round =>
    obtain ⟨n, S, rfl, rfl, hS, hn⟩ := hrel
    have hSl : S.length ≤ 20 := by have := congrArg List.length hS; simp at this; omega
    have HS := Lib.hid hS
    clear hS
    by_cases hs : n < 10
    · have hd := fun W => slice_digit n hs W
      have hm : (n : Int) % 10 = n := by omega
      have hv := Lib.hid (dec_small hs)
      cases S with
      | nil =>
        have h9 : decide ((9 : Int) < (n : Int)) = false := by simp; omega
        go_wp2
        go_ret
        exact ⟨ret_str (by have := HS.out; rw [hv.out] at this; simpa using this), rfl⟩
      | cons c T =>
        have h9 : decide ((9 : Int) < (n : Int)) = false := by simp; omega
        have k1 : ∀ w : World, (Op.stringOp .add ⟨[dch n].toArray⟩ ⟨(c :: T).toArray⟩).run Tryd.prog w = .ok (.string ⟨([dch n] ++ (c :: T)).toArray⟩) w := fun w => run_string_add_lists w [dch n] (c :: T) (by simp) (by omega)
        clear hm
        go_wp2
        go_ret
        exact ⟨ret_str (by have := HS.out; rw [hv.out] at this; simpa using this), rfl⟩
    · have hd := fun W => slice_digit (n % 10) (by omega) W
      rw [show ((n % 10 : Nat) : Int) = (n : Int) % 10 by omega] at hd
      have h9 : decide ((9 : Int) < (n : Int)) = true := by simp; omega
      have hv := Lib.hid (dec_big hs)
      have k1 : ∀ w : World, (Op.stringOp .add ⟨[dch (n % 10)].toArray⟩ ⟨S.toArray⟩).run Tryd.prog w = .ok (.string ⟨([dch (n % 10)] ++ S).toArray⟩) w := fun w => run_string_add_lists w [dch (n % 10)] S (by simp) (by omega)
      have hge : (10 : Int) ≤ (n : Int) := by omega
      clear hs
      cases S with
      | nil =>
        go_wp2
        go_round
        case rel => exact ⟨n / 10, [dch (n % 10)], by go_num, rfl, by have := HS.out; rw [hv.out] at this; simpa using this, by omega⟩
        case measure => simp [RowKit.intOf]; omega
      | cons c T =>
        go_wp2
        go_round
        case rel => exact ⟨n / 10, [dch (n % 10)] ++ (c :: T), by go_num, rfl, by have := HS.out; rw [hv.out] at this; simpa using this, by omega⟩
        case measure => simp [RowKit.intOf]; omega
end Go.Proofs.YtglllofmmdjljaaDoor
