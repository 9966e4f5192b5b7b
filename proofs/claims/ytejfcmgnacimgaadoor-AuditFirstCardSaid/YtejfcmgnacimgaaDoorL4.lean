/- AuditFirst answers true for every argument, in whatever world. -/
import Derived.Test.YtejfcmgnacimgaaDoorL3
namespace Go.Proofs.YtejfcmgnacimgaaDoor
open Go.RowKit Go.ChangeMaps
set_option linter.unusedVariables false
set_option linter.unusedSimpArgs false

theorem slk (ad : Option Addr) (len cap k : Nat) (hk : k ≤ cap) (W : World) : (Instr.sliceAt 39 (.slice ad len cap) none (some (.int .i64 k)) none).run Tryd.prog W = .ok (.slice ad k cap) W := by
  have h1 : (sizeOf (Tryd.prog.elem 39)).run Tryd.prog W = .ok 16 W := by kernel_rfl
  rw [run_sliceAt_slice (h := by kernel_rfl), run_slice_h (ht := by kernel_rfl) (h0 := by omega) (h2 := by omega), h1]
  have h2 : ∀ a : Addr, a.add 0 = a := fun a => by simp [Addr.add]
  cases ad <;> simp [Result.andThen, sliced, h2]

theorem evsIn_take {ad : Option Addr} {es : List Ev} {w : World} (h : EvsIn ad es w) (k : Nat) : EvsIn ad (es.take k) w := fun j e hj => h j e (by
  rw [List.getElem?_take] at hj
  split at hj
  · exact hj
  · cases hj)

theorem pick_k (n : Int) (len : Nat) (hl : len ≤ 300) : ∃ k : Nat, k ≤ len ∧ wrap64 ((IntKind.u64.wrap n).tmod ((len : Int) + 1)) = k := by
  have h0 : 0 ≤ IntKind.u64.wrap n := by
    have : IntKind.u64.wrap n = n % 18446744073709551616 := rfl
    rw [this]; omega
  have h1 : 0 ≤ (IntKind.u64.wrap n).tmod ((len : Int) + 1) := Int.tmod_nonneg _ h0
  have h2 : (IntKind.u64.wrap n).tmod ((len : Int) + 1) < (len : Int) + 1 := Int.tmod_lt_of_pos _ (by omega)
  refine ⟨((IntKind.u64.wrap n).tmod ((len : Int) + 1)).toNat, by omega, ?_⟩
  rw [Int.toNat_of_nonneg h1]
  unfold wrap64
  omega

theorem law_first (T B a b n : Int) (ad : Option Addr) (len cap : Nat) (es : List Ev) (hl : es.length = len) (hcap : len ≤ cap) (hes : ∀ e ∈ es, e.Ok) (w : World) (hz : Sz w) (hin : EvsIn ad es w) :
    Calls Tryd.prog 4 #[facts T B a b, .slice ad len cap, .int .i64 n] w fun x w' => x = .returned (.bool true) ∧ Below w.heap.size w w' := by
  by_cases hlen : 300 < len
  · exact first_out T B a b ad len cap n (Or.inr hlen) w hz
  · cases hs : smallB T B a b
    · exact first_out T B a b ad len cap n (Or.inl hs) w hz
    · obtain ⟨-, -, -, hB0, hB1⟩ := small_yes hs
      obtain ⟨k, hk, hkn⟩ := pick_k n len (by omega)
      have hkl : (es.take k).length = k := by rw [List.length_take]; omega
      refine first_c T B a b ad len cap k (by omega) hk n hkn hs w hz (slk ad len cap k (by omega)) (chkF (start T B a b) 0 (es.take k)).at_ (chkF (start T B a b) 0 (es.take k)).fault (chkF (start T B a b) 0 (es.take k)).th (chkF (start T B a b) 0 (es.take k)).slot
        (chkF (start T B a b) 0 es).at_ (chkF (start T B a b) 0 es).fault (chkF (start T B a b) 0 es).th (chkF (start T B a b) 0 es).slot ?_ ?_ ?_
      · exact fun W hW => check_any T B a b ⟨hB0, hB1⟩ ad k cap (es.take k) hkl (by omega) (fun e he => hes e (List.mem_of_mem_take he)) W (hz.below hW) ((evsIn_take hin k).below hW)
      · exact fun W hW => check_any T B a b ⟨hB0, hB1⟩ ad len cap es hl (by omega) hes W (hz.below hW) (hin.below hW)
      · have h := chk_app (es.take k) (es.drop k) (start T B a b) 0
        rw [List.take_append_drop, hkl] at h
        rcases h with ⟨h1, h2⟩ | ⟨h1, h2, h3, h4⟩
        · rw [h1]
          rcases h2 with h2 | h2
          · left; rw [h2]; exact ⟨rfl, rfl, rfl, rfl, rfl⟩
          · by_cases hu : (chkF (start T B a b) 0 es).fault = 0
            · left; exact ⟨rfl, rfl, rfl, rfl, hu⟩
            · right; left
              exact ⟨rfl, rfl, rfl, rfl, by simpa using hu, by simpa using h2⟩
        · right; right
          rw [h2]
          exact ⟨by simpa using h1, rfl, rfl, rfl, rfl, by simpa using h3, by simpa using h4⟩
end Go.Proofs.YtejfcmgnacimgaaDoor
