/- The document's own world of layer 6 at first: New. -/
import Derived.Test.YtejfcmgnacimgaaDoorN1
namespace Go.Proofs.YtejfcmgnacimgaaDoor
open Go.RowKit
set_option linter.unusedVariables false
set_option linter.unusedSimpArgs false

def sl61 : Array Value := #[.int .i64 0, .int .i64 0, .int .i64 (-1), .int .i64 0, .int .i64 (-1), .int .i64 0, .int .u64 0, .int .u64 0, .int .u64 0, .int .u64 0, .int .u64 0, .int .u64 0, .int .u64 0, .int .u64 0]

theorem one61 : ∀ u ∈ sl61.toList, u.oneCell' = true := List.all_eq_true.1 (by kernel_rfl : sl61.toList.all (·.oneCell') = true)
def sl62 : Array Value := #[.int .i64 0, .int .i64 0, .int .i64 0, .int .i64 0, .int .i64 0, .int .i64 0, .int .i64 0, .int .i64 0, .int .i64 0, .int .i64 0, .int .i64 0, .int .i64 0]
theorem one62 : ∀ u ∈ sl62.toList, u.oneCell' = true := List.all_eq_true.1 (by kernel_rfl : sl62.toList.all (·.oneCell') = true)
theorem own_draw {w : World} {base : Nat} {e : TypeId} {size : Nat} {v : Value} {n : Nat} {xs : List Value} (h : w.ownsRow base e size v n xs) (j : Nat) : (w.drewN j).ownsRow base e size v n xs := own_below h (below_drewN (Below.refl _ _) j)
theorem NS.draw {W base : Nat} {B a b : Int} {e : TypeId} {z c k : Nat} {fs : List (Addr × Value)} {w0 w : World} (h : NS W base B a b e z c k fs w0 w) (j : Nat) : NS W base B a b e z c k fs w0 (w.drewN j) := by
  obtain ⟨v, xs, h1, h2⟩ := h.cr
  exact ⟨h.c1, h.c2, h.c3, ⟨v, xs, h1, own_draw h2 j⟩, h.fx, h.f, h.hc, h.hfx, h.hW, h.hbase, h.hsz, below_drewN h.hb j⟩
theorem NS.row5 {W base : Nat} {B a b : Int} {k : Nat} {fs : List (Addr × Value)} {w0 w : World} {v : Value} (h : NS W base B a b 61 14 4 k fs w0 w) (h5 : w.cell? ⟨W, 5, none⟩ = some (.slice none 0 0)) (h4 : w.cell? ⟨W, 4, none⟩ = some v) :
    NS W base B a b 62 12 5 0 [(⟨W, 4, none⟩, v)] w0 w := by
  refine ⟨h.c1, h.c2, h.c3, ⟨_, [], h5, World.ownsRow_nil _ _ _ _⟩, ?_, h.f, by decide, ?_, h.hW, h.hbase, h.hsz, h.hb⟩
  · intro p hp
    obtain rfl := List.mem_singleton.1 hp
    exact h4
  · intro p hp
    obtain rfl := List.mem_singleton.1 hp
    exact ⟨by have := h.hW; have := h.hbase; simp only; omega, by simp⟩
theorem ns0 (T B a b x y : Int) (w : World) : NS (w.heap.size + 1) (w.heap.size + 2) B x y 61 14 4 0 [(⟨w.heap.size, 0, none⟩, .int .i64 T), (⟨w.heap.size + 1, 5, none⟩, .slice none 0 0)] w
    ((w.alloc (.cells #[.int .i64 T, .int .i64 B, .int .i64 a, .int .i64 b] 24)).alloc (.cells #[.int .i64 T, .int .i64 B, .int .i64 x, .int .i64 y, .slice none 0 0, .slice none 0 0, .int .i64 0] 35)) := by
  refine ⟨by simp [go_sem], by simp [go_sem], by simp [go_sem], ⟨.slice none 0 0, [], by simp [go_sem], World.ownsRow_nil _ _ _ _⟩, ?_, fun o => by simp [go_sem], by decide, ?_, rfl, rfl, by simp, by go_grown⟩
  · intro p hp
    simp only [List.mem_cons, List.mem_singleton, List.not_mem_nil, or_false] at hp
    rcases hp with rfl | rfl <;> simp [go_sem]
  · intro p hp
    simp only [List.mem_cons, List.mem_singleton, List.not_mem_nil, or_false] at hp
    rcases hp with rfl | rfl <;> simp

theorem clamp_two (a : Int) (h : a ≤ 20) : (a < 0 ∧ clamp a 4096 = 0) ∨ (0 ≤ a ∧ clamp a 4096 = a) := by
  by_cases g : a < 0
  · exact Or.inl ⟨g, clamp_lo g⟩
  · exact Or.inr ⟨by omega, clamp_in (by omega) (by omega)⟩

set_option maxHeartbeats 8000000 in
set_option maxRecDepth 100000 in
theorem refNew_any (T B a b x y : Int) (hT : T ≤ 17) (hB : 0 ≤ B ∧ B ≤ 1000) (ha : a ≤ 20) (hb : b ≤ 20) (hx : clamp a 4096 = x) (hy : clamp b 4096 = y) (m : Nat) (hm : (m : Int) = x + y) (w : World) :
    Calls Tryd.prog 9 #[facts T B a b] w fun e w' => ∃ W, e = .returned (.pointer (some ⟨W, 0, none⟩)) ∧ WAt W B x y m w' ∧ Below w.heap.size w w' := by
  obtain ⟨i, z, hi, hz, hc, h1, h8⟩ : ∃ i z, Tryd.prog.info? 61 = some i ∧ i.zero = some z ∧ z.cells.size = 14 ∧ i.size = 14 ∧ i.bytes = 112 := by
    have := info61
    cases hh : Tryd.prog.info? 61 with
    | none => rw [hh] at this; cases this
    | some i => rw [hh] at this; simp at this; obtain ⟨⟨z, hz, h0⟩, h1, h2⟩ := this; exact ⟨i, z, rfl, hz, h0, h1, h2⟩
  obtain ⟨i', z', hi', hz', hc', h1', h8'⟩ : ∃ i z, Tryd.prog.info? 62 = some i ∧ i.zero = some z ∧ z.cells.size = 12 ∧ i.size = 12 ∧ i.bytes = 96 := by
    have := info62
    cases hh : Tryd.prog.info? 62 with
    | none => rw [hh] at this; cases this
    | some i => rw [hh] at this; simp at this; obtain ⟨⟨z, hz, h0⟩, h1, h2⟩ := this; exact ⟨i, z, rfl, hz, h0, h1, h2⟩
  unfold facts
  have HM := Lib.hid hm
  have HN := Lib.hid (ns0 T B a b x y w)
  have hm9 : (m : Int) ≤ 40 := by
    rcases clamp_two a ha with ⟨_, e⟩ | ⟨_, e⟩ <;> rcases clamp_two b hb with ⟨_, e'⟩ | ⟨_, e'⟩ <;> omega
  have hx0 : 0 ≤ x ∧ x ≤ 20 := by rcases clamp_two a ha with ⟨_, e⟩ | ⟨_, e⟩ <;> omega
  have hy0 : 0 ≤ y ∧ y ≤ 20 := by rcases clamp_two b hb with ⟨_, e⟩ | ⟨_, e⟩ <;> omega
  have HX := Lib.hid (And.intro hx0 hy0)
  have HT := Lib.hid hT
  clear hm hT
  rcases clamp_two a ha with ⟨g, e⟩ | ⟨g, e⟩ <;> rcases clamp_two b hb with ⟨f, e'⟩ | ⟨f, e'⟩
  all_goals
    rw [hx] at e
    rw [hy] at e'
    clear hx hy
    subst e e'
    go_enter Tryd.func9, Tryd.ntmps9
    go_wp2_with fail
    refine wp_loop_rounds 3 ?_
    rw [rounds_succ]
    go_wp2_with fail
    rw [rounds_succ]
    go_wp2_with fail
    rw [rounds_succ]
    go_wp2_with fail
    generalize (w.alloc (.cells #[.int .i64 T, .int .i64 B, .int .i64 _, .int .i64 _] 24)).alloc _ = w2 at HN ⊢
    go_loopw [5] (fun v wr => ∃ k : Nat, k ≤ m ∧ v = .int .i64 k ∧ NS (w.heap.size + 1) (w.heap.size + 2) B _ _ 61 14 4 k [(⟨w.heap.size, 0, none⟩, .int .i64 T), (⟨w.heap.size + 1, 5, none⟩, .slice none 0 0)] w wr) (fun v _ => m - (intOf v).toNat)
    case atStart => exact ⟨0, by omega, rfl, HN.out⟩
    case round =>
      obtain ⟨k, hk, rfl, hn⟩ := hrel
      have c2 := hn.c2
      have c3 := hn.c3
      obtain ⟨v, xs, cr, hown⟩ := hn.cr
      obtain ⟨ad2, cap2, rfl⟩ := own_slice hown
      have H1 := Lib.hid (fun n => hn.draw n)
      have HO := Lib.hid (fun n => own_draw hown n)
      have hk9 : (k : Int) ≤ 40 := by omega
      clear hn hown
      by_cases hlt : k < m
      · have hlt' : (k : Int) < m := by omega
        have hE := HM.out
        go_wp2_with fail
        go_quiet (fail)
        go_wp2_with (first
          | (at_builtin; refine wpList_append_lies _ rfl (.tmp 64) (.tmp 66) 32 rfl (w.heap.size + 2) 61 i z 14 112 Tryd.underlying32 hi hz h1 h8 hc (by decide) (.slice ad2 k cap2) k xs rfl ((HO.out _).alloc _) ⟨wr.heap.size, 0, none⟩ 1 1 sl61.toList rfl ?_ ?_ ?_ (by decide) (by unfold maxLen; omega) ?_ ?_ _ rfl ?_
             · rfl
             · exact newsN (wr.drewN _) sl61 61
             · exact one61
             · omega
             · (have := (H1.out 0).hsz; simp at this ⊢; omega)
             intro g2 cap3 w3 hown2 hgrow hatg hlt2
             obtain ⟨S1, S2, u4, S3⟩ := (H1.out _).step (HO.out _) hown2 hgrow
             have H2 := Lib.hid S1
             have S2' := S2 4
             clear hown2 hgrow hatg hlt2 S1 S2))
        all_goals exact ⟨⟨k + 1, by omega, rfl, H2.out⟩, by simp [intOf]; omega⟩
      · have hge : (m : Int) ≤ k := by omega
        have hE := HM.out
        have htT := ((H1.out 0).fx (⟨w.heap.size, 0, none⟩, .int .i64 T) (by simp))
        have hs5 := ((H1.out 0).fx (⟨w.heap.size + 1, 5, none⟩, .slice none 0 0) (by simp))
        simp only at htT hs5
        rw [World.drewN_zero] at htT hs5
        have hkm : k = m := by omega
        subst hkm
        have HN5 := Lib.hid (fun n => (H1.out n).row5 (by rw [World.cell?_drewN]; exact hs5) (by rw [World.cell?_drewN]; exact cr))
        have hTT := HT.out
        clear hs5 cr
        have hT3 : T < 0 ∨ (0 ≤ T ∧ T ≤ 16) ∨ 16 < T := by omega
        rcases hT3 with hT0 | hT0 | hT0
        all_goals
          go_wp2_with fail
          go_quiet (fail)
          go_wp2_with fail
          clear hE hge
          go_loopw [7] (fun v wr => ∃ q : Nat, q ≤ 17 ∧ v = .int .i64 q ∧ NS (w.heap.size + 1) (w.heap.size + 2) B _ _ 62 12 5 q [(⟨w.heap.size + 1, 4, none⟩, .slice ad2 k cap2)] w wr) (fun v _ => 18 - (intOf v).toNat)
          case atStart => exact ⟨0, by omega, rfl, HN5.out _⟩
          case round =>
            obtain ⟨q, hq, rfl, hn⟩ := hrel
            obtain ⟨v, xs, cr, hown⟩ := hn.cr
            obtain ⟨ad3, cap3, rfl⟩ := own_slice hown
            have H4 := Lib.hid hn
            have H5 := Lib.hid hown
            clear hn hown
            rcases Nat.eq_zero_or_pos q with rfl | hq0
            all_goals go_wp2_with (first
              | (at_builtin; (refine wpList_append_lies _ rfl (.tmp 85) (.tmp 87) 33 rfl (w.heap.size + 2) 62 i' z' 12 96 Tryd.underlying33 hi' hz' h1' h8' hc' (by decide) (.slice ad3 _ cap3) _ xs rfl (H5.out.alloc _) ⟨wr.heap.size, 0, none⟩ 1 1 sl62.toList rfl ?_ ?_ ?_ (by decide) (by unfold maxLen; omega) ?_ ?_ _ rfl ?_)
                 · rfl
                 · (exact newsN wr sl62 62)
                 · exact one62
                 · omega
                 · (have := H4.out.hsz; simp at this ⊢; omega)
                 intro g2 cap4 w3 hown2 hgrow hatg hlt2
                 obtain ⟨S1, S2, u4, S3⟩ := H4.out.step H5.out hown2 hgrow
                 have H2 := Lib.hid S1
                 have S2' := S2 5
                 clear hown2 hgrow hatg hlt2 S1 S2))
            all_goals first
              | (refine ⟨⟨_, ?_, ?_, H2.out⟩, ?_⟩; omega; rfl; (simp only [intOf]; omega))
              | (go_returns
                 exact ⟨_, rfl, ⟨H4.out.c1, H4.out.c2, ⟨_, _, H4.out.fx _ (List.mem_singleton.2 rfl)⟩, hB, HX.out.1, HX.out.2, HM.out⟩, H4.out.hb⟩)
              | skip
            all_goals
              refine ⟨?_, ?_⟩
              · (repeat apply Exists.intro)
                refine ⟨?_, rfl⟩
                refine ⟨_, ?_, ?_, H2.out⟩
                · omega
                · rfl
              · simp [intOf]; try omega
end Go.Proofs.YtejfcmgnacimgaaDoor
