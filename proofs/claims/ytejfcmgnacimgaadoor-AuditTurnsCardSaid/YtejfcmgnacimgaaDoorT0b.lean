/- The document's own New, of two threads and one slot: the walk. -/
import Derived.Test.YtejfcmgnacimgaaDoorT0
namespace Go.Proofs.YtejfcmgnacimgaaDoor
open Go.RowKit
set_option linter.unusedVariables false
set_option linter.unusedSimpArgs false

set_option maxHeartbeats 8000000 in
set_option maxRecDepth 100000 in
theorem newU_any (a b : Int) (hab : (a = 1 ∧ b = 0) ∨ (a = 0 ∧ b = 1)) (w : World) :
    Calls Tryd.prog 9 #[facts 2 5 a b] w fun e w' => ∃ W S G cs cg, e = .returned (.pointer (some ⟨W, 0, none⟩)) ∧ (UAt W S G 5 a b cs cg u0 w' ∧ w.heap.size ≤ W ∧ w.heap.size ≤ S ∧ w.heap.size ≤ G) ∧ Below w.heap.size w w' := by
  obtain ⟨i, z, hi, hz, hc, h1, h8⟩ : ∃ i z, Tryd.prog.info? 61 = some i ∧ i.zero = some z ∧ z.cells.size = 14 ∧ i.size = 14 ∧ i.bytes = 112 := by
    have := info61
    cases hh : Tryd.prog.info? 61 with
    | none => rw [hh] at this; cases this
    | some i => rw [hh] at this; simp at this; obtain ⟨⟨z, hz, h0⟩, h1, h2⟩ := this; exact ⟨i, z, rfl, hz, h0, h1, h2⟩
  obtain ⟨i', z', hi', hz', hc', h1', h8'⟩ : ∃ i z, Tryd.prog.info? 62 = some i ∧ i.zero = some z ∧ z.cells.size = 12 ∧ i.size = 12 ∧ i.bytes = 96 := by
    have := info62
    cases hh : Tryd.prog.info? 62 with
    | none => rw [hh] at this; cases this
    | some i => rw [hh] at this; simp at this; obtain ⟨⟨z, hz, h0⟩, h1, h2⟩ := this; exact ⟨i, z, rfl, hz, h0, h1, h2⟩
  unfold facts
  have HAB := Lib.hid hab
  have HN := Lib.hid (And.intro (ns1 2 5 a b a b w) (nx1 2 5 a b a b w))
  rcases hab with ⟨rfl, rfl⟩ | ⟨rfl, rfl⟩
  all_goals
    go_enter Tryd.func9, Tryd.ntmps9
    go_wp2_with fail
    refine wp_loop_rounds 3 ?_
    rw [rounds_succ]
    go_wp2_with fail
    rw [rounds_succ]
    go_wp2_with fail
    rw [rounds_succ]
    go_wp2_with fail
    generalize (w.alloc (.cells #[.int .i64 2, .int .i64 5, .int .i64 _, .int .i64 _] 24)).alloc _ = w2 at HN ⊢
    have c2 := HN.out.1.c2
    have c3 := HN.out.1.c3
    refine wp_loop_rounds 2 ?_
    rw [rounds_succ]
    go_wp2_with fail
    go_quiet (fail)
    have HN1 := Lib.hid (ns_draw HN.out.1 nq)
    have hcr : (w2.drewN nq).cell? ⟨w.heap.size + 1, 4, none⟩ = some (.slice none 0 0) := HN.out.2
    have HR1 := Lib.hid (World.ownsRow_nil (w2.drewN nq) (w.heap.size + 2) 61 14)
    have c2 : (w2.drewN nq).cell? ⟨w.heap.size + 1, 2, none⟩ = _ := HN1.out.c2
    have c3 : (w2.drewN nq).cell? ⟨w.heap.size + 1, 3, none⟩ = _ := HN1.out.c3
    generalize w2.drewN nq = w2' at *
    go_wp2_with (first
      | (at_builtin; refine wpList_append_lies _ rfl (.tmp 64) (.tmp 66) 32 rfl (w.heap.size + 2) 61 i z 14 112 Tryd.underlying32 hi hz h1 h8 hc (by decide) (.slice none 0 0) 0 [] rfl (HR1.out.alloc _) ⟨w2'.heap.size, 0, none⟩ 1 1 sl61.toList rfl ?_ ?_ ?_ (by decide) (by unfold maxLen; omega) ?_ ?_ _ rfl ?_
         · rfl
         · exact newsN w2' sl61 61
         · exact one61
         · omega
         · (have := HN1.out.hsz; simp; omega)
         intro S cs w3 hown2 hgrow hatg hlt2
         obtain ⟨S1, S2, u4, S3⟩ := HN1.out.step HR1.out hown2 hgrow
         have H2 := Lib.hid S1
         have HO2 := Lib.hid hown2
         have S2' := S2 4
         clear hown2 hgrow hatg hlt2 S1 S2))
    have HG0 := Lib.hid (show NG (w.heap.size + 1) S (w.heap.size + 2) cs _ (.slice none 0 0) 0 [] w (w3.setCell ⟨w.heap.size + 1, 4, none⟩ (.slice (some ⟨S, 0, none⟩) 1 cs)) from
      ⟨H2.out.c1, H2.out.c2, cset_s S3, H2.out.fx (⟨w.heap.size + 1, 5, none⟩, .slice none 0 0) (by simp), H2.out.fx (⟨w.heap.size + 1, 6, none⟩, .int .i64 0) (by simp), H2.out.f, ownsRow_setCell_below HO2.out (by simp only; omega) _, World.ownsRow_nil _ _ _ _, by simp [Value.ownBlock], H2.out.hW, H2.out.hbase, H2.out.hsz, H2.out.hb⟩)
    have htT := H2.out.fx (⟨w.heap.size, 0, none⟩, .int .i64 2) (by simp)
    have c2 := H2.out.c2
    have c3 := H2.out.c3
    simp only at htT
    clear HN HN1 hcr HR1 H2 HO2 S2' S3
    generalize w3.setCell ⟨w.heap.size + 1, 4, none⟩ (.slice (some ⟨S, 0, none⟩) 1 cs) = wa at *
    rw [rounds_succ]
    go_wp2_with fail
    go_quiet (fail)
    have HG0 := Lib.hid (HG0.out.draw nq)
    have htT : (wa.drewN nq).cell? ⟨w.heap.size, 0, none⟩ = some (.int .i64 2) := htT
    clear c2 c3
    generalize wa.drewN nq = wg at *
    have c5 := HG0.out.c5
    go_wp2_with fail
    clear htT
    refine wp_loop_rounds 4 ?_
    rw [rounds_succ]
    go_wp2_with (first
      | (at_builtin; refine wpList_append_lies _ rfl (.tmp 85) (.tmp 87) 33 rfl (w.heap.size + 2) 62 i' z' 12 96 Tryd.underlying33 hi' hz' h1' h8' hc' (by decide) (.slice none 0 0) 0 [] rfl (HG0.out.rg.alloc _) ⟨wg.heap.size, 0, none⟩ 1 1 sl62.toList rfl ?_ ?_ ?_ (by decide) (by unfold maxLen; omega) ?_ ?_ _ rfl ?_
         · rfl
         · exact newsN wg sl62 62
         · exact one62
         · omega
         · (have := HG0.out.hsz; simp; omega)
         intro g1 cap1 w3 hown2 hgrow hatg hlt2
         obtain ⟨S1, S2, u4, S3⟩ := HG0.out.step hown2 hgrow (by simpa using hatg)
         have H2 := Lib.hid S1
         have S2' := S2 5
         clear hown2 hgrow hatg hlt2 S1 S2))
    have HG1 := H2
    clear S2' S3
    generalize w3.setCell ⟨w.heap.size + 1, 5, none⟩ _ = wg1 at HG1 ⊢
    clear H2
    have c5 := HG1.out.c5
    rw [rounds_succ]
    go_wp2_with (first
      | (at_builtin; refine wpList_append_lies _ rfl (.tmp 85) (.tmp 87) 33 rfl (w.heap.size + 2) 62 i' z' 12 96 Tryd.underlying33 hi' hz' h1' h8' hc' (by decide) (.slice (some ⟨g1, 0, none⟩) 1 cap1) 1 _ rfl (HG1.out.rg.alloc _) ⟨wg1.heap.size, 0, none⟩ 1 1 sl62.toList rfl ?_ ?_ ?_ (by decide) (by unfold maxLen; omega) ?_ ?_ _ rfl ?_
         · rfl
         · exact newsN wg1 sl62 62
         · exact one62
         · omega
         · (have := HG1.out.hsz; simp; omega)
         intro g2 cap2 w3 hown2 hgrow hatg hlt2
         obtain ⟨S1, S2, u4, S3⟩ := HG1.out.step hown2 hgrow (by simpa using hatg)
         have H2 := Lib.hid S1
         have S2' := S2 5
         clear hown2 hgrow hatg hlt2 S1 S2))
    have HG2 := H2
    clear S2' S3
    generalize w3.setCell ⟨w.heap.size + 1, 5, none⟩ _ = wg2 at HG2 ⊢
    clear H2
    have c5 := HG2.out.c5
    rw [rounds_succ]
    go_wp2_with (first
      | (at_builtin; refine wpList_append_lies _ rfl (.tmp 85) (.tmp 87) 33 rfl (w.heap.size + 2) 62 i' z' 12 96 Tryd.underlying33 hi' hz' h1' h8' hc' (by decide) (.slice (some ⟨g2, 0, none⟩) 2 cap2) 2 _ rfl (HG2.out.rg.alloc _) ⟨wg2.heap.size, 0, none⟩ 1 1 sl62.toList rfl ?_ ?_ ?_ (by decide) (by unfold maxLen; omega) ?_ ?_ _ rfl ?_
         · rfl
         · exact newsN wg2 sl62 62
         · exact one62
         · omega
         · (have := HG2.out.hsz; simp; omega)
         intro g3 cap3 w3 hown2 hgrow hatg hlt2
         obtain ⟨S1, S2, u4, S3⟩ := HG2.out.step hown2 hgrow (by simpa using hatg)
         have H2 := Lib.hid S1
         have S2' := S2 5
         clear hown2 hgrow hatg hlt2 S1 S2))
    have HG3 := H2
    clear S2' S3
    generalize w3.setCell ⟨w.heap.size + 1, 5, none⟩ _ = wg3 at HG3 ⊢
    clear H2
    have c5 := HG3.out.c5
    rw [rounds_succ]
    go_wp2
    go_returns
    exact ⟨_, _, _, _, _, rfl, HG3.out.done (by decide), HG3.out.hb⟩
end Go.Proofs.YtejfcmgnacimgaaDoor
