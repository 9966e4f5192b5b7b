/- What handle.Text answers for any word: its text, byte for byte; the two tables must read as the program lays them. -/
import Derived.Test.YtglllofmmdjljaaDoorA2
import Derived.LoopN
namespace Go.Proofs.YtglllofmmdjljaaDoor
open Go.RowKit Go.Sort Go.Lib

def signsOf (m k : Nat) : List UInt8 := (if 1 ≤ k ∧ m % 2 = 1 then [226, 128, 178] else []) ++ (if 2 ≤ k ∧ 2 ≤ m then [226, 128, 179] else [])

structure Laid (w : World) : Prop where
  tab : Lib.TabIs Tryd.prog w "internal/strconv.uint64pow10" .u64 Lib.pow10Tab
  s0 : w.cell? ⟨0, 0, none⟩ = some (.int .i32 8242)
  s1 : w.cell? ⟨0, 1, none⟩ = some (.int .i32 8243)

theorem Laid.next {w w' : World} (h : Laid w) (hb : Below w.heap.size w w') : Laid w' := by
  have h0 : 0 < w.heap.size := World.block_lt_of_cell? _ _ h.s0
  exact ⟨Lib.tabBelow_of_tabIs h.tab w' hb, by rw [hb.cell (p := ⟨0, 0, none⟩) h0]; exact h.s0, by rw [hb.cell (p := ⟨0, 1, none⟩) h0]; exact h.s1⟩

theorem fu_any (u : Nat) (hu64 : u < 18446744073709551616) (w : World) (hL : Laid w) :
    Calls Tryd.prog 37 #[.int .u64 u, .int .i64 10] w fun e w' => e = .returned (.string ⟨(Lib.decDigits u).toArray⟩) ∧ Below w.heap.size w w' := by
  by_cases hu : u < 100
  · exact (fu_small u hu w).mono fun e w' ⟨a, b⟩ => ⟨a, b ▸ Below.refl _ _⟩
  · exact fu_big u (by omega) hu64 w hL.tab

set_option maxHeartbeats 400000 in
theorem formatUint_any (u : Nat) (hu64 : u < 18446744073709551616) (w : World) (hL : Laid w) :
    Calls Tryd.prog 29 #[.int .u64 u, .int .i64 10] w fun e w' => e = .returned (.string ⟨(Lib.decDigits u).toArray⟩) ∧ Below w.heap.size w w' := by
  go_enter Tryd.func29, Tryd.ntmps29
  go_wp2_with (go_at_call 37; refine (fu_any u hu64 _ hL).mono ?_; rintro e w' ⟨rfl, hb⟩)
  go_ret
  exact ⟨rfl, hb⟩

set_option maxHeartbeats 400000 in
theorem itoa_any (u : Nat) (h : u < 9223372036854775808) (w : World) (hL : Laid w) :
    Calls Tryd.prog 28 #[.int .i64 u] w fun e w' => e = .returned (.string ⟨(Lib.decDigits u).toArray⟩) ∧ Below w.heap.size w w' := by
  refine (Tryd.strconv_Itoa u (by omega) (by omega) w hL.tab).mono ?_
  rintro e w' ⟨rfl, k, os, rfl⟩
  exact ⟨by rw [Lib.itoa_nonneg], Lib.below_grow w.heap.size w (Nat.le_refl _) k os⟩

theorem dec_len (u : Nat) (hu : u < 18446744073709551616) : (decDigits u).length ≤ 20 := by
  rw [Lib.decDigits_length]
  by_cases h1 : 1 ≤ u
  · have := Lib.numDigits_eq u h1 hu; split at this <;> omega
  · rw [Lib.nDigits_small (show u < 10 by omega)]; omega

theorem marks_lit (h : Int) (h0 : 0 ≤ h) (h1 : h < 18446744073709551616) (m : Int) (hm : h / 4194304 % 4 = m) (w : World) :
    Calls Tryd.prog 15 #[.int .u64 h] w fun e w' => e = .returned (.int .i64 m) ∧ Below w.heap.size w w' := by
  subst hm; exact marks_any h h0 h1 w

theorem bt {a b c : World} (h : Below a.heap.size a b) (k : Below b.heap.size b c) : Below a.heap.size a c := h.trans (k.mono h.size)

def textOf (h : Nat) : List UInt8 :=
  decDigits (h % 4194304) ++ (if h / 4194304 % 4 = 1 ∨ h / 4194304 % 4 = 3 then [226, 128, 178] else []) ++ (if h / 4194304 % 4 = 2 ∨ h / 4194304 % 4 = 3 then [226, 128, 179] else [])
    ++ (if h / 16777216 = 0 then [] else [64] ++ decDigits (h / 16777216))

theorem ret_str {a b : List UInt8} (h : a = b) : Ending.returned (.string ⟨a.toArray⟩) = .returned (.string ⟨b.toArray⟩) := by rw [h]

set_option maxHeartbeats 1000000 in
set_option maxRecDepth 100000 in
theorem text_0 (h : Nat) (h1 : h < 18446744073709551616) (hm : (h : Int) / 4194304 % 4 = 0) (w : World) (hL : Laid w) :
    Calls Tryd.prog 23 #[.int .u64 h] w fun e w' => e = .returned (.string ⟨(textOf h).toArray⟩) ∧ Below w.heap.size w w' := by
  have i0 : ∀ w : World, (Instr.index 43 (.agg #[.int .i32 8242, .int .i32 8243]) (.int .i64 0)).run Tryd.prog w = .ok (.int .i32 8242) w := fun _ => by kernel_rfl
  have i1 : ∀ w : World, (Instr.index 43 (.agg #[.int .i32 8242, .int .i32 8243]) (.int .i64 1)).run Tryd.prog w = .ok (.int .i32 8243) w := fun _ => by kernel_rfl
  have hi : h % 4194304 < 9223372036854775808 := by omega
  have g0 : (0 : Int) ≤ h := by omega
  have g1 : (h : Int) < 18446744073709551616 := by omega
  have wr1 : IntKind.i64.wrap 1 = 1 := by decide +kernel
  have wr2 : IntKind.i64.wrap 2 = 2 := by decide +kernel
  have bt1 : bits .and .i64 0 1 = 0 := by decide +kernel
  have bt2 : bits .and .i64 0 2 = 0 := by decide +kernel
  have HM := Lib.hid hm
  clear hm
  go_enter Tryd.func23, Tryd.ntmps23
  go_wp2_with fail
  refine (index_any _ g0 g1 _).mono ?_
  rintro e w1 ⟨rfl, hb1⟩
  have hL1 := hL.next hb1
  rw [show ((h : Int) % 4194304) = ((h % 4194304 : Nat) : Int) by omega]
  go_wp2_with fail
  refine (itoa_any _ hi _ hL1).mono ?_
  rintro e w2 ⟨rfl, hb2⟩
  have hL2 := hL1.next hb2
  have s0 := hL2.s0
  have s1 := hL2.s1
  have hDl := dec_len (h % 4194304) (by omega)
  have htx : textOf h = decDigits (h % 4194304) ++ [] ++ [] ++ (if h / 16777216 = 0 then [] else [64] ++ decDigits (h / 16777216)) := by
    have hq : h / 4194304 % 4 = 0 := by have := HM.out; omega
    simp [textOf, hq]
  have HX := Lib.hid htx
  clear htx
  generalize decDigits (h % 4194304) = D at *
  go_wp2
  refine wp_loop_rounds 3 ?_
  rw [rounds_succ]
  go_wp2
  go_region_with (go_at_call 15; refine (marks_lit _ g0 g1 _ HM.out _).mono ?_; rintro e w3 ⟨rfl, hb3⟩)
  go_simp
  go_wp2
  rw [rounds_succ]
  go_wp2
  go_region_with (go_at_call 15; refine (marks_lit _ g0 g1 _ HM.out _).mono ?_; rintro e w4 ⟨rfl, hb4⟩)
  go_simp
  go_wp2
  rw [rounds_succ]
  go_wp2_with fail
  refine (tag_any _ g0 g1 _).mono ?_
  rintro e w5 ⟨rfl, hb5⟩
  have hb05 := bt (bt (bt (bt hb1 hb2).drew hb3).drew hb4) hb5
  have hL5 := hL.next hb05
  clear bt1 bt2
  by_cases ht : h / 16777216 = 0
  · have ht' : (h : Int) / 16777216 = 0 := by omega
    rw [ht']
    rw [if_pos ht] at HX
    clear ht ht'
    go_wp2
    go_ret
    exact ⟨ret_str (by rw [HX.out]; simp), hb05⟩
  · have ht' : (h : Int) / 16777216 = ((h / 16777216 : Nat) : Int) := by omega
    rw [ht']
    rw [if_neg ht] at HX
    have hTl := dec_len (h / 16777216) (by omega)
    have htb : h / 16777216 < 18446744073709551616 := by omega
    have hne : (((h / 16777216 : Nat) : Int) != 0) = true := by rw [bne_iff_ne]; omega
    clear ht'
    generalize h / 16777216 = t at *
    have hf := fun W (hW : Laid W) => formatUint_any t htb W hW
    generalize decDigits t = T at HX hTl hf
    have HF := Lib.hid hf
    clear hf
    have q1 : ∀ w : World, (Op.stringOp .add ⟨#[64]⟩ ⟨T.toArray⟩).run Tryd.prog w = .ok (.string ⟨([64] ++ T).toArray⟩) w := fun w => run_string_add_lists w [64] T (by simp) (by omega)
    have q2 : ∀ w : World, (Op.stringOp .add ⟨(D).toArray⟩ ⟨([64] ++ T).toArray⟩).run Tryd.prog w = .ok (.string ⟨(D ++ ([64] ++ T)).toArray⟩) w := fun w => run_string_add_lists w _ ([64] ++ T) (by (try simp); omega) (by simp; omega)
    go_wp2_with fail
    refine (HF.out _ hL5).mono ?_
    rintro e w6 ⟨rfl, hb6⟩
    go_wp2
    go_ret
    exact ⟨ret_str (by rw [HX.out]; simp), bt hb05 hb6⟩
set_option maxHeartbeats 1000000 in
set_option maxRecDepth 100000 in
theorem text_1 (h : Nat) (h1 : h < 18446744073709551616) (hm : (h : Int) / 4194304 % 4 = 1) (w : World) (hL : Laid w) :
    Calls Tryd.prog 23 #[.int .u64 h] w fun e w' => e = .returned (.string ⟨(textOf h).toArray⟩) ∧ Below w.heap.size w w' := by
  have i0 : ∀ w : World, (Instr.index 43 (.agg #[.int .i32 8242, .int .i32 8243]) (.int .i64 0)).run Tryd.prog w = .ok (.int .i32 8242) w := fun _ => by kernel_rfl
  have i1 : ∀ w : World, (Instr.index 43 (.agg #[.int .i32 8242, .int .i32 8243]) (.int .i64 1)).run Tryd.prog w = .ok (.int .i32 8243) w := fun _ => by kernel_rfl
  have c0 : ∀ w : World, (convert 21 9 (.int .i32 8242)).run Tryd.prog w = .ok (.string ⟨#[226, 128, 178]⟩) w := fun _ => by kernel_rfl
  have hi : h % 4194304 < 9223372036854775808 := by omega
  have g0 : (0 : Int) ≤ h := by omega
  have g1 : (h : Int) < 18446744073709551616 := by omega
  have wr1 : IntKind.i64.wrap 1 = 1 := by decide +kernel
  have wr2 : IntKind.i64.wrap 2 = 2 := by decide +kernel
  have bt1 : bits .and .i64 1 1 = 1 := by decide +kernel
  have bt2 : bits .and .i64 1 2 = 0 := by decide +kernel
  have HM := Lib.hid hm
  clear hm
  go_enter Tryd.func23, Tryd.ntmps23
  go_wp2_with fail
  refine (index_any _ g0 g1 _).mono ?_
  rintro e w1 ⟨rfl, hb1⟩
  have hL1 := hL.next hb1
  rw [show ((h : Int) % 4194304) = ((h % 4194304 : Nat) : Int) by omega]
  go_wp2_with fail
  refine (itoa_any _ hi _ hL1).mono ?_
  rintro e w2 ⟨rfl, hb2⟩
  have hL2 := hL1.next hb2
  have s0 := hL2.s0
  have s1 := hL2.s1
  have hDl := dec_len (h % 4194304) (by omega)
  have htx : textOf h = decDigits (h % 4194304) ++ [226, 128, 178] ++ [] ++ (if h / 16777216 = 0 then [] else [64] ++ decDigits (h / 16777216)) := by
    have hq : h / 4194304 % 4 = 1 := by have := HM.out; omega
    simp [textOf, hq]
  have HX := Lib.hid htx
  clear htx
  generalize decDigits (h % 4194304) = D at *
  have k1 : ∀ w : World, (Op.stringOp .add ⟨D.toArray⟩ ⟨#[226, 128, 178]⟩).run Tryd.prog w = .ok (.string ⟨(D ++ [226, 128, 178]).toArray⟩) w := fun w => run_string_add_lists w D [226, 128, 178] (by omega) (by simp)
  go_wp2
  refine wp_loop_rounds 3 ?_
  rw [rounds_succ]
  go_wp2
  go_region_with (go_at_call 15; refine (marks_lit _ g0 g1 _ HM.out _).mono ?_; rintro e w3 ⟨rfl, hb3⟩)
  go_simp
  go_wp2
  rw [rounds_succ]
  go_wp2
  go_region_with (go_at_call 15; refine (marks_lit _ g0 g1 _ HM.out _).mono ?_; rintro e w4 ⟨rfl, hb4⟩)
  go_simp
  go_wp2
  rw [rounds_succ]
  go_wp2_with fail
  refine (tag_any _ g0 g1 _).mono ?_
  rintro e w5 ⟨rfl, hb5⟩
  have hb05 := bt (bt (bt (bt hb1 hb2).drew hb3).drew hb4) hb5
  have hL5 := hL.next hb05
  clear bt1 bt2
  by_cases ht : h / 16777216 = 0
  · have ht' : (h : Int) / 16777216 = 0 := by omega
    rw [ht']
    rw [if_pos ht] at HX
    clear ht ht'
    go_wp2
    go_ret
    exact ⟨ret_str (by rw [HX.out]; simp), hb05⟩
  · have ht' : (h : Int) / 16777216 = ((h / 16777216 : Nat) : Int) := by omega
    rw [ht']
    rw [if_neg ht] at HX
    have hTl := dec_len (h / 16777216) (by omega)
    have htb : h / 16777216 < 18446744073709551616 := by omega
    have hne : (((h / 16777216 : Nat) : Int) != 0) = true := by rw [bne_iff_ne]; omega
    clear ht'
    generalize h / 16777216 = t at *
    have hf := fun W (hW : Laid W) => formatUint_any t htb W hW
    generalize decDigits t = T at HX hTl hf
    have HF := Lib.hid hf
    clear hf
    have q1 : ∀ w : World, (Op.stringOp .add ⟨#[64]⟩ ⟨T.toArray⟩).run Tryd.prog w = .ok (.string ⟨([64] ++ T).toArray⟩) w := fun w => run_string_add_lists w [64] T (by simp) (by omega)
    have q2 : ∀ w : World, (Op.stringOp .add ⟨(D ++ [226, 128, 178]).toArray⟩ ⟨([64] ++ T).toArray⟩).run Tryd.prog w = .ok (.string ⟨(D ++ [226, 128, 178] ++ ([64] ++ T)).toArray⟩) w := fun w => run_string_add_lists w _ ([64] ++ T) (by (try simp); omega) (by simp; omega)
    go_wp2_with fail
    refine (HF.out _ hL5).mono ?_
    rintro e w6 ⟨rfl, hb6⟩
    go_wp2
    go_ret
    exact ⟨ret_str (by rw [HX.out]; simp), bt hb05 hb6⟩
set_option maxHeartbeats 1000000 in
set_option maxRecDepth 100000 in
theorem text_2 (h : Nat) (h1 : h < 18446744073709551616) (hm : (h : Int) / 4194304 % 4 = 2) (w : World) (hL : Laid w) :
    Calls Tryd.prog 23 #[.int .u64 h] w fun e w' => e = .returned (.string ⟨(textOf h).toArray⟩) ∧ Below w.heap.size w w' := by
  have i0 : ∀ w : World, (Instr.index 43 (.agg #[.int .i32 8242, .int .i32 8243]) (.int .i64 0)).run Tryd.prog w = .ok (.int .i32 8242) w := fun _ => by kernel_rfl
  have i1 : ∀ w : World, (Instr.index 43 (.agg #[.int .i32 8242, .int .i32 8243]) (.int .i64 1)).run Tryd.prog w = .ok (.int .i32 8243) w := fun _ => by kernel_rfl
  have c1 : ∀ w : World, (convert 21 9 (.int .i32 8243)).run Tryd.prog w = .ok (.string ⟨#[226, 128, 179]⟩) w := fun _ => by kernel_rfl
  have hi : h % 4194304 < 9223372036854775808 := by omega
  have g0 : (0 : Int) ≤ h := by omega
  have g1 : (h : Int) < 18446744073709551616 := by omega
  have wr1 : IntKind.i64.wrap 1 = 1 := by decide +kernel
  have wr2 : IntKind.i64.wrap 2 = 2 := by decide +kernel
  have bt1 : bits .and .i64 2 1 = 0 := by decide +kernel
  have bt2 : bits .and .i64 2 2 = 2 := by decide +kernel
  have HM := Lib.hid hm
  clear hm
  go_enter Tryd.func23, Tryd.ntmps23
  go_wp2_with fail
  refine (index_any _ g0 g1 _).mono ?_
  rintro e w1 ⟨rfl, hb1⟩
  have hL1 := hL.next hb1
  rw [show ((h : Int) % 4194304) = ((h % 4194304 : Nat) : Int) by omega]
  go_wp2_with fail
  refine (itoa_any _ hi _ hL1).mono ?_
  rintro e w2 ⟨rfl, hb2⟩
  have hL2 := hL1.next hb2
  have s0 := hL2.s0
  have s1 := hL2.s1
  have hDl := dec_len (h % 4194304) (by omega)
  have htx : textOf h = decDigits (h % 4194304) ++ [] ++ [226, 128, 179] ++ (if h / 16777216 = 0 then [] else [64] ++ decDigits (h / 16777216)) := by
    have hq : h / 4194304 % 4 = 2 := by have := HM.out; omega
    simp [textOf, hq]
  have HX := Lib.hid htx
  clear htx
  generalize decDigits (h % 4194304) = D at *
  have k2 : ∀ w : World, (Op.stringOp .add ⟨(D).toArray⟩ ⟨#[226, 128, 179]⟩).run Tryd.prog w = .ok (.string ⟨(D ++ [226, 128, 179]).toArray⟩) w := fun w => run_string_add_lists w _ [226, 128, 179] (by (try simp); omega) (by simp)
  go_wp2
  refine wp_loop_rounds 3 ?_
  rw [rounds_succ]
  go_wp2
  go_region_with (go_at_call 15; refine (marks_lit _ g0 g1 _ HM.out _).mono ?_; rintro e w3 ⟨rfl, hb3⟩)
  go_simp
  go_wp2
  rw [rounds_succ]
  go_wp2
  go_region_with (go_at_call 15; refine (marks_lit _ g0 g1 _ HM.out _).mono ?_; rintro e w4 ⟨rfl, hb4⟩)
  go_simp
  go_wp2
  rw [rounds_succ]
  go_wp2_with fail
  refine (tag_any _ g0 g1 _).mono ?_
  rintro e w5 ⟨rfl, hb5⟩
  have hb05 := bt (bt (bt (bt hb1 hb2).drew hb3).drew hb4) hb5
  have hL5 := hL.next hb05
  clear bt1 bt2
  by_cases ht : h / 16777216 = 0
  · have ht' : (h : Int) / 16777216 = 0 := by omega
    rw [ht']
    rw [if_pos ht] at HX
    clear ht ht'
    go_wp2
    go_ret
    exact ⟨ret_str (by rw [HX.out]; simp), hb05⟩
  · have ht' : (h : Int) / 16777216 = ((h / 16777216 : Nat) : Int) := by omega
    rw [ht']
    rw [if_neg ht] at HX
    have hTl := dec_len (h / 16777216) (by omega)
    have htb : h / 16777216 < 18446744073709551616 := by omega
    have hne : (((h / 16777216 : Nat) : Int) != 0) = true := by rw [bne_iff_ne]; omega
    clear ht'
    generalize h / 16777216 = t at *
    have hf := fun W (hW : Laid W) => formatUint_any t htb W hW
    generalize decDigits t = T at HX hTl hf
    have HF := Lib.hid hf
    clear hf
    have q1 : ∀ w : World, (Op.stringOp .add ⟨#[64]⟩ ⟨T.toArray⟩).run Tryd.prog w = .ok (.string ⟨([64] ++ T).toArray⟩) w := fun w => run_string_add_lists w [64] T (by simp) (by omega)
    have q2 : ∀ w : World, (Op.stringOp .add ⟨(D ++ [226, 128, 179]).toArray⟩ ⟨([64] ++ T).toArray⟩).run Tryd.prog w = .ok (.string ⟨(D ++ [226, 128, 179] ++ ([64] ++ T)).toArray⟩) w := fun w => run_string_add_lists w _ ([64] ++ T) (by (try simp); omega) (by simp; omega)
    go_wp2_with fail
    refine (HF.out _ hL5).mono ?_
    rintro e w6 ⟨rfl, hb6⟩
    go_wp2
    go_ret
    exact ⟨ret_str (by rw [HX.out]; simp), bt hb05 hb6⟩
set_option maxHeartbeats 1000000 in
set_option maxRecDepth 100000 in
theorem text_3 (h : Nat) (h1 : h < 18446744073709551616) (hm : (h : Int) / 4194304 % 4 = 3) (w : World) (hL : Laid w) :
    Calls Tryd.prog 23 #[.int .u64 h] w fun e w' => e = .returned (.string ⟨(textOf h).toArray⟩) ∧ Below w.heap.size w w' := by
  have i0 : ∀ w : World, (Instr.index 43 (.agg #[.int .i32 8242, .int .i32 8243]) (.int .i64 0)).run Tryd.prog w = .ok (.int .i32 8242) w := fun _ => by kernel_rfl
  have i1 : ∀ w : World, (Instr.index 43 (.agg #[.int .i32 8242, .int .i32 8243]) (.int .i64 1)).run Tryd.prog w = .ok (.int .i32 8243) w := fun _ => by kernel_rfl
  have c0 : ∀ w : World, (convert 21 9 (.int .i32 8242)).run Tryd.prog w = .ok (.string ⟨#[226, 128, 178]⟩) w := fun _ => by kernel_rfl
  have c1 : ∀ w : World, (convert 21 9 (.int .i32 8243)).run Tryd.prog w = .ok (.string ⟨#[226, 128, 179]⟩) w := fun _ => by kernel_rfl
  have hi : h % 4194304 < 9223372036854775808 := by omega
  have g0 : (0 : Int) ≤ h := by omega
  have g1 : (h : Int) < 18446744073709551616 := by omega
  have wr1 : IntKind.i64.wrap 1 = 1 := by decide +kernel
  have wr2 : IntKind.i64.wrap 2 = 2 := by decide +kernel
  have bt1 : bits .and .i64 3 1 = 1 := by decide +kernel
  have bt2 : bits .and .i64 3 2 = 2 := by decide +kernel
  have HM := Lib.hid hm
  clear hm
  go_enter Tryd.func23, Tryd.ntmps23
  go_wp2_with fail
  refine (index_any _ g0 g1 _).mono ?_
  rintro e w1 ⟨rfl, hb1⟩
  have hL1 := hL.next hb1
  rw [show ((h : Int) % 4194304) = ((h % 4194304 : Nat) : Int) by omega]
  go_wp2_with fail
  refine (itoa_any _ hi _ hL1).mono ?_
  rintro e w2 ⟨rfl, hb2⟩
  have hL2 := hL1.next hb2
  have s0 := hL2.s0
  have s1 := hL2.s1
  have hDl := dec_len (h % 4194304) (by omega)
  have htx : textOf h = decDigits (h % 4194304) ++ [226, 128, 178] ++ [226, 128, 179] ++ (if h / 16777216 = 0 then [] else [64] ++ decDigits (h / 16777216)) := by
    have hq : h / 4194304 % 4 = 3 := by have := HM.out; omega
    simp [textOf, hq]
  have HX := Lib.hid htx
  clear htx
  generalize decDigits (h % 4194304) = D at *
  have k1 : ∀ w : World, (Op.stringOp .add ⟨D.toArray⟩ ⟨#[226, 128, 178]⟩).run Tryd.prog w = .ok (.string ⟨(D ++ [226, 128, 178]).toArray⟩) w := fun w => run_string_add_lists w D [226, 128, 178] (by omega) (by simp)
  have k2 : ∀ w : World, (Op.stringOp .add ⟨(D ++ [226, 128, 178]).toArray⟩ ⟨#[226, 128, 179]⟩).run Tryd.prog w = .ok (.string ⟨(D ++ [226, 128, 178] ++ [226, 128, 179]).toArray⟩) w := fun w => run_string_add_lists w _ [226, 128, 179] (by (try simp); omega) (by simp)
  go_wp2
  refine wp_loop_rounds 3 ?_
  rw [rounds_succ]
  go_wp2
  go_region_with (go_at_call 15; refine (marks_lit _ g0 g1 _ HM.out _).mono ?_; rintro e w3 ⟨rfl, hb3⟩)
  go_simp
  go_wp2
  rw [rounds_succ]
  go_wp2
  go_region_with (go_at_call 15; refine (marks_lit _ g0 g1 _ HM.out _).mono ?_; rintro e w4 ⟨rfl, hb4⟩)
  go_simp
  go_wp2
  rw [rounds_succ]
  go_wp2_with fail
  refine (tag_any _ g0 g1 _).mono ?_
  rintro e w5 ⟨rfl, hb5⟩
  have hb05 := bt (bt (bt (bt hb1 hb2).drew hb3).drew hb4) hb5
  have hL5 := hL.next hb05
  clear bt1 bt2
  by_cases ht : h / 16777216 = 0
  · have ht' : (h : Int) / 16777216 = 0 := by omega
    rw [ht']
    rw [if_pos ht] at HX
    clear ht ht'
    go_wp2
    go_ret
    exact ⟨ret_str (by rw [HX.out]; simp), hb05⟩
  · have ht' : (h : Int) / 16777216 = ((h / 16777216 : Nat) : Int) := by omega
    rw [ht']
    rw [if_neg ht] at HX
    have hTl := dec_len (h / 16777216) (by omega)
    have htb : h / 16777216 < 18446744073709551616 := by omega
    have hne : (((h / 16777216 : Nat) : Int) != 0) = true := by rw [bne_iff_ne]; omega
    clear ht'
    generalize h / 16777216 = t at *
    have hf := fun W (hW : Laid W) => formatUint_any t htb W hW
    generalize decDigits t = T at HX hTl hf
    have HF := Lib.hid hf
    clear hf
    have q1 : ∀ w : World, (Op.stringOp .add ⟨#[64]⟩ ⟨T.toArray⟩).run Tryd.prog w = .ok (.string ⟨([64] ++ T).toArray⟩) w := fun w => run_string_add_lists w [64] T (by simp) (by omega)
    have q2 : ∀ w : World, (Op.stringOp .add ⟨(D ++ [226, 128, 178] ++ [226, 128, 179]).toArray⟩ ⟨([64] ++ T).toArray⟩).run Tryd.prog w = .ok (.string ⟨(D ++ [226, 128, 178] ++ [226, 128, 179] ++ ([64] ++ T)).toArray⟩) w := fun w => run_string_add_lists w _ ([64] ++ T) (by (try simp); omega) (by simp; omega)
    go_wp2_with fail
    refine (HF.out _ hL5).mono ?_
    rintro e w6 ⟨rfl, hb6⟩
    go_wp2
    go_ret
    exact ⟨ret_str (by rw [HX.out]; simp), bt hb05 hb6⟩
end Go.Proofs.YtglllofmmdjljaaDoor
