/- What the document's own world does with an event, as a function, where it is known; and that Next does so. -/
import Derived.Test.YtejfcmgnacimgaaDoorT6
import Derived.Test.YtejfcmgnacimgaaDoorT6b
import Derived.Test.YtejfcmgnacimgaaDoorT7
import Derived.Test.YtejfcmgnacimgaaDoorT7b
namespace Go.Proofs.YtejfcmgnacimgaaDoor
open Go.RowKit
set_option linter.unusedVariables false
set_option linter.unusedSimpArgs false

def ruleN (u : U) (t : Nat) (e : Ev) : Option Int :=
  if e.slot = 1 then
    if e.nk = 3 then (if u.s 0 = 0 then (if -1000 ≤ u.s 1 ∧ u.s 1 ≤ 1000 then (if e.life = u.s 1 + 1 then some 0 else some 4) else none) else some 3)
    else if e.nk = 4 then (if u.s 0 = 1 then (if u.s 2 = (t : Int) then some 0 else some 5) else some 5)
    else if e.nk = 8 then (if u.s 0 = 2 then some 0 else some 6)
    else if e.nk = 9 then (if u.s 0 = 3 then some (if hasU u 0 1 then 8 else if hasU u 1 1 then 8 else if hasU u 2 1 then 8 else 0) else some 7)
    else if e.nk = 5 then some 0
    else if e.nk = 7 then some 0
    else none
  else if e.nk = 8 ∧ 1 ≤ e.slot then some 6
  else if e.nk = 7 ∧ e.slot < 1 then some 0
  else none

def noteN (u : U) (t : Nat) (e : Ev) : Option U :=
  if e.nk = 7 then some (clrU u t e.guard)
  else if e.slot = 1 then
    if e.nk = 3 then some (alcU u t e.life)
    else if e.nk = 4 then some (freeU u)
    else if e.nk = 9 then some (freeU u)
    else if e.nk = 8 then some (retU u t)
    else if e.nk = 5 ∧ 0 ≤ e.guard ∧ e.guard < 12 then
      (if u.s 0 = 2 ∧ u.s 3 ≤ e.read ∧ 0 ≤ u.s 4 ∧ u.s 4 ≤ e.read then some ⟨u.s, upd (upd u.g (t * 12 + e.guard.toNat) (-1)) (t * 12 + e.guard.toNat) 1, u.n⟩
       else if u.s 0 = 1 then some ⟨u.s, upd u.g (t * 12 + e.guard.toNat) (-1), u.n⟩ else none)
    else none
  else some u

theorem noteN_n {u u' : U} {t : Nat} {e : Ev} (h : noteN u t e = some u') : u'.n = u.n := by
  unfold noteN at h
  repeat' (split at h)
  all_goals first
    | (cases h; done)
    | (obtain rfl := Option.some.inj h; rfl)

def stepU (B a b : Int) (u : U) (e : Ev) : Option (Int × U) :=
  if (0 ≤ e.th ∧ e.th < 3) ∧ (-1000 ≤ u.n ∧ u.n ≤ 1000) then
    if e.kind = 5 then
      match ruleN u e.th.toNat e, noteN u e.th.toNat e with
      | some r, some u' => some (r, ⟨u'.s, u'.g, u'.n + 1⟩)
      | _, _ => none
    else if e.by_ = 1 then
      let r := accU u e.th.toNat (fndS B a b e.at_).1 (fndS B a b e.at_).2
      if e.kind = 1 then some (r, ⟨u.s, u.g, u.n + 1⟩)
      else if e.kind = 3 then
        if e.ok = false then some (r, ⟨u.s, u.g, u.n + 1⟩)
        else if e.new = 1 ∧ (fndS B a b e.at_).1 = 0 ∧ u.s 0 = 1 ∧ u.s 2 = e.th then some (r, ⟨(pubU u).s, u.g, u.n + 1⟩) else none
      else if e.kind = 2 then
        if (fndS B a b e.at_).1 = 1 ∧ 0 ≤ (fndS B a b e.at_).2 ∧ (fndS B a b e.at_).2 < 8 ∧ u.s 0 = 1 ∧ u.s 2 = e.th then some (r, ⟨upd u.s (6 + (fndS B a b e.at_).2.toNat) e.new, u.g, u.n + 1⟩) else none
      else none
    else none
  else none

section
variable {W S G : Nat} {B a b : Int} {cs cg : Nat} {u : U}
theorem beq_no {x y : Int} (h : ¬ x = y) : (x == y) = false := by simpa using h
theorem rule_n (t : Nat) (ht : t < 3) (e : Ev) (he : e.Ok) (hth : e.th = (t : Int)) (hk : e.kind = 5) {r : Int} (hr : ruleN u t e = some r) (w : World) (h : UAt W S G B a b cs cg u w) :
    Calls Tryd.prog 40 #[.pointer (some ⟨W, 0, none⟩), .agg (evCells e)] w fun x w' => x = .returned (.int .i64 r) ∧ Below w.heap.size w w' := by
  unfold ruleN at hr
  by_cases hs : e.slot = 1
  · rw [if_pos hs] at hr
    by_cases n3 : e.nk = 3
    · rw [if_pos n3] at hr
      by_cases h0 : u.s 0 = 0
      · rw [if_pos h0] at hr
        by_cases h1 : -1000 ≤ u.s 1 ∧ u.s 1 ≤ 1000
        · rw [if_pos h1] at hr
          by_cases hl : e.life = u.s 1 + 1
          · rw [if_pos hl] at hr
            obtain rfl := Option.some.inj hr
            exact rule_alloc0 t ht e he hth w h hk n3 hs h0 h1 hl
          · rw [if_neg hl] at hr
            obtain rfl := Option.some.inj hr
            exact rule_alloc4 t ht e he hth w h hk n3 hs h0 h1 (beq_no hl)
        · rw [if_neg h1] at hr; cases hr
      · rw [if_neg h0] at hr
        obtain rfl := Option.some.inj hr
        exact rule_alloc3 t ht e he hth w h hk n3 hs (beq_no h0)
    · rw [if_neg n3] at hr
      by_cases n4 : e.nk = 4
      · rw [if_pos n4] at hr
        by_cases h0 : u.s 0 = 1
        · rw [if_pos h0] at hr
          by_cases h2 : u.s 2 = (t : Int)
          · rw [if_pos h2] at hr
            obtain rfl := Option.some.inj hr
            exact rule_disc0 t ht e he hth w h hk n4 hs h0 h2
          · rw [if_neg h2] at hr
            obtain rfl := Option.some.inj hr
            exact rule_disc5b t ht e he hth w h hk n4 hs h0 (beq_no h2)
        · rw [if_neg h0] at hr
          obtain rfl := Option.some.inj hr
          exact rule_disc5a t ht e he hth w h hk n4 hs (beq_no h0)
      · rw [if_neg n4] at hr
        by_cases n8 : e.nk = 8
        · rw [if_pos n8] at hr
          by_cases h0 : u.s 0 = 2
          · rw [if_pos h0] at hr
            obtain rfl := Option.some.inj hr
            exact rule_ret0 t ht e he hth w h hk n8 hs h0
          · rw [if_neg h0] at hr
            obtain rfl := Option.some.inj hr
            exact rule_ret6 t ht e he hth w h hk n8 hs (beq_no h0)
        · rw [if_neg n8] at hr
          by_cases n9 : e.nk = 9
          · rw [if_pos n9] at hr
            by_cases h0 : u.s 0 = 3
            · rw [if_pos h0] at hr
              obtain rfl := Option.some.inj hr
              exact rule_free t ht e he hth w h hk n9 hs h0
            · rw [if_neg h0] at hr
              obtain rfl := Option.some.inj hr
              exact rule_free7 t ht e he hth w h hk n9 hs (beq_no h0)
          · rw [if_neg n9] at hr
            by_cases n5 : e.nk = 5
            · rw [if_pos n5] at hr
              obtain rfl := Option.some.inj hr
              exact rule_prot t ht e he hth w h hk n5 hs
            · rw [if_neg n5] at hr
              by_cases n7 : e.nk = 7
              · rw [if_pos n7] at hr
                obtain rfl := Option.some.inj hr
                exact rule_clear1 t ht e he hth w h hk n7 hs
              · rw [if_neg n7] at hr; cases hr
  · rw [if_neg hs] at hr
    by_cases n8 : e.nk = 8 ∧ 1 ≤ e.slot
    · rw [if_pos n8] at hr
      obtain rfl := Option.some.inj hr
      exact rule_out8 t ht e he hth w h hk n8.1 (by simpa using n8.2) (by simp; omega)
    · rw [if_neg n8] at hr
      by_cases n7 : e.nk = 7 ∧ e.slot < 1
      · rw [if_pos n7] at hr
        obtain rfl := Option.some.inj hr
        exact rule_clear t ht e he hth w h hk n7.1 (by simp; omega)
      · rw [if_neg n7] at hr; cases hr

theorem note_n (t : Nat) (ht : t < 3) (e : Ev) {u' : U} (hu : noteN u t e = some u') (w : World) (h : UAt W S G B a b cs cg u w) :
    Calls Tryd.prog 41 #[.pointer (some ⟨W, 0, none⟩), .int .i64 t, .agg (nCells e)] w fun x w' => x = .returned (.tuple #[]) ∧ UAt W S G B a b cs cg u' w' ∧ Kz W S G w w' := by
  unfold noteN at hu
  by_cases n7 : e.nk = 7
  · rw [if_pos n7] at hu
    obtain rfl := Option.some.inj hu
    exact note_clear t ht e w h n7
  · rw [if_neg n7] at hu
    by_cases hs : e.slot = 1
    · rw [if_pos hs] at hu
      by_cases n3 : e.nk = 3
      · rw [if_pos n3] at hu
        obtain rfl := Option.some.inj hu
        exact note_alloc t ht e w h n3 hs
      · rw [if_neg n3] at hu
        by_cases n4 : e.nk = 4
        · rw [if_pos n4] at hu
          obtain rfl := Option.some.inj hu
          exact note_disc t ht e w h n4 hs
        · rw [if_neg n4] at hu
          by_cases n9 : e.nk = 9
          · rw [if_pos n9] at hu
            obtain rfl := Option.some.inj hu
            exact note_free t ht e w h n9 hs
          · rw [if_neg n9] at hu
            by_cases n8 : e.nk = 8
            · rw [if_pos n8] at hu
              obtain rfl := Option.some.inj hu
              exact note_ret t ht e w h n8 hs
            · rw [if_neg n8] at hu
              by_cases n5 : e.nk = 5 ∧ 0 ≤ e.guard ∧ e.guard < 12
              · rw [if_pos n5] at hu
                obtain ⟨gd, hgd⟩ : ∃ gd : Nat, e.guard = (gd : Int) := ⟨e.guard.toNat, by omega⟩
                have hgn : e.guard.toNat = gd := by omega
                rw [hgn] at hu
                by_cases hp : u.s 0 = 2 ∧ u.s 3 ≤ e.read ∧ 0 ≤ u.s 4 ∧ u.s 4 ≤ e.read
                · rw [if_pos hp] at hu
                  obtain rfl := Option.some.inj hu
                  exact note_prot_yes t ht e w h n5.1 hs gd (by omega) hgd hp.1 (by simpa using hp.2.1) (by simpa using hp.2.2.1) (by simpa using hp.2.2.2)
                · rw [if_neg hp] at hu
                  by_cases h0 : u.s 0 = 1
                  · rw [if_pos h0] at hu
                    obtain rfl := Option.some.inj hu
                    exact note_prot_no t ht e w h n5.1 hs gd (by omega) hgd h0
                  · rw [if_neg h0] at hu; cases hu
              · rw [if_neg n5] at hu; cases hu
    · rw [if_neg hs] at hu
      obtain rfl := Option.some.inj hu
      exact note_out t ht e w h (beq_no n7) hs

theorem step_u (e : Ev) (he : e.Ok) {r : Int} {u' : U} (hs : stepU B a b u e = some (r, u')) (w : World) (h : UAt W S G B a b cs cg u w) :
    Calls Tryd.prog 24 #[.pointer (some ⟨W, 0, none⟩), .agg (evCells e)] w fun x w' => x = .returned (.int .i64 r) ∧ UAt W S G B a b cs cg u' w' ∧ Kz W S G w w' := by
  unfold stepU at hs
  by_cases hd : (0 ≤ e.th ∧ e.th < 3) ∧ (-1000 ≤ u.n ∧ u.n ≤ 1000)
  · rw [if_pos hd] at hs
    obtain ⟨t, hth⟩ : ∃ t : Nat, e.th = (t : Int) := ⟨e.th.toNat, by omega⟩
    have ht : t < 3 := by omega
    have htn : e.th.toNat = t := by omega
    rw [htn] at hs
    by_cases hk : e.kind = 5
    · rw [if_pos hk] at hs
      cases hr : ruleN u t e with
      | none => rw [hr] at hs; cases hs
      | some r' =>
        cases hn : noteN u t e with
        | none => rw [hr, hn] at hs; cases hs
        | some v =>
          rw [hr, hn] at hs
          obtain ⟨rfl, rfl⟩ := Prod.mk.inj (Option.some.inj hs)
          have hvn := noteN_n hn
          exact next_note t ht e hth r' w h (fun w h => rule_n t ht e he hth hk hr w h) v (fun w h => by rw [hth]; exact note_n t ht e hn w h) hk (by omega)
    · rw [if_neg hk] at hs
      by_cases hby : e.by_ = 1
      · rw [if_pos hby] at hs
        have HR := fun w (h : UAt W S G B a b cs cg u w) => rule_acc t ht e he hth w h (beq_no hk) hby
        by_cases k1 : e.kind = 1
        · rw [if_pos k1] at hs
          obtain ⟨rfl, rfl⟩ := Prod.mk.inj (Option.some.inj hs)
          exact next_load t ht e hth _ w h HR k1 hd.2
        · rw [if_neg k1] at hs
          by_cases k3 : e.kind = 3
          · rw [if_pos k3] at hs
            by_cases hok : e.ok = false
            · rw [if_pos hok] at hs
              obtain ⟨rfl, rfl⟩ := Prod.mk.inj (Option.some.inj hs)
              exact next_fail t ht e hth _ w h HR k3 hok hd.2
            · rw [if_neg hok] at hs
              by_cases hp : e.new = 1 ∧ (fndS B a b e.at_).1 = 0 ∧ u.s 0 = 1 ∧ u.s 2 = e.th
              · rw [if_pos hp] at hs
                obtain ⟨rfl, rfl⟩ := Prod.mk.inj (Option.some.inj hs)
                exact next_pub t ht e hth _ w h HR he k3 (by simpa using hok) hby hp.1 hp.2.1 hp.2.2.1 (by rw [← hth]; exact hp.2.2.2) hd.2
              · rw [if_neg hp] at hs; cases hs
          · rw [if_neg k3] at hs
            by_cases k2 : e.kind = 2
            · rw [if_pos k2] at hs
              by_cases hp : (fndS B a b e.at_).1 = 1 ∧ 0 ≤ (fndS B a b e.at_).2 ∧ (fndS B a b e.at_).2 < 8 ∧ u.s 0 = 1 ∧ u.s 2 = e.th
              · rw [if_pos hp] at hs
                obtain ⟨rfl, rfl⟩ := Prod.mk.inj (Option.some.inj hs)
                exact next_word t ht e hth _ w h HR he k2 hby (fndS B a b e.at_).2.toNat (by omega) (Prod.ext hp.1 (by simp only; omega)) hp.2.2.2.1 (by rw [← hth]; exact hp.2.2.2.2) hd.2
              · rw [if_neg hp] at hs; cases hs
            · rw [if_neg k2] at hs; cases hs
      · rw [if_neg hby] at hs; cases hs
  · rw [if_neg hd] at hs; cases hs
end

def chkU (B a b : Int) : U → Nat → List Ev → Option Vd
  | _, _, [] => some noV
  | u, i, e :: l => match stepU B a b u e with
    | none => none
    | some (r, u') => if r = 0 then chkU B a b u' (i + 1) l else some ⟨i, r, e.th, if e.kind = 5 then (if e.slot < 1 then 0 else if 1 < e.slot then 0 else e.slot) else (fndS B a b e.at_).1⟩
end Go.Proofs.YtejfcmgnacimgaaDoor
