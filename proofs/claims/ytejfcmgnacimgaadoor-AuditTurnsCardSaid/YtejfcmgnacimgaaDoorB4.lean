/- The contract of note: what a note leaves. -/
import Derived.Test.YtejfcmgnacimgaaDoorB3
namespace Go.Proofs.YtejfcmgnacimgaaDoor
open Go.RowKit
set_option linter.unusedVariables false
set_option linter.unusedSimpArgs false

def noteF (s : RS) (at_ t : Int) (e : Ev) (n : Nat) : RS :=
  if e.nk == 3 then setSl s n ⟨1, e.life, t, (endS (s.sl n)).pub, (endS (s.sl n)).ret, (endS (s.sl n)).ends, (endS (s.sl n)).ws⟩
  else if e.nk == 4 then setSl s n (endS (s.sl n))
  else if e.nk == 9 then setSl s n (endS (s.sl n))
  else if e.nk == 8 then setSl s n ⟨3, (s.sl n).life, t, (s.sl n).pub, at_, (s.sl n).ends, (s.sl n).ws⟩
  else if e.nk == 5 then protF s t n e.guard (mayP (s.sl n) e.read)
  else if e.nk == 6 then protF s t n e.guard (rightB s t n)
  else s

theorem note_any {R S M : Nat} {s : RS} (hS0 : S ≠ 0) (at_ t : Int) (ht : (Lit.int .i64 t).wf = true) (e : Ev) (n : Nat) (hn : n < s.m) (hs : e.slot = (n : Int)) (w : World) (h : RepAt R S M s w) :
    Calls Tryd.prog 37 #[.pointer (some ⟨R, 0, none⟩), .int .i64 at_, .int .i64 t, .agg (nCells e)] w fun x w' => x = .returned (.tuple #[]) ∧ RepAt R S M (noteF s at_ t e n) w' ∧ Kq w.heap.size S M w w' := by
  unfold noteF
  cases k3 : e.nk == 3
  · cases k4 : e.nk == 4
    · cases k9 : e.nk == 9
      · cases k8 : e.nk == 8
        · cases k5 : e.nk == 5
          · cases k6 : e.nk == 6
            · simpa using note_c0 hS0 at_ t ht e n hn hs w h k3 k4 k9 k8 k5 k6
            · simpa using note_c6 hS0 at_ t ht e n hn hs w h k3 k4 k9 k8 k5 k6
          · simpa using note_c5 hS0 at_ t ht e n hn hs w h k3 k4 k9 k8 k5
        · simpa using note_c8 hS0 at_ t ht e n hn hs w h k3 k4 k9 k8
      · simpa using note_c9 hS0 at_ t ht e n hn hs w h k3 k4 k9
    · simpa using note_c4 hS0 at_ t ht e n hn hs w h k3 k4
  · simpa using note_c3 hS0 at_ t ht e n hn hs w h k3

/-- How many slots a thread owns. -/
def cnt (s : RS) (t : Int) : Nat := (List.range s.m).countP fun i : Nat => ownB s t (i : Int)

def pubS (x : Sl) (at_ : Int) : Sl := ⟨2, x.life, -1, at_, x.ret, x.ends, x.ws⟩
def pubF : Nat → RS → Int → Int → Int → RS
  | 0, s, _, _, _ => s
  | f + 1, s, t, at_, wd =>
    if ownB s t (wd % 4194304) then
      (List.range 8).foldl (fun s' j => pubF f s' t at_ ((s.sl (wd % 4194304).toNat).ws j)) (setSl s (wd % 4194304).toNat (pubS (s.sl (wd % 4194304).toNat) at_))
    else s

theorem countP_le_of {p q : Nat → Bool} : ∀ l : List Nat, (∀ i ∈ l, p i = true → q i = true) → l.countP p ≤ l.countP q
  | [], _ => Nat.le_refl _
  | a :: l, h => by
    have ih := countP_le_of l fun i hi => h i (List.mem_cons_of_mem _ hi)
    rw [List.countP_cons, List.countP_cons]
    cases hp : p a
    · simp; omega
    · rw [h a (List.mem_cons_self ..) hp]; simp; exact ih
theorem countP_lt_of {p q : Nat → Bool} : ∀ l : List Nat, (∀ i ∈ l, p i = true → q i = true) → (∃ i ∈ l, p i = false ∧ q i = true) → l.countP p < l.countP q
  | [], _, h => by obtain ⟨i, hi, _⟩ := h; cases hi
  | a :: l, h, hx => by
    have ih0 := countP_le_of l fun i hi => h i (List.mem_cons_of_mem _ hi)
    rw [List.countP_cons, List.countP_cons]
    obtain ⟨i, hi, h1, h2⟩ := hx
    rcases List.mem_cons.1 hi with rfl | hi'
    · rw [h1, h2]; simp; omega
    · have ih := countP_lt_of l (fun i hi => h i (List.mem_cons_of_mem _ hi)) ⟨i, hi', h1, h2⟩
      cases hp : p a
      · simp; omega
      · rw [h a (List.mem_cons_self ..) hp]; simp; exact ih

theorem own_set {s : RS} {t : Int} {n : Nat} {at_ : Int} (ht : t ≠ -1) (i : Int) (h : ownB (setSl s n (pubS (s.sl n) at_)) t i = true) : ownB s t i = true ∧ i.toNat ≠ n := by
  unfold ownB at *
  simp only [setSl, hasB] at *
  by_cases e : i.toNat = n
  · simp [e, pubS] at h
  · simp only [if_neg e] at h; exact ⟨h, e⟩

theorem cnt_set {s : RS} {t : Int} {n : Nat} {at_ : Int} (ht : t ≠ -1) (hn : n < s.m) (ho : ownB s t n = true) : cnt (setSl s n (pubS (s.sl n) at_)) t < cnt s t := by
  have hm : (setSl s n (pubS (s.sl n) at_)).m = s.m := rfl
  unfold cnt
  rw [hm]
  refine countP_lt_of _ (fun i _ h => (own_set ht _ h).1) ⟨n, List.mem_range.2 hn, ?_, ho⟩
  cases h : ownB (setSl s n (pubS (s.sl n) at_)) t n
  · rfl
  · exact absurd (Int.toNat_natCast n) (own_set ht _ h).2

/-- Publishing only takes slots from their owner, and leaves what a replay's numbers are. -/
theorem pubF_own (t at_ : Int) (ht : t ≠ -1) : ∀ (f : Nat) (s : RS) (wd : Int), ((pubF f s t at_ wd).m = s.m ∧ (∀ i, ownB (pubF f s t at_ wd) t i = true → ownB s t i = true)) ∧ (s.Ok → (pubF f s t at_ wd).Ok)
  | 0, s, wd => ⟨⟨rfl, fun _ h => h⟩, fun h => h⟩
  | f + 1, s, wd => by
    unfold pubF
    cases ho : ownB s t (wd % 4194304)
    · rw [if_neg (by simp)]; exact ⟨⟨rfl, fun _ h => h⟩, fun h => h⟩
    · rw [if_pos rfl]
      have : ∀ (l : List Nat) (s1 : RS), ((l.foldl (fun s' j => pubF f s' t at_ ((s.sl (wd % 4194304).toNat).ws j)) s1).m = s1.m ∧ (∀ i, ownB (l.foldl (fun s' j => pubF f s' t at_ ((s.sl (wd % 4194304).toNat).ws j)) s1) t i = true → ownB s1 t i = true)) ∧ (s1.Ok → (l.foldl (fun s' j => pubF f s' t at_ ((s.sl (wd % 4194304).toNat).ws j)) s1).Ok) := by
        intro l
        induction l with
        | nil => exact fun s1 => ⟨⟨rfl, fun _ h => h⟩, fun h => h⟩
        | cons a l ih =>
          intro s1
          have h1 := pubF_own t at_ ht f s1 ((s.sl (wd % 4194304).toNat).ws a)
          have h2 := ih (pubF f s1 t at_ ((s.sl (wd % 4194304).toNat).ws a))
          exact ⟨⟨h2.1.1.trans h1.1.1, fun i h => h1.1.2 i (h2.1.2 i h)⟩, fun h => h2.2 (h1.2 h)⟩
      have h3 := this (List.range 8) (setSl s (wd % 4194304).toNat (pubS (s.sl (wd % 4194304).toNat) at_))
      exact ⟨⟨h3.1.1, fun i h => (own_set ht i (h3.1.2 i h)).1⟩, fun h => h3.2 (setSl_ok h _ _)⟩

theorem cnt_pub (t at_ : Int) (ht : t ≠ -1) (f : Nat) (s : RS) (wd : Int) : cnt (pubF f s t at_ wd) t ≤ cnt s t := by
  have h := pubF_own t at_ ht f s wd
  unfold cnt
  rw [h.1.1]
  exact countP_le_of _ fun i _ hi => h.1.2 i hi
end Go.Proofs.YtejfcmgnacimgaaDoor
