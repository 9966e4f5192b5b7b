/- What a plain object does, on lists: the program's way (a sorted list) and the document's (puts, some gone), and that they agree. -/
namespace Go.Proofs.Ytphfcfnbefikiaa
set_option linter.unusedVariables false
set_option linter.unusedSimpArgs false

abbrev Th := Int × Int
abbrev An := Int × Bool × Int

def no : An := (0, false, 0)
def bad : An := (2, false, 0)
def yesA (x : Int) : An := (0, true, x)

/-- How many things stand ahead of a key. -/
def low (L : List Th) (k : Int) : Nat := (L.takeWhile fun t => decide (t.1 < k)).length
def has (L : List Th) (k : Int) : Bool := match L[low L k]? with | some t => t.1 == k | none => false
def isMap (c : Int) : Bool := decide (3 ≤ c) && decide (c ≤ 6)
def mayB (c o : Int) : Bool := (c == 1 && (o == 1 || o == 2)) || (c == 2 && (o == 3 || o == 4)) || (isMap c && decide (5 ≤ o) && decide (o ≤ 7))

def addI (x : Int) (L : List Th) : An × List Th := (yesA 0, L ++ [(0, x)])
def popI (L : List Th) : An × List Th := match L.getLast? with | none => (no, L) | some t => (yesA t.2, L.dropLast)
def deqI (L : List Th) : An × List Th := match L with | [] => (no, []) | t :: r => (yesA t.2, r)
def insI (k x : Int) (L : List Th) : An × List Th := if has L k then (no, L) else (yesA 0, L.take (low L k) ++ (k, x) :: L.drop (low L k))
def remI (k : Int) (L : List Th) : An × List Th := if has L k then (yesA (L[low L k]?.getD (0, 0)).2, L.take (low L k) ++ L.drop (low L k + 1)) else (no, L)
def getI (k : Int) (L : List Th) : An × List Th := if has L k then (yesA (L[low L k]?.getD (0, 0)).2, L) else (no, L)

def doI (c o k x : Int) (L : List Th) : An × List Th :=
  if c = 1 ∧ o = 1 then addI x L
  else if c = 1 ∧ o = 2 then popI L
  else if c = 2 ∧ o = 3 then addI x L
  else if c = 2 ∧ o = 4 then deqI L
  else if isMap c = true ∧ o = 5 then insI k x L
  else if isMap c = true ∧ o = 6 then remI k L
  else if isMap c = true ∧ o = 7 then getI k L
  else (bad, L)

/-- The document's: a thing that was put in, and whether it has gone. -/
abbrev Pu := Th × Bool
def live (P : List Pu) : List Th := (P.filter fun p => !p.2).map (·.1)

def firstR : List Pu → Nat → Int
  | [], _ => -1
  | p :: r, i => if p.2 then firstR r (i + 1) else (i : Int)
def findR (k : Int) : List Pu → Nat → Int
  | [], _ => -1
  | p :: r, i => if !p.2 && p.1.1 == k then (i : Int) else findR k r (i + 1)
/-- the last that has not gone, of the first n -/
def lastR (P : List Pu) : Nat → Int
  | 0 => -1
  | n + 1 => match P[n]? with | some p => if p.2 then lastR P n else (n : Int) | none => lastR P n

def outR (i : Int) (P : List Pu) : An × List Pu :=
  if i < 0 then (no, P) else match P[i.toNat]? with | some p => (yesA p.1.2, P.set i.toNat (p.1, true)) | none => (no, P)

def addR (k x : Int) (P : List Pu) : An × List Pu := (yesA 0, P ++ [((k, x), false)])
def getR (i : Int) (P : List Pu) : An × List Pu :=
  if i < 0 then (no, P) else match P[i.toNat]? with | some p => (yesA p.1.2, P) | none => (no, P)

def doR (c o k x : Int) (P : List Pu) : An × List Pu :=
  if mayB c o = false then (bad, P)
  else if o = 1 ∨ o = 3 then addR 0 x P
  else if o = 2 then outR (lastR P P.length) P
  else if o = 4 then outR (firstR P 0) P
  else if o = 6 then outR (findR k P 0) P
  else if o = 7 then getR (findR k P 0) P
  else if 0 ≤ findR k P 0 then (no, P) else addR k x P

def ins (t : Th) (out : List Th) : List Th := out.take (low out t.1) ++ t :: out.drop (low out t.1)
def things (c : Int) (P : List Pu) : List Th :=
  if c = 1 then (live P).reverse else if isMap c = true then (live P).foldl (fun out t => ins t out) [] else live P
def tell (c : Int) (L : List Th) : List Th := if c = 1 then L.reverse else L

def Srt (L : List Th) : Prop := L.Pairwise fun a b => a.1 < b.1
def Sim (c : Int) (L : List Th) (P : List Pu) : Prop :=
  if isMap c = true then Srt L ∧ (∀ t, t ∈ L ↔ t ∈ live P) ∧ (live P).Pairwise (fun a b => a.1 ≠ b.1) else L = live P

theorem takeWhile_take (L : List Th) (k : Int) : L.take (low L k) = L.takeWhile fun t => decide (t.1 < k) := by
  unfold low
  induction L with
  | nil => rfl
  | cons a L ih =>
    simp only [List.takeWhile_cons]
    split
    · simp [ih]
    · simp
theorem dropWhile_drop (L : List Th) (k : Int) : L.drop (low L k) = L.dropWhile fun t => decide (t.1 < k) := by
  unfold low
  induction L with
  | nil => rfl
  | cons a L ih =>
    simp only [List.takeWhile_cons, List.dropWhile_cons]
    split
    · simp [ih]
    · simp
theorem low_le (L : List Th) (k : Int) : low L k ≤ L.length := by
  unfold low
  exact (List.takeWhile_sublist _).length_le

theorem low_cons (a : Th) (L : List Th) (k : Int) : low (a :: L) k = if a.1 < k then low L k + 1 else 0 := by
  unfold low
  by_cases h : a.1 < k
  · simp [List.takeWhile_cons, h]
  · simp [List.takeWhile_cons, h]

/-- What is said of a place by a search is enough to know it. -/
theorem low_uniq (L : List Th) (k : Int) (i : Nat) (hi : i ≤ L.length) (h1 : ∀ j t, j < i → L[j]? = some t → t.1 < k) (h2 : ∀ t, L[i]? = some t → k ≤ t.1) : i = low L k := by
  induction L generalizing i with
  | nil => simp at hi; subst hi; rfl
  | cons a L ih =>
    rw [low_cons]
    cases i with
    | zero =>
      have := h2 a rfl
      rw [if_neg (by omega)]
    | succ i =>
      have := h1 0 a (by omega) rfl
      rw [if_pos this, ← ih i (by simpa using hi) (fun j t hj ht => h1 (j + 1) t (by omega) (by simpa using ht)) (fun t ht => h2 t (by simpa using ht))]

theorem low_lt (L : List Th) (k : Int) : ∀ j t, j < low L k → L[j]? = some t → t.1 < k := by
  induction L with
  | nil => intro j t h _; simp [low] at h
  | cons a L ih =>
    intro j t h ht
    rw [low_cons] at h
    split at h
    · cases j with
      | zero => simp at ht; subst ht; assumption
      | succ j => exact ih j t (by omega) (by simpa using ht)
    · omega
theorem low_ge (L : List Th) (k : Int) (hs : Srt L) : ∀ j t, low L k ≤ j → L[j]? = some t → k ≤ t.1 := by
  induction L with
  | nil => intro j t _ ht; simp at ht
  | cons a L ih =>
    intro j t h ht
    rw [low_cons] at h
    have hp := List.pairwise_cons.1 hs
    split at h
    · cases j with
      | zero => omega
      | succ j => exact ih hp.2 j t (by omega) (by simpa using ht)
    · cases j with
      | zero => simp at ht; subst ht; omega
      | succ j =>
        have := hp.1 t (List.mem_of_getElem? (by simpa using ht))
        omega

theorem srt_uniq : ∀ (A B : List Th), Srt A → Srt B → (∀ t, t ∈ A ↔ t ∈ B) → A = B
  | [], [], _, _, _ => rfl
  | [], b :: B, _, _, h => by have := (h b).2 (by simp); simp at this
  | a :: A, [], _, _, h => by have := (h a).1 (by simp); simp at this
  | a :: A, b :: B, ha, hb, h => by
    have pa := List.pairwise_cons.1 ha
    have pb := List.pairwise_cons.1 hb
    have hab : a = b := by
      have h1 := (h a).1 (by simp)
      have h2 := (h b).2 (by simp)
      rcases List.mem_cons.1 h1 with e | h1
      · exact e
      · rcases List.mem_cons.1 h2 with e | h2
        · exact e.symm
        · have := pb.1 a h1; have := pa.1 b h2; omega
    subst hab
    rw [srt_uniq A B pa.2 pb.2 (fun t => ?_)]
    have := h t
    simp only [List.mem_cons] at this
    constructor
    · intro ht
      rcases this.1 (.inr ht) with e | h'
      · subst e; have := pa.1 t ht; omega
      · exact h'
    · intro ht
      rcases this.2 (.inr ht) with e | h'
      · subst e; have := pb.1 t ht; omega
      · exact h'

theorem mem_ins (t u : Th) (L : List Th) : u ∈ ins t L ↔ u = t ∨ u ∈ L := by
  unfold ins
  have : u ∈ L ↔ u ∈ L.take (low L t.1) ∨ u ∈ L.drop (low L t.1) := by
    rw [← List.mem_append, List.take_append_drop]
  simp only [List.mem_append, List.mem_cons, this]
  constructor
  · rintro (h | h | h)
    · exact .inr (.inl h)
    · exact .inl h
    · exact .inr (.inr h)
  · rintro (h | h | h)
    · exact .inr (.inl h)
    · exact .inl h
    · exact .inr (.inr h)

theorem mem_take {L : List Th} {n : Nat} {u : Th} (h : u ∈ L.take n) : ∃ j, j < n ∧ L[j]? = some u := by
  obtain ⟨j, hj⟩ := List.mem_iff_getElem?.1 h
  rw [List.getElem?_take] at hj
  split at hj
  · exact ⟨j, by assumption, hj⟩
  · cases hj
theorem mem_drop {L : List Th} {n : Nat} {u : Th} (h : u ∈ L.drop n) : ∃ j, n ≤ j ∧ L[j]? = some u := by
  obtain ⟨j, hj⟩ := List.mem_iff_getElem?.1 h
  rw [List.getElem?_drop] at hj
  exact ⟨n + j, by omega, hj⟩

theorem srt_ins (t : Th) (L : List Th) (hs : Srt L) (hn : ∀ u ∈ L, u.1 ≠ t.1) : Srt (ins t L) := by
  unfold ins Srt
  have h0 : (L.take (low L t.1) ++ L.drop (low L t.1)).Pairwise (fun a b => a.1 < b.1) := by rw [List.take_append_drop]; exact hs
  have h1 := List.pairwise_append.1 h0
  refine List.pairwise_append.2 ⟨h1.1, List.pairwise_cons.2 ⟨fun u hu => ?_, h1.2.1⟩, fun a ha b hb => ?_⟩
  · obtain ⟨j, hj, hu'⟩ := mem_drop hu
    have := low_ge L t.1 hs j u hj hu'
    have := hn u (List.mem_of_getElem? hu')
    omega
  · obtain ⟨j, hj, ha'⟩ := mem_take ha
    have hlt := low_lt L t.1 j a hj ha'
    rcases List.mem_cons.1 hb with e | hb
    · subst e; exact hlt
    · exact h1.2.2 a ha b hb

theorem fold_ins (Q : List Th) : ∀ (out : List Th), Srt out → Q.Pairwise (fun a b => a.1 ≠ b.1) → (∀ a ∈ out, ∀ b ∈ Q, a.1 ≠ b.1) →
    Srt (Q.foldl (fun out t => ins t out) out) ∧ ∀ u, u ∈ Q.foldl (fun out t => ins t out) out ↔ u ∈ out ∨ u ∈ Q := by
  induction Q with
  | nil => intro out h _ _; exact ⟨h, fun u => by simp⟩
  | cons t Q ih =>
    intro out hs hp hd
    have hp' := List.pairwise_cons.1 hp
    have := ih (ins t out) (srt_ins t out hs (fun u hu => hd u hu t (by simp))) hp'.2 (fun a ha b hb => by
      rcases (mem_ins t a out).1 ha with e | ha
      · subst e; exact hp'.1 b hb
      · exact hd a ha b (by simp [hb]))
    refine ⟨this.1, fun u => ?_⟩
    rw [List.foldl_cons, this.2 u, mem_ins, List.mem_cons]
    constructor
    · rintro ((h | h) | h)
      · exact .inr (.inl h)
      · exact .inl h
      · exact .inr (.inr h)
    · rintro (h | h | h)
      · exact .inl (.inr h)
      · exact .inl (.inl h)
      · exact .inr h

theorem things_tell {c : Int} {L : List Th} {P : List Pu} (h : Sim c L P) : things c P = tell c L := by
  unfold Sim at h
  unfold things tell
  by_cases hm : isMap c = true
  · rw [if_pos hm] at h
    have h1 : ¬ c = 1 := by intro e; subst e; simp [isMap] at hm
    rw [if_neg h1, if_pos hm, if_neg h1]
    have := fold_ins (live P) [] List.Pairwise.nil h.2.2 (by simp)
    exact srt_uniq _ _ this.1 h.1 (fun t => by rw [this.2 t, h.2.1 t]; simp)
  · rw [if_neg hm] at h
    rw [if_neg hm]
    rw [h]
end Go.Proofs.Ytphfcfnbefikiaa
