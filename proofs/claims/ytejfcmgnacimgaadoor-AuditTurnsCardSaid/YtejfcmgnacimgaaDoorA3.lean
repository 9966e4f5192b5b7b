/- What a replay is, in memory, and the contracts of the replay's functions that only read, but for its guards: hasSlot, hasThread, owns, mayProtect. -/
import Derived.Test.YtejfcmgnacimgaaDoorA2
namespace Go.Proofs.YtejfcmgnacimgaaDoor
open Go.RowKit
set_option linter.unusedVariables false
set_option linter.unusedSimpArgs false

structure Sl where
  st : Int
  life : Int
  th : Int
  pub : Int
  ret : Int
  ends : Int
  ws : Nat → Int

def scell (s : Sl) : Nat → Value
  | 0 => .int .i64 s.st
  | 1 => .int .i64 s.life
  | 2 => .int .i64 s.th
  | 3 => .int .i64 s.pub
  | 4 => .int .i64 s.ret
  | 5 => .int .i64 s.ends
  | k + 6 => .int .u64 (s.ws k)

structure RS where
  T : Int
  B : Int
  a : Int
  b : Int
  m : Nat
  sl : Nat → Sl
  G : Int → Nat → Int × Int

/-- Numbers are within their limits. -/
structure RS.Ok (s : RS) : Prop where
  T : 0 ≤ s.T ∧ s.T ≤ 16
  B : 0 ≤ s.B ∧ s.B ≤ 1000
  a : 0 ≤ s.a ∧ s.a ≤ 4096
  b : 0 ≤ s.b ∧ s.b ≤ 4096
  m : (s.m : Int) = 1 + s.a + s.b

def gagg (g : Nat → Int × Int) : Value :=
  .agg #[.int .i64 (g 0).1, .int .i64 (g 0).2, .int .i64 (g 1).1, .int .i64 (g 1).2, .int .i64 (g 2).1, .int .i64 (g 2).2, .int .i64 (g 3).1, .int .i64 (g 3).2,
    .int .i64 (g 4).1, .int .i64 (g 4).2, .int .i64 (g 5).1, .int .i64 (g 5).2, .int .i64 (g 6).1, .int .i64 (g 6).2, .int .i64 (g 7).1, .int .i64 (g 7).2,
    .int .i64 (g 8).1, .int .i64 (g 8).2, .int .i64 (g 9).1, .int .i64 (g 9).2, .int .i64 (g 10).1, .int .i64 (g 10).2, .int .i64 (g 11).1, .int .i64 (g 11).2]

/-- The map of guards says G: each entry is a thread's, no thread has two, and who has none has no guard. -/
def MapIs (M : Nat) (G : Int → Nat → Int × Int) (w : World) : Prop :=
  ∃ es clock, w.heap[M]? = some (.map es clock) ∧ (∀ x ∈ es.toList, ∃ t, x.key = .int .i64 t ∧ (Lit.int .i64 t).wf = true ∧ x.val = gagg (G t)) ∧ (es.toList.map (·.key)).Nodup ∧
    ∀ t, (∀ x ∈ es.toList, x.key ≠ .int .i64 t) → G t = fun _ => (0, 0)

/-- A replay, and the table. -/
structure RepAt (R S M : Nat) (s : RS) (w : World) : Prop where
  r0 : w.cell? ⟨R, 0, none⟩ = some (.int .i64 s.T)
  r1 : w.cell? ⟨R, 1, none⟩ = some (.int .i64 s.B)
  r2 : w.cell? ⟨R, 2, none⟩ = some (.int .i64 s.a)
  r3 : w.cell? ⟨R, 3, none⟩ = some (.int .i64 s.b)
  r4 : w.cell? ⟨R, 4, none⟩ = some (.slice (some ⟨S, 0, none⟩) s.m s.m)
  r5 : w.cell? ⟨R, 5, none⟩ = some (.map (some M))
  sc : ∀ i, i < s.m → ∀ k, k < 14 → w.cell? ⟨S, i * 14 + k, none⟩ = some (scell (s.sl i) k)
  sf : ∀ o, w.frozen? ⟨S, o, none⟩ = false
  map : MapIs M s.G w
  z : Sz w
  nRS : R ≠ S
  nRM : R ≠ M
  nSM : S ≠ M
  lt : S < w.heap.size ∧ M < w.heap.size

theorem MapIs.below {M : Nat} {G : Int → Nat → Int × Int} {w w' : World} (h : MapIs M G w) (hb : Below w.heap.size w w') (hM : M < w.heap.size) : MapIs M G w' := by
  obtain ⟨es, c, h1, h2⟩ := h
  exact ⟨es, c, (hb.block M hM).trans h1, h2⟩

theorem RepAt.below {R S M : Nat} {s : RS} {w w' : World} (h : RepAt R S M s w) (hb : Below w.heap.size w w') : RepAt R S M s w' :=
  ⟨keep hb h.r0, keep hb h.r1, keep hb h.r2, keep hb h.r3, keep hb h.r4, keep hb h.r5, fun i hi k hk => keep hb (h.sc i hi k hk), fun o => (hb.frozen (by exact h.lt.1)).trans (h.sf o), h.map.below hb h.lt.2, h.z.below hb, h.nRS, h.nRM, h.nSM,
    Nat.lt_of_lt_of_le h.lt.1 hb.size, Nat.lt_of_lt_of_le h.lt.2 hb.size⟩

def thB (s : RS) (t : Int) : Bool := decide (0 ≤ t) && decide (t ≤ s.T)
def hasB (s : RS) (i : Int) : Bool := decide (1 ≤ i) && decide (i < (s.m : Int))

theorem hasThread_any {R S M : Nat} {s : RS} (t : Int) (w : World) (h : RepAt R S M s w) :
    Calls Tryd.prog 30 #[.pointer (some ⟨R, 0, none⟩), .int .i64 t] w fun e w' => e = .returned (.bool (thB s t)) ∧ w = w' := by
  obtain ⟨c0, -⟩ := h
  unfold thB
  by_cases h0 : 0 ≤ t
  · have e0 : decide (0 ≤ t) = true := by simpa using h0
    rw [e0, Bool.true_and]
    go_enter Tryd.func30, Tryd.ntmps30
    go_wp2
    go_returns
    exact ⟨rfl, rfl⟩
  · have e0 : decide (0 ≤ t) = false := by simpa using h0
    rw [e0, Bool.false_and]
    go_enter Tryd.func30, Tryd.ntmps30
    go_wp2
    go_returns
    exact ⟨rfl, rfl⟩

theorem hasSlot_any {R S M : Nat} {s : RS} (i : Int) (w : World) (h : RepAt R S M s w) :
    Calls Tryd.prog 36 #[.pointer (some ⟨R, 0, none⟩), .int .i64 i] w fun e w' => e = .returned (.bool (hasB s i)) ∧ w = w' := by
  obtain ⟨-, -, -, -, c4, -⟩ := h
  unfold hasB
  by_cases h0 : 1 ≤ i
  · have e0 : decide (1 ≤ i) = true := by simpa using h0
    rw [e0, Bool.true_and]
    go_enter Tryd.func36, Tryd.ntmps36
    go_wp2
    go_returns
    exact ⟨rfl, rfl⟩
  · have e0 : decide (1 ≤ i) = false := by simpa using h0
    rw [e0, Bool.false_and]
    go_enter Tryd.func36, Tryd.ntmps36
    go_wp2
    go_returns
    exact ⟨rfl, rfl⟩

theorem hasB_yes {s : RS} {i : Int} (h : hasB s i = true) : ∃ n : Nat, i = (n : Int) ∧ 1 ≤ n ∧ n < s.m := by
  unfold hasB at h
  simp at h
  exact ⟨i.toNat, by omega, by omega, by omega⟩

/-- The cells of one slot. -/
theorem RepAt.slot {R S M : Nat} {s : RS} {w : World} (h : RepAt R S M s w) {i : Nat} (hi : i < s.m) :
    w.cell? ⟨S, i * 14, none⟩ = some (.int .i64 (s.sl i).st) ∧ w.cell? ⟨S, i * 14 + 1, none⟩ = some (.int .i64 (s.sl i).life) ∧ w.cell? ⟨S, i * 14 + 2, none⟩ = some (.int .i64 (s.sl i).th) ∧
    w.cell? ⟨S, i * 14 + 3, none⟩ = some (.int .i64 (s.sl i).pub) ∧ w.cell? ⟨S, i * 14 + 4, none⟩ = some (.int .i64 (s.sl i).ret) ∧ w.cell? ⟨S, i * 14 + 5, none⟩ = some (.int .i64 (s.sl i).ends) :=
  ⟨h.sc i hi 0 (by decide), h.sc i hi 1 (by decide), h.sc i hi 2 (by decide), h.sc i hi 3 (by decide), h.sc i hi 4 (by decide), h.sc i hi 5 (by decide)⟩

def ownB (s : RS) (t i : Int) : Bool := hasB s i && ((s.sl i.toNat).st == 1 && (s.sl i.toNat).th == t)

set_option maxHeartbeats 1000000 in
set_option maxRecDepth 100000 in
theorem owns_any {R S M : Nat} {s : RS} (t i : Int) (w : World) (h : RepAt R S M s w) :
    Calls Tryd.prog 33 #[.pointer (some ⟨R, 0, none⟩), .int .i64 t, .int .i64 i] w fun e w' => e = .returned (.bool (ownB s t i)) ∧ w = w' := by
  unfold ownB
  have HH := Lib.hid h
  have c4 := h.r4
  cases hb : hasB s i
  · have HB := Lib.hid hb
    clear hb h
    go_enter Tryd.func33, Tryd.ntmps33
    go_wp2_with fail
    refine (hasSlot_any i _ HH.out).mono ?_
    rintro e w' ⟨rfl, rfl⟩
    rw [HB.out]
    go_wp2
    go_returns
    exact ⟨rfl, rfl⟩
  · obtain ⟨n, rfl, hn, hm⟩ := hasB_yes hb
    obtain ⟨d0, d1, d2, d3, d4, d5⟩ := h.slot hm
    have HB := Lib.hid hb
    clear hb h
    simp only [Int.toNat_natCast, Bool.true_and]
    generalize s.sl n = x at *
    by_cases hs : x.st = 1
    all_goals
      go_enter Tryd.func33, Tryd.ntmps33
      go_wp2_with fail
      refine (hasSlot_any n _ HH.out).mono ?_
      rintro e w' ⟨rfl, rfl⟩
      rw [HB.out]
      go_wp2
      go_returns
      exact ⟨ret_bool (by simp [hs]), rfl⟩

def mayP (x : Sl) (read : Int) : Bool := !(decide (read < x.pub)) && (x.st == 2 || (x.st == 3 && decide (read < x.ret)))

set_option maxHeartbeats 1000000 in
set_option maxRecDepth 100000 in
theorem mayProtect_any {R S M : Nat} {s : RS} (n : Nat) (hn : n < s.m) (read : Int) (w : World) (h : RepAt R S M s w) :
    Calls Tryd.prog 45 #[.pointer (some ⟨S, n * 14, none⟩), .int .i64 read] w fun e w' => e = .returned (.bool (mayP (s.sl n) read)) ∧ w = w' := by
  obtain ⟨d0, d1, d2, d3, d4, d5⟩ := h.slot hn
  unfold mayP
  clear h
  generalize s.sl n = x at *
  by_cases h1 : read < x.pub
  · go_enter Tryd.func45, Tryd.ntmps45
    go_wp2
    go_returns
    exact ⟨ret_bool (by simp [h1]), rfl⟩
  · have h1' : decide (read < x.pub) = false := by simpa using h1
    by_cases h2 : x.st = 2
    · go_enter Tryd.func45, Tryd.ntmps45
      go_wp2
      go_returns
      exact ⟨ret_bool (by simp [h1', h2]), rfl⟩
    · by_cases h3 : x.st = 3
      all_goals
        go_enter Tryd.func45, Tryd.ntmps45
        go_wp2
        go_returns
        exact ⟨ret_bool (by simp [h1', h2, h3]), rfl⟩
end Go.Proofs.YtejfcmgnacimgaaDoor
