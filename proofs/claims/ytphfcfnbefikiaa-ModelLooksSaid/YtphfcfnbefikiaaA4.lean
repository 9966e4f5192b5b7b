/- sort.Search with find's closure; find. -/
import Derived.Test.YtphfcfnbefikiaaA3
import Derived.Deep.QuietTactic
import Derived.BigQuiet
import Derived.WalkSmall
import Derived.StillTailTactics
import Derived.OwnWalk
namespace Go.Proofs.Ytphfcfnbefikiaa
open Go.RowKit
set_option linter.unusedVariables false
set_option linter.unusedSimpArgs false

set_option maxHeartbeats 1000000 in
theorem closure_at {Bs Bk b off cap n i : Nat} {key k : Int} (w : World) (hi : i < n) (h1 : w.cell? ⟨Bs, 0, none⟩ = some (.slice (some ⟨b, off, none⟩) n cap)) (h2 : w.cell? ⟨Bk, 0, none⟩ = some (u64 key)) (h3 : w.cell? ⟨b, off + i * 2, none⟩ = some (u64 k)) (hn : n ≤ 1000) :
    Calls Try.prog 51 #[i64 i, P Bs, P Bk] w fun e w' => e = .returned (.bool (decide (key ≤ k))) ∧ ∃ j, w' = w.drewN j := by
  go_enter Try.func51, Try.ntmps51
  go_wp2_with fail
  go_quiet (fail)
  go_wp2
  go_returns
  exact ⟨rfl, _, rfl⟩

/-- what a search for a key knows between two rounds -/
structure Between (L : List Th) (key : Int) (i j : Nat) : Prop where
  le : i ≤ j
  top : j ≤ L.length
  lo : ∀ a t, a < i → L[a]? = some t → t.1 < key
  hi : ∀ a t, j ≤ a → L[a]? = some t → key ≤ t.1

theorem Between.up {L : List Th} {key : Int} {i j h : Nat} {t : Th} (b : Between L key i j) (hs : Srt L) (h1 : i ≤ h) (h2 : h < j) (ht : L[h]? = some t) (hk : t.1 < key) : Between L key (h + 1) j :=
  ⟨by omega, b.top, fun a u ha hu => by
    rcases Nat.lt_or_ge a h with g | g
    · obtain ⟨x1, x2⟩ := List.getElem?_eq_some_iff.1 hu
      obtain ⟨y1, y2⟩ := List.getElem?_eq_some_iff.1 ht
      have := List.pairwise_iff_getElem.1 hs a h x1 y1 g
      rw [x2, y2] at this; omega
    · obtain rfl : a = h := by omega
      rw [ht] at hu; obtain rfl := Option.some.inj hu; exact hk, b.hi⟩
theorem Between.down {L : List Th} {key : Int} {i j h : Nat} {t : Th} (b : Between L key i j) (hs : Srt L) (h1 : i ≤ h) (h2 : h < j) (ht : L[h]? = some t) (hk : key ≤ t.1) : Between L key i h :=
  ⟨h1, by have := b.top; omega, b.lo, fun a u ha hu => by
    rcases Nat.lt_or_ge h a with g | g
    · obtain ⟨x1, x2⟩ := List.getElem?_eq_some_iff.1 hu
      obtain ⟨y1, y2⟩ := List.getElem?_eq_some_iff.1 ht
      have := List.pairwise_iff_getElem.1 hs h a y1 x1 g
      rw [x2, y2] at this; omega
    · obtain rfl : a = h := by omega
      rw [ht] at hu; obtain rfl := Option.some.inj hu; exact hk⟩

set_option maxHeartbeats 4000000 in
theorem search_any {Bs Bk n cap : Nat} {ad : Option Addr} {key : Int} {L : List Th} (hs : Srt L) (w : World) (h1 : w.cell? ⟨Bs, 0, none⟩ = some (.slice ad n cap)) (h2 : w.cell? ⟨Bk, 0, none⟩ = some (u64 key)) (hsl : Sl w 51 2 (.slice ad n cap) n (cells2 L)) (hL : L.length = n) (hn : n ≤ 1000) :
    Calls Try.prog 50 #[i64 n, .func (.func 51) #[] #[P Bs, P Bk]] w fun e w' => e = .returned (i64 (low L key)) ∧ ∃ j, w' = w.drewN j := by
  have C : ∀ (i : Nat) (t : Th) (q : Nat), i < n → L[i]? = some t → Calls Try.prog 51 #[i64 i, P Bs, P Bk] (w.drewN q) fun e w' => e = .returned (.bool (decide (key ≤ t.1))) ∧ ∃ j, w' = w.drewN j := fun i t q hi ht => by
    obtain ⟨b, off, cap', hv, _, _, _, _, hc, _⟩ := hsl.at (by omega)
    simp only [Value.slice.injEq, true_and] at hv
    obtain ⟨rfl, rfl⟩ := hv
    refine (closure_at (w.drewN q) hi h1 h2 (k := t.1) ?_ hn).mono ?_
    · exact (hc (i * 2) (by omega)).trans (cells2_0 ht)
    · rintro e w' ⟨he, j, hj⟩
      exact ⟨he, q + j, by rw [hj]; simp⟩
  have HC := Lib.hid C
  have HS := Lib.hid hs
  have HL := Lib.hid hL
  clear C h1 h2 hsl hs hL
  go_enter Try.func50, Try.ntmps50
  go_wp2_with fail
  go_loopw [5, 6] (fun a b wr => ∃ i j q : Nat, a = i64 i ∧ b = i64 j ∧ wr = w.drewN q ∧ Between L key i j) (fun a b _ => (intOf b).toNat - (intOf a).toNat)
  case atStart => exact ⟨0, n, 0, rfl, rfl, rfl, ⟨by omega, by rw [HL.out]; exact Nat.le_refl _, fun a t h _ => by omega, fun a t h ht => by have := (List.getElem?_eq_some_iff.1 ht).1; rw [HL.out] at this; omega⟩⟩
  case round =>
    obtain ⟨i, j, q, rfl, rfl, rfl, hb⟩ := hrel
    have HB := Lib.hid hb
    have hj1000 : j ≤ n := by have := hb.top; rw [HL.out] at this; exact this
    have hij := hb.le
    clear hb
    by_cases hlt : i < j
    · have hlt' : (i : Int) < (j : Int) := by omega
      obtain ⟨h, hh⟩ : ∃ h : Nat, h = (i + j) / 2 := ⟨_, rfl⟩
      have hh1 : i ≤ h := by omega
      have hh2 : h < j := by omega
      have hhl : h < L.length := by rw [HL.out]; omega
      obtain ⟨t, ht⟩ : ∃ t, L[h]? = some t := ⟨_, List.getElem?_eq_getElem hhl⟩
      have HT := Lib.hid ht
      have HH := Lib.hid (show ((i : Int) + (j : Int)) / 2 = (h : Int) by omega)
      clear ht hh hhl
      go_wp2_with fail
      simp only [HH.out]
      refine (HC.out h t q (by omega) HT.out).mono ?_
      rintro e w1 ⟨rfl, q', rfl⟩
      by_cases hk : key ≤ t.1
      · have hd : decide (key ≤ t.1) = true := by simpa using hk
        have HK := Lib.hid hk
        clear hk
        rw [hd]
        go_wp2
        go_roundw
        case rel => exact ⟨i, h, q', rfl, rfl, rfl, HB.out.down HS.out hh1 hh2 HT.out HK.out⟩
        case measure => simp [intOf]; omega
      · have hd : decide (key ≤ t.1) = false := by simpa using hk
        have HK := Lib.hid hk
        clear hk
        rw [hd]
        go_wp2
        go_roundw
        case rel => exact ⟨h + 1, j, q', by first | rfl | simp, rfl, rfl, HB.out.up HS.out hh1 hh2 HT.out (by have := HK.out; omega)⟩
        case measure => simp [intOf]; omega
    · have hnl : (j : Int) ≤ (i : Int) := by omega
      have HE := Lib.hid (show (i : Int) = (low L key : Int) by
        have : i = low L key := low_uniq L key i (by have := HB.out.top; omega) HB.out.lo (fun t ht => HB.out.hi i t (by omega) ht)
        omega)
      go_wp2
      go_returns
      exact ⟨by rw [HE.out]; rfl, _, rfl⟩

theorem has_eq (L : List Th) (key : Int) : has L key = true → low L key < L.length := by
  intro h
  obtain ⟨t, ht, _⟩ := has_at h
  exact (List.getElem?_eq_some_iff.1 ht).1

set_option maxHeartbeats 4000000 in
theorem find_any {X H : Nat} {v : Value} {c : Int} {L : List Th} {key : Int} (hs : Srt L) (w : World) (h : Ob w X H v c L) (hn : L.length ≤ 1000) :
    Calls Try.prog 47 #[P X, u64 key] w fun e w' => e = .returned (.tuple #[i64 (low L key), .bool (has L key)]) ∧ Below w.heap.size w w' := by
  obtain ⟨n, hL⟩ : ∃ n, L.length = n := ⟨_, rfl⟩
  obtain ⟨ad, cap, hv, hcap⟩ := h.sl.form
  subst hv
  rw [hL] at hn hcap
  have c1 := h.c1
  have hv := h.hv
  rw [hL] at hv
  have hsl := h.sl
  rw [hL] at hsl
  have hX := h.ltX
  have hH := h.ltH
  have HS := Lib.hid hs
  have HL := Lib.hid hL
  have HSL := Lib.hid hsl
  clear h hs hL hsl
  go_enter Try.func47, Try.ntmps47
  have HB := Lib.hid (show Below w.heap.size w ((w.alloc (.cells #[u64 key] 38)).alloc (.cells #[Value.slice ad n cap] 22)) by go_grown)
  go_wp2_with fail
  refine (search_any (n := n) (cap := cap) (ad := ad) (L := L) (key := key) HS.out _ (by simp [go_sem]) (by simp [go_sem]) (HSL.out.below HB.out) HL.out hn).mono ?_
  rintro e w1 ⟨rfl, q, rfl⟩
  have d1 : ∀ q, (((w.alloc (.cells #[u64 key] 38)).alloc (.cells #[Value.slice ad n cap] 22)).drewN q).cell? ⟨w.heap.size + 1, 0, none⟩ = some (.slice ad n cap) := fun q => by simp [go_sem]
  have d2 : ∀ q, (((w.alloc (.cells #[u64 key] 38)).alloc (.cells #[Value.slice ad n cap] 22)).drewN q).cell? ⟨w.heap.size, 0, none⟩ = some (u64 key) := fun q => by simp [go_sem]
  by_cases hlo : low L key < n
  · obtain ⟨t, ht⟩ : ∃ t, L[low L key]? = some t := ⟨_, List.getElem?_eq_getElem (by rw [HL.out]; omega)⟩
    obtain ⟨b, off, cap', hveq, hb, _, _, _, hc, _⟩ := HSL.out.at (by omega)
    simp only [Value.slice.injEq, true_and] at hveq
    obtain ⟨rfl, rfl⟩ := hveq
    have hlo' : (low L key : Int) < (n : Int) := by omega
    have HASE := Lib.hid (show has L key = (t.1 == key) by unfold has; rw [ht])
    obtain ⟨lo, hlow⟩ : ∃ lo, low L key = lo := ⟨_, rfl⟩
    rw [hlow] at hlo hlo' ht ⊢
    have d3 : ∀ q, (((w.alloc (.cells #[u64 key] 38)).alloc (.cells #[Value.slice (some ⟨b, off, none⟩) n cap] 22)).drewN q).cell? ⟨b, off + lo * 2, none⟩ = some (u64 t.1) := fun q => by
      have := (hc (lo * 2) (by omega)).trans (cells2_0 ht)
      have := keep HB.out this
      simpa using this
    have HW := Lib.hid (trivial : True)
    clear c1 hv hc ht
    go_wp2_with fail
    go_quiet (fail)
    go_wp2
    go_returns
    refine ⟨?_, ?_⟩
    · rw [HASE.out, hlow]; rfl
    · exact (HB.out.trans (below_drewN _ _ _)).trans (below_drewN _ _ _)
  · have hle := low_le L key
    have hlo' : (n : Int) ≤ (low L key : Int) := by omega
    have HASE := Lib.hid (show has L key = false by unfold has; rw [List.getElem?_eq_none (by rw [HL.out]; omega)])
    obtain ⟨lo, hlow⟩ : ∃ lo, low L key = lo := ⟨_, rfl⟩
    rw [hlow] at hlo hlo' ⊢
    clear c1 hv hle
    go_wp2_with fail
    go_quiet (fail)
    go_wp2
    go_returns
    refine ⟨?_, ?_⟩
    · rw [HASE.out, hlow]; rfl
    · exact (HB.out.trans (below_drewN _ _ _)).trans (below_drewN _ _ _)
end Go.Proofs.Ytphfcfnbefikiaa
