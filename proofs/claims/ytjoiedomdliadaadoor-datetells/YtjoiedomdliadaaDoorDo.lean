/- Days and clocks as texts stand in the order of their numbers. No program stands in this text. -/
import Derived.Test.YtjoiedomdliadaaDoorDn
import Derived.Laws.Strings
namespace Go.Proofs.YtjoiedomdliadaaDoor
open Op

theorem bl_same (c : UInt8) (x y : Bt) : bytesLess (c :: x) (c :: y) = bytesLess x y := by
  conv => lhs; unfold bytesLess
  have : ¬ c < c := UInt8.lt_irrefl c
  simp [this]
theorem bl_dig {a b : Nat} (ha : a < 10) (hb : b < 10) (x y : Bt) : bytesLess (dC a :: x) (dC b :: y) = true ↔ a < b ∨ (a = b ∧ bytesLess x y = true) := by
  conv => lhs; lhs; unfold bytesLess
  have h1 : dC a < dC b ↔ a < b := by rw [UInt8.lt_iff_toNat_lt, dC_nat ha, dC_nat hb]; omega
  have h2 : dC a = dC b ↔ a = b := by
    rw [← UInt8.toNat_inj, dC_nat ha, dC_nat hb]; omega
  simp [h1, h2]
theorem bl_pair {n k : Nat} (hn : n < 100) (hk : k < 100) (x y : Bt) : bytesLess (pairT n ++ x) (pairT k ++ y) = true ↔ n < k ∨ (n = k ∧ bytesLess x y = true) := by
  unfold pairT
  simp only [List.cons_append, List.nil_append]
  rw [bl_dig (by omega) (by omega), bl_dig (by omega) (by omega)]
  constructor
  · rintro (h | ⟨h1, h | ⟨h2, h3⟩⟩)
    · left; omega
    · left; omega
    · right; exact ⟨by omega, h3⟩
  · rintro (h | ⟨h1, h2⟩)
    · by_cases e : n / 10 < k / 10
      · left; exact e
      · right; exact ⟨by omega, Or.inl (by omega)⟩
    · right; exact ⟨by omega, Or.inr ⟨by omega, h2⟩⟩
theorem bl_year {n k : Nat} (hn : n < 10000) (hk : k < 10000) (x y : Bt) : bytesLess (yearT n ++ x) (yearT k ++ y) = true ↔ n < k ∨ (n = k ∧ bytesLess x y = true) := by
  have e : ∀ n z, yearT n ++ z = pairT (n / 100) ++ (pairT (n % 100) ++ z) := fun n z => by
    unfold yearT pairT
    simp only [List.cons_append, List.nil_append]
    rw [show n / 100 / 10 = n / 1000 by omega, show n % 100 / 10 = n / 10 % 10 by omega, show n % 100 % 10 = n % 10 by omega]
  rw [e, e, bl_pair (by omega) (by omega), bl_pair (by omega) (by omega)]
  constructor
  · rintro (h | ⟨h1, h | ⟨h2, h3⟩⟩)
    · left; omega
    · left; omega
    · right; exact ⟨by omega, h3⟩
  · rintro (h | ⟨h1, h2⟩)
    · by_cases e : n / 100 < k / 100
      · left; exact e
      · right; exact ⟨by omega, Or.inl (by omega)⟩
    · right; exact ⟨by omega, Or.inr ⟨by omega, h2⟩⟩
theorem bl_day {y m d y' m' d' : Nat} (h1 : y < 10000) (h2 : y' < 10000) (h3 : m < 100) (h4 : m' < 100) (h5 : d < 100) (h6 : d' < 100) :
    bytesLess (dayT y m d) (dayT y' m' d') = true ↔ y < y' ∨ (y = y' ∧ (m < m' ∨ (m = m' ∧ d < d'))) := by
  unfold dayT
  rw [bl_year h1 h2, bl_same, bl_pair h3 h4, bl_same]
  have := bl_pair h5 h6 [] []
  rw [List.append_nil, List.append_nil] at this
  rw [this]
  simp [bytesLess]
theorem bl_clock {t u : Nat} (ht : t < 86400) (hu : u < 86400) : bytesLess (clockT t) (clockT u) = true ↔ t < u := by
  unfold clockT
  rw [bl_pair (by omega) (by omega), bl_same, bl_pair (by omega) (by omega), bl_same]
  have := bl_pair (show t % 60 < 100 by omega) (show u % 60 < 100 by omega) [] []
  rw [List.append_nil, List.append_nil] at this
  rw [this]
  simp [bytesLess]
  omega
theorem day_less {y m d y' m' d' : Nat} (h : OkD y m d) (h' : OkD y' m' d') (hl : y < y' ∨ (y = y' ∧ (m < m' ∨ (m = m' ∧ d < d')))) : dayN y m d < dayN y' m' d' := by
  rcases hl with hy | ⟨rfl, hm | ⟨rfl, hd⟩⟩
  · have a := (dayN_year h).2
    have b := (dayN_year h').1
    have := yearD_le (y := y + 1) (z := y') (by have := h.1; omega) (by omega)
    omega
  · have a := (dayN_month h).2
    have b := (dayN_month h').1
    have := aheadD_le (y := y) (m := m + 1) (n := m') (by omega) (by omega)
    omega
  · have := h.2.2.2.2.1
    unfold dayN; omega
theorem okD_small {y m d : Nat} (h : OkD y m d) : y < 10000 ∧ m < 100 ∧ d < 100 := by
  have := (monL_pos y m).2
  obtain ⟨_, h2, _, h4, _, h6⟩ := h
  omega
/-- The text of a later day does not stand ahead. -/
theorem day_after {y m d y' m' d' : Nat} (h : OkD y m d) (h' : OkD y' m' d') (hl : dayN y m d ≤ dayN y' m' d') : bytesLess (dayT y' m' d') (dayT y m d) = false := by
  have a := okD_small h; have b := okD_small h'
  cases hb : bytesLess (dayT y' m' d') (dayT y m d) with
  | false => rfl
  | true =>
    have := day_less h' h ((bl_day b.1 a.1 b.2.1 a.2.1 b.2.2 a.2.2).1 hb)
    omega
theorem dayT_ne {y m d y' m' d' : Nat} (h : OkD y m d) (h' : OkD y' m' d') (hl : dayN y m d ≠ dayN y' m' d') : dayT y m d ≠ dayT y' m' d' := fun e => by
  have a := day_back h; have b := day_back h'
  rw [e, b] at a
  exact hl (Option.some.inj a).symm
theorem clock_after {t u : Nat} (hu : u < 86400) (h : t < u) : bytesLess (clockT u) (clockT t) = false ∧ clockT u ≠ clockT t := by
  constructor
  · cases hb : bytesLess (clockT u) (clockT t) with
    | false => rfl
    | true => have := (bl_clock hu (by omega)).1 hb; omega
  · intro e
    have a := clock_back hu; have b := clock_back (t := t) (by omega)
    rw [e, b] at a
    have := Option.some.inj a; omega
end Go.Proofs.YtjoiedomdliadaaDoor
