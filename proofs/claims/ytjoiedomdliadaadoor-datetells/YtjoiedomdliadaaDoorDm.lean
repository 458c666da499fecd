/- Days of the calendar as plain mathematics: each day from 1970 to 9999 has one number, and each number below 2932897 is one day. No program stands in this text. -/
import Derived.Lib.ItoaNum
import Derived.Lib.ParseIntB
namespace Go.Proofs.YtjoiedomdliadaaDoor

def leapY (y : Nat) : Bool := (y % 4 == 0 && y % 100 != 0) || y % 400 == 0
/-- One in a leap year. -/
def lpY (y : Nat) : Nat := if leapY y = true then 1 else 0
theorem lpY_le (y : Nat) : lpY y ≤ 1 := by unfold lpY; split <;> omega
theorem lpY_is (y : Nat) : (lpY y = 1 ∧ (y % 4 = 0 ∧ y % 100 ≠ 0 ∨ y % 400 = 0)) ∨ (lpY y = 0 ∧ ¬ (y % 4 = 0 ∧ y % 100 ≠ 0 ∨ y % 400 = 0)) := by
  unfold lpY leapY
  by_cases h : y % 4 = 0 ∧ y % 100 ≠ 0 ∨ y % 400 = 0
  · left
    refine ⟨if_pos ?_, h⟩
    simpa using h
  · right
    refine ⟨if_neg ?_, h⟩
    simpa using h
/-- How many days a month has. -/
def monL (y m : Nat) : Nat := if m = 2 then 28 + lpY y else if m = 4 ∨ m = 6 ∨ m = 9 ∨ m = 11 then 30 else 31
/-- How many days of a year are ahead of a month. -/
def aheadD (y : Nat) : Nat → Nat
  | 0 => 0
  | 1 => 0
  | m + 2 => aheadD y (m + 1) + monL y (m + 1)
theorem aheadD_is (y : Nat) : aheadD y 1 = 0 ∧ aheadD y 2 = 31 ∧ aheadD y 3 = 59 + lpY y ∧ aheadD y 4 = 90 + lpY y ∧ aheadD y 5 = 120 + lpY y ∧ aheadD y 6 = 151 + lpY y ∧ aheadD y 7 = 181 + lpY y ∧ aheadD y 8 = 212 + lpY y ∧ aheadD y 9 = 243 + lpY y ∧ aheadD y 10 = 273 + lpY y ∧ aheadD y 11 = 304 + lpY y ∧ aheadD y 12 = 334 + lpY y ∧ aheadD y 13 = 365 + lpY y := by
  simp [aheadD, monL]
  omega
theorem aheadD_next (y m : Nat) (h : 1 ≤ m) : aheadD y (m + 1) = aheadD y m + monL y m := by
  obtain ⟨k, rfl⟩ : ∃ k, m = k + 1 := ⟨m - 1, by omega⟩
  rfl
theorem monL_pos (y m : Nat) : 28 ≤ monL y m ∧ monL y m ≤ 31 := by
  unfold monL
  have := lpY_le y
  split
  · omega
  · split <;> omega
theorem aheadD_mono (y : Nat) : ∀ (k m : Nat), 1 ≤ m → aheadD y m ≤ aheadD y (m + k)
  | 0, m, _ => Nat.le_refl _
  | k + 1, m, h => by
    have := aheadD_mono y k m h
    have := aheadD_next y (m + k) (by omega)
    rw [show m + (k + 1) = m + k + 1 by omega]
    omega
/-- How many days are ahead of the k-th year from 1970 on. -/
def yearK : Nat → Nat
  | 0 => 0
  | k + 1 => yearK k + 365 + lpY (k + 1970)
theorem yearK_is (k : Nat) : ((yearK k : Nat) : Int) = 365 * (k : Int) + ((k + 1969) / 4 : Nat) - ((k + 1969) / 100 : Nat) + ((k + 1969) / 400 : Nat) - 477 := by
  induction k with
  | zero => decide
  | succ k ih =>
    have q4 : (k + 1970) / 4 = (k + 1969) / 4 + if 4 ∣ k + 1970 then 1 else 0 := Nat.succ_div ..
    have q100 : (k + 1970) / 100 = (k + 1969) / 100 + if 100 ∣ k + 1970 then 1 else 0 := Nat.succ_div ..
    have q400 : (k + 1970) / 400 = (k + 1969) / 400 + if 400 ∣ k + 1970 then 1 else 0 := Nat.succ_div ..
    rw [show k + 1 + 1969 = k + 1970 by omega, q4, q100, q400]
    clear q4 q100 q400
    unfold yearK
    generalize (k + 1969) / 4 = p at *
    generalize (k + 1969) / 100 = q at *
    generalize (k + 1969) / 400 = r at *
    have h4 : 4 ∣ k + 1970 ↔ (k + 1970) % 4 = 0 := Nat.dvd_iff_mod_eq_zero
    have h100 : 100 ∣ k + 1970 ↔ (k + 1970) % 100 = 0 := Nat.dvd_iff_mod_eq_zero
    have h400 : 400 ∣ k + 1970 ↔ (k + 1970) % 400 = 0 := Nat.dvd_iff_mod_eq_zero
    rcases lpY_is (k + 1970) with ⟨hl, hc⟩ | ⟨hl, hc⟩
    · rw [hl]
      by_cases c4 : 4 ∣ k + 1970
      · by_cases c100 : 100 ∣ k + 1970
        · by_cases c400 : 400 ∣ k + 1970
          · rw [if_pos c4, if_pos c100, if_pos c400]; omega
          · exfalso; rw [h100] at c100; rw [h400] at c400; omega
        · have c400 : ¬ 400 ∣ k + 1970 := fun h => c100 (Nat.dvd_trans (by decide) h)
          rw [if_pos c4, if_neg c100, if_neg c400]; omega
      · exfalso
        rw [h4] at c4
        have : (k + 1970) % 400 = 0 := by rcases hc with ⟨h, _⟩ | h; exact absurd h c4; exact h
        omega
    · rw [hl]
      by_cases c4 : 4 ∣ k + 1970
      · by_cases c100 : 100 ∣ k + 1970
        · by_cases c400 : 400 ∣ k + 1970
          · exfalso; rw [h400] at c400; exact hc (Or.inr c400)
          · rw [if_pos c4, if_pos c100, if_neg c400]; omega
        · exfalso; rw [h4] at c4; rw [h100] at c100; exact hc (Or.inl ⟨c4, c100⟩)
      · have c100 : ¬ 100 ∣ k + 1970 := fun h => c4 (Nat.dvd_trans (by decide) h)
        have c400 : ¬ 400 ∣ k + 1970 := fun h => c4 (Nat.dvd_trans (by decide) h)
        rw [if_neg c4, if_neg c100, if_neg c400]; omega
theorem yearK_last : yearK 8030 = 2932897 := by
  have := yearK_is 8030
  simp only [Nat.reduceAdd, Nat.reduceDiv] at this
  omega
theorem yearK_mono : ∀ (j k : Nat), yearK k ≤ yearK (k + j)
  | 0, k => Nat.le_refl _
  | j + 1, k => by
    have := yearK_mono j k
    rw [show k + (j + 1) = (k + j) + 1 by omega]
    conv => rhs; unfold yearK
    omega
/-- How many days are ahead of a year. -/
def yearD (y : Nat) : Nat := yearK (y - 1970)
theorem yearD_next (y : Nat) (h : 1970 ≤ y) : yearD (y + 1) = yearD y + 365 + lpY y := by
  unfold yearD
  obtain ⟨k, rfl⟩ : ∃ k, y = k + 1970 := ⟨y - 1970, by omega⟩
  rw [show k + 1970 + 1 - 1970 = k + 1 by omega, show k + 1970 - 1970 = k by omega]
  rfl
theorem yearD_is (y : Nat) (h : 1970 ≤ y) : ((yearD y : Nat) : Int) = 365 * ((y : Int) - 1970) + ((y - 1) / 4 : Nat) - ((y - 1) / 100 : Nat) + ((y - 1) / 400 : Nat) - 477 := by
  unfold yearD
  rw [yearK_is, show y - 1970 + 1969 = y - 1 by omega]
  omega
theorem yearD_10000 : yearD 10000 = 2932897 := yearK_last
theorem yearD_le {y z : Nat} (h : 1970 ≤ y) (hz : y ≤ z) : yearD y ≤ yearD z := by
  unfold yearD
  obtain ⟨k, e⟩ : ∃ k, z - 1970 = (y - 1970) + k := ⟨z - y, by omega⟩
  rw [e]; exact yearK_mono k _
theorem aheadD_le {y m n : Nat} (h : 1 ≤ m) (hn : m ≤ n) : aheadD y m ≤ aheadD y n := by
  obtain ⟨k, rfl⟩ : ∃ k, n = m + k := ⟨n - m, by omega⟩
  exact aheadD_mono y k m h
/-- The number of a day. -/
def dayN (y m d : Nat) : Nat := yearD y + aheadD y m + (d - 1)
/-- A day that is one. -/
def OkD (y m d : Nat) : Prop := 1970 ≤ y ∧ y ≤ 9999 ∧ 1 ≤ m ∧ m ≤ 12 ∧ 1 ≤ d ∧ d ≤ monL y m
theorem dayN_month {y m d : Nat} (h : OkD y m d) : yearD y + aheadD y m ≤ dayN y m d ∧ dayN y m d < yearD y + aheadD y (m + 1) := by
  obtain ⟨h1, h2, h3, h4, h5, h6⟩ := h
  have := aheadD_next y m h3
  unfold dayN
  omega
theorem dayN_year {y m d : Nat} (h : OkD y m d) : yearD y ≤ dayN y m d ∧ dayN y m d < yearD (y + 1) := by
  have h' := h
  obtain ⟨h1, h2, h3, h4, h5, h6⟩ := h'
  have a := dayN_month h
  have b := aheadD_le (y := y) (show 1 ≤ m + 1 by omega) (show m + 1 ≤ 13 by omega)
  have c := (aheadD_is y).2.2.2.2.2.2.2.2.2.2.2.2
  have d := yearD_next y h1
  omega
theorem year_one {y z n : Nat} (hy : 1970 ≤ y) (hz : 1970 ≤ z) (h1 : yearD y ≤ n) (h2 : n < yearD (y + 1)) (h3 : yearD z ≤ n) (h4 : n < yearD (z + 1)) : y = z := by
  rcases Nat.lt_trichotomy y z with h | h | h
  · have := yearD_le (show 1970 ≤ y + 1 by omega) (show y + 1 ≤ z by omega); omega
  · exact h
  · have := yearD_le (show 1970 ≤ z + 1 by omega) (show z + 1 ≤ y by omega); omega
theorem month_one {y m k n : Nat} (hm : 1 ≤ m) (hk : 1 ≤ k) (h1 : aheadD y m ≤ n) (h2 : n < aheadD y (m + 1)) (h3 : aheadD y k ≤ n) (h4 : n < aheadD y (k + 1)) : m = k := by
  rcases Nat.lt_trichotomy m k with h | h | h
  · have := aheadD_le (y := y) (show 1 ≤ m + 1 by omega) (show m + 1 ≤ k by omega); omega
  · exact h
  · have := aheadD_le (y := y) (show 1 ≤ k + 1 by omega) (show k + 1 ≤ m by omega); omega
theorem dayN_inj {y m d y' m' d' : Nat} (h : OkD y m d) (h' : OkD y' m' d') (e : dayN y m d = dayN y' m' d') : y = y' ∧ m = m' ∧ d = d' := by
  have a := dayN_year h; have b := dayN_year h'
  rw [← e] at b
  have hy := year_one h.1 h'.1 a.1 a.2 b.1 b.2
  subst hy
  have p := dayN_month h; have q := dayN_month h'
  rw [← e] at q
  have hm := month_one (y := y) (n := dayN y m d - yearD y) h.2.2.1 h'.2.2.1 (by omega) (by omega) (by omega) (by omega)
  subst hm
  refine ⟨rfl, rfl, ?_⟩
  have := h.2.2.2.2.1; have := h'.2.2.2.2.1
  unfold dayN at e
  omega
theorem year_of (n : Nat) : ∀ k : Nat, n < yearK k → ∃ j, j < k ∧ yearK j ≤ n ∧ n < yearK (j + 1)
  | 0, h => absurd h (Nat.not_lt_zero _)
  | k + 1, h => by
    by_cases hk : n < yearK k
    · obtain ⟨j, h1, h2, h3⟩ := year_of n k hk
      exact ⟨j, by omega, h2, h3⟩
    · exact ⟨k, by omega, by omega, h⟩
theorem month_of (y n : Nat) : ∀ k : Nat, n < aheadD y (1 + k) → ∃ m, 1 ≤ m ∧ m < 1 + k ∧ aheadD y m ≤ n ∧ n < aheadD y (m + 1)
  | 0, h => by rw [Nat.add_zero, (aheadD_is y).1] at h; omega
  | k + 1, h => by
    by_cases hk : n < aheadD y (1 + k)
    · obtain ⟨m, h1, h2, h3, h4⟩ := month_of y n k hk
      exact ⟨m, h1, by omega, h3, h4⟩
    · exact ⟨1 + k, by omega, by omega, by omega, by rw [show 1 + k + 1 = 1 + (k + 1) by omega]; exact h⟩
theorem dayN_onto (n : Nat) (h : n < 2932897) : ∃ y m d, OkD y m d ∧ dayN y m d = n := by
  rw [← yearK_last] at h
  obtain ⟨j, hj, h3, h4⟩ := year_of n 8030 h
  clear h
  obtain ⟨y, hy⟩ : ∃ y, y = j + 1970 := ⟨_, rfl⟩
  have h1 : 1970 ≤ y := by omega
  have h2 : y ≤ 9999 := by omega
  have e : y - 1970 = j := by omega
  have e' : y + 1 - 1970 = j + 1 := Nat.sub_eq_of_eq_add (by omega)
  clear hy
  replace h3 : yearD y ≤ n := by unfold yearD; rw [e]; exact h3
  replace h4 : n < yearD (y + 1) := by unfold yearD; rw [e']; exact h4
  clear e e' hj
  have hn := yearD_next y h1
  have h13 := (aheadD_is y).2.2.2.2.2.2.2.2.2.2.2.2
  obtain ⟨m, m1, m2, m3, m4⟩ := month_of y (n - yearD y) 12 (by show _ < aheadD y 13; omega)
  have hm := aheadD_next y m m1
  refine ⟨y, m, n - yearD y - aheadD y m + 1, ⟨h1, by omega, m1, by omega, by omega, by omega⟩, ?_⟩
  unfold dayN
  omega
theorem yearD_top {y : Nat} (h : 1970 ≤ y) (h' : y ≤ 10000) : yearD y ≤ 2932897 := by
  rw [← yearK_last]
  unfold yearD
  obtain ⟨k, e⟩ : ∃ k, 8030 = (y - 1970) + k := ⟨10000 - y, by omega⟩
  rw [e]; exact yearK_mono k _
theorem dayN_lt {y m d : Nat} (h : OkD y m d) : dayN y m d < 2932897 := by
  have a := dayN_year h
  have b := h.1
  have c := h.2.1
  have t := yearD_top (y := y + 1) (by omega) (by omega)
  omega
end Go.Proofs.YtjoiedomdliadaaDoor
