/- Numbers, days and clocks as texts, as plain mathematics: how they are read and told, and that what is told is read as it was. No program stands in this text. -/
import Derived.Test.YtjoiedomdliadaaDoorDm
namespace Go.Proofs.YtjoiedomdliadaaDoor

abbrev Bt := List UInt8
/-! ### numbers -/
/-- A number without a bound. -/
def decU (acc : Nat) : Bt → Option Nat
  | [] => some acc
  | c :: r => if 48 ≤ c.toNat ∧ c.toNat ≤ 57 then decU (acc * 10 + (c.toNat - 48)) r else none
/-- A number up to a bound. -/
def decL (M acc : Nat) : Bt → Option Nat
  | [] => some acc
  | c :: r => if 48 ≤ c.toNat ∧ c.toNat ≤ 57 then (if M < acc * 10 + (c.toNat - 48) then none else decL M (acc * 10 + (c.toNat - 48)) r) else none
/-- What Num reads: one form, up to a bound. -/
def numU (M : Nat) (l : Bt) : Option Nat := if l = [] ∨ (1 < l.length ∧ l.head? = some 48) then none else decL M 0 l
theorem decU_ge : ∀ (l : Bt) (acc n : Nat), decU acc l = some n → acc ≤ n
  | [], acc, n, h => by simp [decU] at h; omega
  | c :: r, acc, n, h => by
    unfold decU at h
    split at h
    · have := decU_ge r _ n h; omega
    · cases h
theorem decL_U : ∀ (l : Bt) (M acc : Nat), acc ≤ M → decL M acc l = (decU acc l).filter (· ≤ M)
  | [], M, acc, h => by simp [decL, decU, h, Option.filter]
  | c :: r, M, acc, h => by
    unfold decL decU
    split
    · split
      · rename_i h2
        cases hw : decU (acc * 10 + (c.toNat - 48)) r with
        | none => rfl
        | some n => have := decU_ge r _ n hw; simp [Option.filter]; omega
      · exact decL_U r M _ (by omega)
    · rfl
theorem decU_big : ∀ (l : Bt) (acc n : Nat), 1 ≤ acc → decU acc l = some n → acc * 10 ^ l.length ≤ n
  | [], acc, n, _, h => by simp [decU] at h; simp; omega
  | c :: r, acc, n, ha, h => by
    unfold decU at h
    split at h
    · have := decU_big r _ n (by omega) h
      rw [List.length_cons, Nat.pow_succ]
      calc acc * (10 ^ r.length * 10) = (acc * 10) * 10 ^ r.length := by rw [Nat.mul_comm (10 ^ r.length) 10, ← Nat.mul_assoc]
        _ ≤ (acc * 10 + (c.toNat - 48)) * 10 ^ r.length := Nat.mul_le_mul_right _ (by omega)
        _ ≤ n := this
    · cases h
/-- What the library reads, as far as it is within 64 bits. -/
theorem lib_U : ∀ (l : Bt) (acc : Nat), acc ≤ 18446744073709551615 → (match Lib.parseUintM 18446744073709551615 acc l with | .ok u => some u | _ => none) = decL 18446744073709551615 acc l
  | [], acc, _ => rfl
  | c :: r, acc, h => by
    unfold Lib.parseUintM decL
    by_cases hc : 48 ≤ c.toNat ∧ c.toNat ≤ 57
    · rw [if_pos hc, if_pos hc]
      by_cases h1 : 1844674407370955162 ≤ acc
      · rw [if_pos h1, if_pos (by omega)]
      · rw [if_neg h1]
        by_cases h2 : 18446744073709551615 < acc * 10 + (c.toNat - 48)
        · rw [if_pos h2, if_pos h2]
        · rw [if_neg h2, if_neg h2]; exact lib_U r _ (by omega)
    · rw [if_neg hc, if_neg hc]
theorem numU_none {M : Nat} {l : Bt} (h : decL M 0 l = none) : numU M l = none := by unfold numU; split <;> first | rfl | exact h
/-- A text of more than twenty bytes, without a nought ahead, is above 64 bits. -/
theorem numU_long {M : Nat} {l : Bt} (hM : M < 18446744073709551616) (h : 20 < l.length) : numU M l = none := by
  unfold numU
  split
  · rfl
  · rename_i hc
    rw [decL_U l M 0 (by omega)]
    match l, h, hc with
    | c :: r, h, hc =>
      unfold decU
      by_cases hcd : 48 ≤ c.toNat ∧ c.toNat ≤ 57
      · rw [if_pos hcd]
        have hne : c.toNat ≠ 48 := by
          intro e
          apply hc
          right
          exact ⟨by omega, by simp; exact UInt8.toNat_inj.1 e⟩
        cases hw : decU (0 * 10 + (c.toNat - 48)) r with
        | none => rfl
        | some n =>
          have h1 := decU_big r _ n (by omega) hw
          have hp : 10 ^ 20 ≤ 10 ^ r.length := Nat.pow_le_pow_right (by decide) (by simp at h; omega)
          have h2 : 1 * 10 ^ r.length ≤ (0 * 10 + (c.toNat - 48)) * 10 ^ r.length := Nat.mul_le_mul_right _ (by omega)
          have h3 : 10 ^ 20 = 100000000000000000000 := by decide
          simp [Option.filter]; omega
      · rw [if_neg hcd]; rfl
theorem numU_ok {M : Nat} {l : Bt} {u : Nat} (hM : M < 18446744073709551616) (hn : ¬ (1 < l.length ∧ l.head? = some 48)) (h : Lib.parseUintB 64 l = .ok u) : numU M l = if u ≤ M then some u else none := by
  unfold Lib.parseUintB at h
  by_cases h0 : l = []
  · rw [if_pos h0] at h; cases h
  · rw [if_neg h0] at h
    have e := lib_U l 0 (by omega)
    rw [show (2 ^ 64 - 1 : Nat) = 18446744073709551615 by decide] at h
    rw [h] at e
    unfold numU
    rw [if_neg (by intro x; rcases x with x | x; exact h0 x; exact hn x)]
    rw [decL_U l _ 0 (by omega)] at e
    rw [decL_U l _ 0 (by omega)]
    cases hd : decU 0 l with
    | none => rw [hd] at e; cases e
    | some n =>
      rw [hd] at e
      simp only [Option.filter] at e ⊢
      by_cases hb : n ≤ 18446744073709551615
      · simp only [hb, decide_true, if_true] at e
        injection e with e; subst e
        by_cases h2 : u ≤ M <;> simp [h2]
      · simp [hb] at e
theorem numU_no {M : Nat} {l : Bt} (hM : M < 18446744073709551616) (hn : ¬ (1 < l.length ∧ l.head? = some 48)) (h : ∀ u, Lib.parseUintB 64 l ≠ .ok u) : numU M l = none := by
  by_cases h0 : l = []
  · unfold numU; rw [if_pos (Or.inl h0)]
  · have e := lib_U l 0 (by omega)
    unfold Lib.parseUintB at h
    rw [if_neg h0, show (2 ^ 64 - 1 : Nat) = 18446744073709551615 by decide] at h
    have e2 : decL 18446744073709551615 0 l = none := by
      rw [← e]
      split
      · rename_i u hu; exact absurd hu (h u)
      · rfl
    unfold numU
    rw [if_neg (by intro x; rcases x with x | x; exact h0 x; exact hn x)]
    rw [decL_U l _ 0 (by omega)] at e2
    rw [decL_U l _ 0 (by omega)]
    cases hd : decU 0 l with
    | none => rfl
    | some n =>
      rw [hd] at e2
      simp only [Option.filter] at e2 ⊢
      by_cases hb : n ≤ 18446744073709551615
      · simp [hb] at e2
      · simp; omega

/-! ### digits -/
def dC (d : Nat) : UInt8 := UInt8.ofNat (48 + d)
theorem dC_nat {d : Nat} (h : d < 10) : (dC d).toNat = 48 + d := by unfold dC; simp; omega
theorem dC_digit {d : Nat} (h : d < 10) : 48 ≤ (dC d).toNat ∧ (dC d).toNat ≤ 57 := by rw [dC_nat h]; omega
theorem digs_one {u : Nat} (h : u < 10) : Lib.decDigits u = [dC u] := Lib.decDigits_one h
theorem digs_more {u : Nat} (h : ¬ u < 10) : Lib.decDigits u = Lib.decDigits (u / 10) ++ [dC (u % 10)] := by
  conv => lhs; unfold Lib.decDigits
  rw [dif_neg h]; rfl
theorem digs_ne (u : Nat) : Lib.decDigits u ≠ [] := by
  by_cases h : u < 10
  · rw [digs_one h]; simp
  · rw [digs_more h]; simp
theorem decU_append : ∀ (l r : Bt) (acc n : Nat), decU acc l = some n → decU acc (l ++ r) = decU n r
  | [], r, acc, n, h => by simp [decU] at h; subst h; rfl
  | c :: l, r, acc, n, h => by
    rw [List.cons_append]
    unfold decU at h
    split at h
    · rename_i hc
      have e := decU_append l r _ n h
      rw [← e]
      conv => lhs; unfold decU
      rw [if_pos hc]
    · cases h
theorem decU_digs (u : Nat) : decU 0 (Lib.decDigits u) = some u := by
  induction u using Nat.strongRecOn with
  | ind u ih =>
    by_cases h : u < 10
    · rw [digs_one h]; unfold decU; rw [if_pos (dC_digit h), dC_nat h]; simp [decU]
    · rw [digs_more h, decU_append _ _ _ _ (ih (u / 10) (by omega))]
      have hm : u % 10 < 10 := by omega
      unfold decU; rw [if_pos (dC_digit hm), dC_nat hm]; simp [decU]; omega
theorem digs_head (u : Nat) (h : 0 < u) : (Lib.decDigits u).head? ≠ some 48 := by
  induction u using Nat.strongRecOn with
  | ind u ih =>
    by_cases h1 : u < 10
    · rw [digs_one h1]
      simp
      intro e
      have := dC_nat h1
      rw [e] at this
      simp at this; omega
    · rw [digs_more h1]
      have := ih (u / 10) (by omega) (by omega)
      rw [List.head?_append]
      cases hh : (Lib.decDigits (u / 10)).head? with
      | none => exact absurd (List.head?_eq_none_iff.1 hh) (digs_ne _)
      | some c => rw [hh] at this; simpa using this
theorem digs_lead (u : Nat) : ¬ (1 < (Lib.decDigits u).length ∧ (Lib.decDigits u).head? = some 48) := by
  rintro ⟨h1, h2⟩
  by_cases h : u = 0
  · subst h; rw [digs_one (by decide)] at h1; simp at h1
  · exact digs_head u (by omega) h2
/-- What is told is read, up to its bound. -/
theorem num_back (M u : Nat) : numU M (Lib.decDigits u) = if u ≤ M then some u else none := by
  unfold numU
  rw [if_neg (by intro x; rcases x with x | x; exact digs_ne u x; exact digs_lead u x), decL_U _ _ 0 (by omega), decU_digs]
  simp only [Option.filter]
  by_cases h : u ≤ M <;> simp [h]
theorem digs_len (u : Nat) (h : u < 18446744073709551616) : 1 ≤ (Lib.decDigits u).length ∧ (Lib.decDigits u).length ≤ 20 := by
  have h1 := List.length_pos_iff.2 (digs_ne u)
  refine ⟨h1, ?_⟩
  rcases Nat.lt_or_ge 20 (Lib.decDigits u).length with hl | hl
  · have := numU_long (M := 18446744073709551615) (by decide) hl
    rw [num_back, if_pos (by omega)] at this; cases this
  · exact hl
/-- Noughts ahead. -/
theorem num_zero (M : Nat) (l : Bt) (h : l ≠ []) : numU M (48 :: l) = none := by
  unfold numU
  rw [if_pos]
  right
  exact ⟨by have := List.length_pos_iff.2 h; simp; omega, rfl⟩
theorem num_sign (M : Nat) (c : UInt8) (l : Bt) (h : ¬ (48 ≤ c.toNat ∧ c.toNat ≤ 57)) : numU M (c :: l) = none := numU_none (by unfold decL; rw [if_neg h])
theorem num_empty (M : Nat) : numU M [] = none := by unfold numU; rw [if_pos (Or.inl rfl)]
theorem num_far (M : Nat) (l r : Bt) (hM : M < 18446744073709551616) (h : l ≠ []) (hr : r.length = 20) : numU M (l ++ r) = none :=
  numU_long hM (by have := List.length_pos_iff.2 h; simp; omega)

/-! ### pairs, days, clocks -/
def pairT (n : Nat) : Bt := [dC (n / 10), dC (n % 10)]
def yearT (y : Nat) : Bt := [dC (y / 1000), dC (y / 100 % 10), dC (y / 10 % 10), dC (y % 10)]
def dayT (y m d : Nat) : Bt := yearT y ++ 47 :: (pairT m ++ 47 :: pairT d)
def clockT (t : Nat) : Bt := pairT (t / 3600) ++ 58 :: (pairT (t % 3600 / 60) ++ 58 :: pairT (t % 60))
theorem digs_year {y : Nat} (h : 1000 ≤ y) (h' : y ≤ 9999) : Lib.decDigits y = yearT y := by
  rw [digs_more (by omega), digs_more (by omega), digs_more (by omega), digs_one (by omega)]
  unfold yearT
  simp only [List.cons_append, List.nil_append]
  rw [show y / 10 / 10 / 10 = y / 1000 by omega, show y / 10 / 10 % 10 = y / 100 % 10 by omega]
theorem digs_pair {n : Nat} (h : 10 ≤ n) (h' : n < 100) : Lib.decDigits n = pairT n := by
  rw [digs_more (by omega), digs_one (by omega)]; rfl
theorem pair_small {n : Nat} (h : n < 10) : pairT n = 48 :: Lib.decDigits n := by
  rw [digs_one h]; unfold pairT
  rw [show n / 10 = 0 by omega, show n % 10 = n by omega]; rfl
theorem dayT_len (y m d : Nat) : (dayT y m d).length = 10 := rfl
theorem clockT_len (t : Nat) : (clockT t).length = 8 := rfl

def isD (c : UInt8) : Bool := decide (48 ≤ c.toNat) && decide (c.toNat ≤ 57)
def vD (c : UInt8) : Nat := c.toNat - 48
theorem isD_iff (c : UInt8) : isD c = true ↔ 48 ≤ c.toNat ∧ c.toNat ≤ 57 := by simp [isD]
theorem isD_dC {d : Nat} (h : d < 10) : isD (dC d) = true := (isD_iff _).2 (dC_digit h)
theorem vD_dC {d : Nat} (h : d < 10) : vD (dC d) = d := by unfold vD; rw [dC_nat h]; omega
theorem vD_lt {c : UInt8} (h : isD c = true) : vD c < 10 := by have := (isD_iff c).1 h; unfold vD; omega
/-- A text held against a form: its numbers. -/
def formV : Bt → Bt → Nat → Nat → Nat → Nat → Option (Nat × Nat × Nat)
  | [], [], _, a, b, c => some (a, b, c)
  | f :: F, s :: S, k, a, b, c =>
    if f = 100 then (if isD s = true then formV F S k (if k = 0 then a * 10 + vD s else a) (if k = 1 then b * 10 + vD s else b) (if k = 2 then c * 10 + vD s else c) else none)
    else if f = s then formV F S (k + 1) a b c else none
  | _, _, _, _, _, _ => none
def dayF : Bt := [100, 100, 100, 100, 47, 100, 100, 47, 100, 100]
def clockF : Bt := [100, 100, 58, 100, 100, 58, 100, 100]
theorem formV_len : ∀ (F S : Bt) (k a b c : Nat), F.length ≠ S.length → formV F S k a b c = none
  | [], [], _, _, _, _, h => absurd rfl h
  | [], s :: S, _, _, _, _, _ => by unfold formV; rfl
  | f :: F, [], _, _, _, _, _ => by unfold formV; rfl
  | f :: F, s :: S, k, a, b, c, h => by
    have h' : F.length ≠ S.length := by simpa using h
    unfold formV
    split
    · split
      · exact formV_len F S _ _ _ _ h'
      · rfl
    · split
      · exact formV_len F S _ _ _ _ h'
      · rfl
def dayOk (y m d : Nat) : Bool := decide (1970 ≤ y) && decide (1 ≤ m) && decide (m ≤ 12) && decide (1 ≤ d) && decide (d ≤ monL y m)
def dayV (s : Bt) : Option Nat := match formV dayF s 0 0 0 0 with
  | some (y, m, d) => if dayOk y m d = true then some (dayN y m d) else none
  | none => none
def clockOk (h m s : Nat) : Bool := decide (h ≤ 23) && decide (m ≤ 59) && decide (s ≤ 59)
def clockV (s : Bt) : Option Nat := match formV clockF s 0 0 0 0 with
  | some (h, m, s) => if clockOk h m s = true then some (h * 3600 + m * 60 + s) else none
  | none => none
def dateV (a b : Bt) : Option Nat := match dayV a, clockV b with
  | some d, some t => some (d * 86400 + t)
  | _, _ => none
theorem form_day {s : Bt} {y m d : Nat} (h : formV dayF s 0 0 0 0 = some (y, m, d)) : ∃ a b c e f g i j, s = [a, b, c, e, 47, f, g, 47, i, j] ∧ isD a = true ∧ isD b = true ∧ isD c = true ∧ isD e = true ∧ isD f = true ∧ isD g = true ∧ isD i = true ∧ isD j = true ∧ y = ((vD a * 10 + vD b) * 10 + vD c) * 10 + vD e ∧ m = vD f * 10 + vD g ∧ d = vD i * 10 + vD j := by
  have hl : s.length = 10 := by
    by_cases hl : dayF.length = s.length
    · exact hl.symm
    · rw [formV_len _ _ _ _ _ _ hl] at h; cases h
  match s, hl with
  | [a, b, c, e, p, f, g, q, i, j], _ =>
    simp [dayF, formV] at h
    obtain ⟨h1, h2, h3, h4, h5, h6, h7, h8, h9, h10, h11, h12, h13⟩ := h
    subst h5 h8
    exact ⟨a, b, c, e, f, g, i, j, rfl, h1, h2, h3, h4, h6, h7, h9, h10, h11.symm, h12.symm, h13.symm⟩
theorem form_clock {s : Bt} {y m d : Nat} (h : formV clockF s 0 0 0 0 = some (y, m, d)) : ∃ a b f g i j, s = [a, b, 58, f, g, 58, i, j] ∧ isD a = true ∧ isD b = true ∧ isD f = true ∧ isD g = true ∧ isD i = true ∧ isD j = true ∧ y = vD a * 10 + vD b ∧ m = vD f * 10 + vD g ∧ d = vD i * 10 + vD j := by
  have hl : s.length = 8 := by
    by_cases hl : clockF.length = s.length
    · exact hl.symm
    · rw [formV_len _ _ _ _ _ _ hl] at h; cases h
  match s, hl with
  | [a, b, p, f, g, q, i, j], _ =>
    simp [clockF, formV] at h
    obtain ⟨h1, h2, h3, h4, h5, h6, h7, h8, h9, h10, h11⟩ := h
    subst h3 h6
    exact ⟨a, b, f, g, i, j, rfl, h1, h2, h4, h5, h7, h8, h9.symm, h10.symm, h11.symm⟩
theorem form_day_lt {s : Bt} {y m d : Nat} (h : formV dayF s 0 0 0 0 = some (y, m, d)) : y ≤ 9999 ∧ m ≤ 99 ∧ d ≤ 99 := by
  obtain ⟨a, b, c, e, f, g, i, j, _, h1, h2, h3, h4, h5, h6, h7, h8, rfl, rfl, rfl⟩ := form_day h
  have := vD_lt h1; have := vD_lt h2; have := vD_lt h3; have := vD_lt h4; have := vD_lt h5; have := vD_lt h6; have := vD_lt h7; have := vD_lt h8
  omega
theorem form_clock_lt {s : Bt} {y m d : Nat} (h : formV clockF s 0 0 0 0 = some (y, m, d)) : y ≤ 99 ∧ m ≤ 99 ∧ d ≤ 99 := by
  obtain ⟨a, b, f, g, i, j, _, h1, h2, h3, h4, h5, h6, rfl, rfl, rfl⟩ := form_clock h
  have := vD_lt h1; have := vD_lt h2; have := vD_lt h3; have := vD_lt h4; have := vD_lt h5; have := vD_lt h6
  omega
theorem day_back {y m d : Nat} (h : OkD y m d) : dayV (dayT y m d) = some (dayN y m d) := by
  obtain ⟨h1, h2, h3, h4, h5, h6⟩ := h
  have hl := (monL_pos y m).2
  have e : formV dayF (dayT y m d) 0 0 0 0 = some (y, m, d) := by
    simp only [dayF, dayT, yearT, pairT, formV, List.cons_append, List.nil_append, isD_dC (show y / 1000 < 10 by omega), isD_dC (show y / 100 % 10 < 10 by omega), isD_dC (show y / 10 % 10 < 10 by omega), isD_dC (show y % 10 < 10 by omega), isD_dC (show m / 10 < 10 by omega), isD_dC (show m % 10 < 10 by omega), isD_dC (show d / 10 < 10 by omega), isD_dC (show d % 10 < 10 by omega),
      vD_dC (show y / 1000 < 10 by omega), vD_dC (show y / 100 % 10 < 10 by omega), vD_dC (show y / 10 % 10 < 10 by omega), vD_dC (show y % 10 < 10 by omega), vD_dC (show m / 10 < 10 by omega), vD_dC (show m % 10 < 10 by omega), vD_dC (show d / 10 < 10 by omega), vD_dC (show d % 10 < 10 by omega)]
    simp
    omega
  unfold dayV
  rw [e]
  simp only
  rw [if_pos (by simp [dayOk]; omega)]
theorem clock_back {t : Nat} (h : t < 86400) : clockV (clockT t) = some t := by
  have e : formV clockF (clockT t) 0 0 0 0 = some (t / 3600, t % 3600 / 60, t % 60) := by
    simp only [clockF, clockT, pairT, formV, List.cons_append, List.nil_append, isD_dC (show t / 3600 / 10 < 10 by omega), isD_dC (show t / 3600 % 10 < 10 by omega), isD_dC (show t % 3600 / 60 / 10 < 10 by omega), isD_dC (show t % 3600 / 60 % 10 < 10 by omega), isD_dC (show t % 60 / 10 < 10 by omega), isD_dC (show t % 60 % 10 < 10 by omega),
      vD_dC (show t / 3600 / 10 < 10 by omega), vD_dC (show t / 3600 % 10 < 10 by omega), vD_dC (show t % 3600 / 60 / 10 < 10 by omega), vD_dC (show t % 3600 / 60 % 10 < 10 by omega), vD_dC (show t % 60 / 10 < 10 by omega), vD_dC (show t % 60 % 10 < 10 by omega)]
    simp
    omega
  unfold clockV
  rw [e]
  simp only
  rw [if_pos (by simp [clockOk]; omega)]
  congr 1
  omega
/-- The day of a second, as a text. -/
theorem day_of (n : Nat) (h : n < 2932897) : ∃ y m d, OkD y m d ∧ dayN y m d = n ∧ dayV (dayT y m d) = some n := by
  obtain ⟨y, m, d, ho, e⟩ := dayN_onto n h
  exact ⟨y, m, d, ho, e, e ▸ day_back ho⟩
end Go.Proofs.YtjoiedomdliadaaDoor
