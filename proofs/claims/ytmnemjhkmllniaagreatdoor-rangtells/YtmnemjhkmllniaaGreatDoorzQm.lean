/- Plain mathematics of numbers of 128 bits, as pairs of halves: no program is named here. -/
import Derived.WalkKit
import Derived.Lib.TrailingZeros
namespace Go.Proofs.YtmnemjhkmllniaaGreatDoor
open Go.RowKit

def hiQ (x : Nat) : Int := ((x / 18446744073709551616 : Nat) : Int)
def loQ (x : Nat) : Int := ((x % 18446744073709551616 : Nat) : Int)
def mkQ (h l : Int) : Nat := h.toNat * 18446744073709551616 + l.toNat

theorem mkQ_hl (x : Nat) : mkQ (hiQ x) (loQ x) = x := by unfold mkQ hiQ loQ; omega
theorem hiQ_mk (h l : Int) (h0 : 0 ≤ h) (l0 : 0 ≤ l) (l1 : l < 18446744073709551616) : hiQ (mkQ h l) = h := by unfold mkQ hiQ; omega
theorem loQ_mk (h l : Int) (l0 : 0 ≤ l) (l1 : l < 18446744073709551616) : loQ (mkQ h l) = l := by unfold mkQ loQ; omega
theorem mkQ_lt (h l : Int) (h1 : h < 18446744073709551616) (l1 : l < 18446744073709551616) : mkQ h l < 340282366920938463463374607431768211456 := by unfold mkQ; omega
theorem hiQ_nn (x : Nat) : 0 ≤ hiQ x := by unfold hiQ; omega
theorem loQ_nn (x : Nat) : 0 ≤ loQ x := by unfold loQ; omega
theorem loQ_lt (x : Nat) : loQ x < 18446744073709551616 := by unfold loQ; omega
theorem hiQ_lt (x : Nat) (h : x < 340282366920938463463374607431768211456) : hiQ x < 18446744073709551616 := by unfold hiQ; omega
theorem q_eq (x : Nat) : hiQ x * 18446744073709551616 + loQ x = (x : Int) := by unfold hiQ loQ; omega
theorem q_inj {x y : Nat} (h : hiQ x = hiQ y) (l : loQ x = loQ y) : x = y := by have := q_eq x; have := q_eq y; rw [h, l] at *; omega

/-- All 128 bits turned. -/
def notQ (x : Nat) : Nat := 340282366920938463463374607431768211455 - x
theorem half_not (x : Nat) (h : x < 340282366920938463463374607431768211456) : hiQ (notQ x) = 18446744073709551615 - hiQ x ∧ loQ (notQ x) = 18446744073709551615 - loQ x := by
  unfold hiQ loQ notQ; omega
theorem notQ_lt (x : Nat) : notQ x < 340282366920938463463374607431768211456 := by unfold notQ; omega
theorem half_add (x y : Nat) : hiQ (x + y) = hiQ x + hiQ y + (loQ x + loQ y) / 18446744073709551616 ∧ loQ (x + y) = (loQ x + loQ y) % 18446744073709551616 := by
  unfold hiQ loQ; omega
theorem half_sub (x y : Nat) (h : y ≤ x) : hiQ (x - y) = hiQ x - hiQ y - (if loQ x < loQ y then 1 else 0) ∧ loQ (x - y) = (loQ x - loQ y) % 18446744073709551616 := by
  unfold hiQ loQ; split <;> omega
theorem nat_xor_max (a : Nat) (h : a < 18446744073709551616) : 18446744073709551615 ^^^ a = 18446744073709551615 - a := by
  have e1 : (18446744073709551615 : Nat) = 2 ^ 64 - 1 := by decide
  have e2 : (18446744073709551615 : Nat) - a = 2 ^ 64 - (a + 1) := by omega
  have h' : a < 2 ^ 64 := h
  apply Nat.eq_of_testBit_eq
  intro i
  rw [e2, Nat.testBit_two_pow_sub_succ h', Nat.testBit_xor, e1, Nat.testBit_two_pow_sub_one]
  by_cases hi : i < 64
  · simp [hi]
  · have : a.testBit i = false := Nat.testBit_lt_two_pow (Nat.lt_of_lt_of_le h' (Nat.pow_le_pow_right (by decide) (by omega)))
    simp [hi, this]
theorem u64_not (a : Int) (h0 : 0 ≤ a) (h1 : a < 18446744073709551616) : bits .xor .u64 IntKind.u64.max a = 18446744073709551615 - a := by
  rw [show IntKind.u64.max = 18446744073709551615 from rfl, u64_xor _ _ (by decide) (by decide) h0 h1]
  have := nat_xor_max a.toNat (by omega)
  rw [show (18446744073709551615 : Int).toNat = 18446744073709551615 from rfl, this]
  omega
theorem half_and (x y : Nat) : hiQ (x &&& y) = (((hiQ x).toNat &&& (hiQ y).toNat : Nat) : Int) ∧ loQ (x &&& y) = (((loQ x).toNat &&& (loQ y).toNat : Nat) : Int) := by
  unfold hiQ loQ
  simp only [Int.toNat_natCast]
  have e : (18446744073709551616 : Nat) = 2 ^ 64 := by decide
  rw [e, Nat.and_div_two_pow, Nat.and_mod_two_pow]
  exact ⟨rfl, rfl⟩
theorem half_or (x y : Nat) : hiQ (x ||| y) = (((hiQ x).toNat ||| (hiQ y).toNat : Nat) : Int) ∧ loQ (x ||| y) = (((loQ x).toNat ||| (loQ y).toNat : Nat) : Int) := by
  unfold hiQ loQ
  simp only [Int.toNat_natCast]
  have e : (18446744073709551616 : Nat) = 2 ^ 64 := by decide
  rw [e, Nat.or_div_two_pow, Nat.or_mod_two_pow]
  exact ⟨rfl, rfl⟩


/-- The lowest bit that is set, of a number that is 2^k times an odd one. -/
theorem ctzFrom_of : ∀ (k f m : Nat), k < f → Lib.ctzFrom f (2 ^ k * (2 * m + 1)) = k
  | 0, 0, _, h => by omega
  | 0, f + 1, m, _ => by simp [Lib.ctzFrom]
  | k + 1, 0, _, h => by omega
  | k + 1, f + 1, m, h => by
    have e : 2 ^ (k + 1) * (2 * m + 1) = 2 * (2 ^ k * (2 * m + 1)) := by rw [Nat.pow_succ, Nat.mul_comm (2 ^ k) 2, Nat.mul_assoc]
    rw [e]
    unfold Lib.ctzFrom
    rw [if_neg (by omega), Nat.mul_div_cancel_left _ (by decide), ctzFrom_of k f m (by omega)]
    omega
theorem ctz_of (k n m : Nat) (h : k < n) : Lib.ctz n (2 ^ k * (2 * m + 1)) = k := by
  unfold Lib.ctz
  have : 0 < 2 ^ k * (2 * m + 1) := Nat.mul_pos (Nat.pow_pos (by decide)) (by omega)
  rw [if_neg (by omega), ctzFrom_of k n m h]
theorem ctz_odd (n x : Nat) (h0 : x ≠ 0) (h : x < 2 ^ n) : ∃ m, x = 2 ^ Lib.ctz n x * (2 * m + 1) ∧ Lib.ctz n x < n := by
  obtain ⟨m, h1, h2⟩ := Lib.ctzFrom_spec n x (by omega) h
  have e : Lib.ctz n x = Lib.ctzFrom n x := by simp [Lib.ctz, h0]
  rw [e]; exact ⟨m, h1, h2⟩
def lowQ (x : Nat) : Nat := Lib.ctz 128 x
theorem lowQ_zero : lowQ 0 = 128 := rfl
theorem lowQ_of (k m : Nat) (h : k < 128) : lowQ (2 ^ k * (2 * m + 1)) = k := ctz_of k 128 m h
theorem lowQ_odd (x : Nat) (h0 : x ≠ 0) (h : x < 340282366920938463463374607431768211456) : ∃ m, x = 2 ^ lowQ x * (2 * m + 1) ∧ lowQ x < 128 := ctz_odd 128 x h0 h
theorem pow64 : (2 : Nat) ^ 64 = 18446744073709551616 := by decide
theorem pow128 : (2 : Nat) ^ 128 = 340282366920938463463374607431768211456 := by decide
theorem lowQ_lo (x : Nat) (h : x % 18446744073709551616 ≠ 0) : lowQ x = Lib.ctz 64 (x % 18446744073709551616) := by
  obtain ⟨m, h1, h2⟩ := ctz_odd 64 (x % 18446744073709551616) h (by rw [pow64]; omega)
  generalize Lib.ctz 64 (x % 18446744073709551616) = k at *
  obtain ⟨d, hd⟩ : ∃ d, 64 = k + (d + 1) := ⟨63 - k, by omega⟩
  have e : x = 2 ^ k * (2 * (x / 18446744073709551616 * 2 ^ d + m) + 1) := by
    have := Nat.div_add_mod x 18446744073709551616
    have p : (18446744073709551616 : Nat) = 2 ^ k * (2 * 2 ^ d) := by rw [← pow64, hd, Nat.pow_add, Nat.pow_succ]; congr 1; omega
    calc x = 18446744073709551616 * (x / 18446744073709551616) + x % 18446744073709551616 := this.symm
      _ = 2 ^ k * (2 * 2 ^ d) * (x / 18446744073709551616) + 2 ^ k * (2 * m + 1) := by rw [← h1, ← p]
      _ = _ := by rw [Nat.mul_assoc, ← Nat.mul_add]; congr 1; rw [Nat.mul_add 2, Nat.mul_assoc 2, Nat.mul_comm (2 ^ d)]; omega
  rw [e]; exact lowQ_of k _ (by omega)
theorem lowQ_hi (x : Nat) (h : x % 18446744073709551616 = 0) (hx : x < 340282366920938463463374607431768211456) : lowQ x = 64 + Lib.ctz 64 (x / 18446744073709551616) := by
  by_cases h0 : x = 0
  · subst h0; rfl
  · obtain ⟨m, h1, h2⟩ := ctz_odd 64 (x / 18446744073709551616) (by omega) (by rw [pow64]; omega)
    generalize Lib.ctz 64 (x / 18446744073709551616) = k at *
    have e : x = 2 ^ (64 + k) * (2 * m + 1) := by
      rw [Nat.pow_add, Nat.mul_assoc, ← h1, pow64]; omega
    rw [e]; exact lowQ_of _ _ (by omega)

/-- The n highest of 128 bits. -/
def maskQ (n : Nat) : Nat := 340282366920938463463374607431768211456 - 2 ^ (128 - n)
theorem maskQ_lt (n : Nat) : maskQ n < 340282366920938463463374607431768211456 := by
  have : 0 < 2 ^ (128 - n) := Nat.pow_pos (by decide)
  unfold maskQ; omega
theorem half_mask_lo : ∀ n, n ≤ 64 → hiQ (maskQ n) = 18446744073709551615 - 18446744073709551615 / 2 ^ n ∧ loQ (maskQ n) = 0 := by decide +kernel
theorem half_mask_hi' : ∀ k, k ≤ 64 → hiQ (maskQ (64 + k)) = 18446744073709551615 ∧ loQ (maskQ (64 + k)) = 18446744073709551615 - 18446744073709551615 / 2 ^ k := by decide +kernel
theorem half_bit_lo : ∀ n, n < 64 → hiQ (2 ^ n) = 0 ∧ loQ (2 ^ n) = IntKind.u64.wrap (2 ^ n) := by decide +kernel
theorem half_bit_hi' : ∀ k, k < 64 → hiQ (2 ^ (64 + k)) = IntKind.u64.wrap (2 ^ k) ∧ loQ (2 ^ (64 + k)) = 0 := by decide +kernel
theorem ones_shr (n : Nat) : (0 : Int) ≤ 18446744073709551615 / 2 ^ n ∧ (18446744073709551615 : Int) / 2 ^ n < 18446744073709551616 := by
  have h : (0 : Int) < 2 ^ n := Int.pow_pos (by decide)
  refine ⟨Int.ediv_nonneg (by decide) (Int.le_of_lt h), ?_⟩
  have : (18446744073709551615 : Int) / 2 ^ n ≤ 18446744073709551615 := Int.ediv_le_self _ (by decide)
  omega
/-- Mask's own number of bits: held to 0 to 128. -/
def heldN (n : Int) : Nat := (min (max n 0) 128).toNat

/-- The sum, 0 where it would be 2^128 or more; whether it is. -/
def addR (x y : Nat) : Nat := if x + y < 340282366920938463463374607431768211456 then x + y else 0
def addB (x y : Nat) : Bool := decide (x + y < 340282366920938463463374607431768211456)
def subR (x y : Nat) : Nat := x - y
def subB (x y : Nat) : Bool := decide (y ≤ x)
def ltB (x y : Nat) : Bool := decide (x < y)
theorem hiQ_zero : hiQ 0 = 0 := rfl
theorem loQ_zero : loQ 0 = 0 := rfl
theorem addR_lt (x y : Nat) : addR x y < 340282366920938463463374607431768211456 := by unfold addR; split <;> omega
theorem subR_lt (x y : Nat) (h : x < 340282366920938463463374607431768211456) : subR x y < 340282366920938463463374607431768211456 := by unfold subR; omega
theorem and_lt (x y : Nat) (h : x < 340282366920938463463374607431768211456) : x &&& y < 340282366920938463463374607431768211456 := Nat.lt_of_le_of_lt Nat.and_le_left h
theorem or_lt (x y : Nat) (h : x < 340282366920938463463374607431768211456) (h' : y < 340282366920938463463374607431768211456) : x ||| y < 340282366920938463463374607431768211456 := by
  rw [← pow128] at *; exact Nat.or_lt_two_pow h h'
theorem bit_lt (n : Nat) (h : n < 128) : 2 ^ n < 340282366920938463463374607431768211456 := by
  rw [← pow128]; exact Nat.pow_lt_pow_right (by decide) h
theorem and_notQ (x : Nat) (h : x < 340282366920938463463374607431768211456) : x &&& notQ x = 0 := by
  have e : notQ x = 2 ^ 128 - (x + 1) := by unfold notQ; rw [pow128]; omega
  rw [← pow128] at h
  rw [e]
  apply Nat.eq_of_testBit_eq
  intro i
  rw [Nat.testBit_and, Nat.testBit_two_pow_sub_succ h]
  cases x.testBit i <;> simp
theorem notQ_notQ (x : Nat) (h : x < 340282366920938463463374607431768211456) : notQ (notQ x) = x := by unfold notQ; omega
theorem or_and_self (x y : Nat) : (x &&& y) ||| x = x := by
  apply Nat.eq_of_testBit_eq; intro i; rw [Nat.testBit_or, Nat.testBit_and]; cases x.testBit i <;> simp
/-- Each pair of halves is a number. -/
theorem q_of (h l : Int) (h0 : 0 ≤ h) (h1 : h ≤ 18446744073709551615) (l0 : 0 ≤ l) (l1 : l ≤ 18446744073709551615) : ∃ x, x < 340282366920938463463374607431768211456 ∧ h = hiQ x ∧ l = loQ x :=
  ⟨mkQ h l, mkQ_lt h l (by omega) (by omega), (hiQ_mk h l h0 l0 (by omega)).symm, (loQ_mk h l l0 (by omega)).symm⟩

theorem mask_bit_in : ∀ j, j < 128 → 2 ^ (127 - j) &&& maskQ (j + 1) = 2 ^ (127 - j) ∧ 2 ^ (127 - j) &&& maskQ j = 0 := by decide +kernel
theorem lowQ_bit (j : Nat) (h : j < 128) : lowQ (2 ^ j) = j := by
  have := lowQ_of j 0 h
  simpa using this
theorem q_ne {x y : Nat} (h : x ≠ y) : ¬ (hiQ x = hiQ y ∧ loQ x = loQ y) := fun e => h (q_inj e.1 e.2)

theorem q_if_ne {x y : Nat} (h : x ≠ y) (α : Type) (A B : α) : (if hiQ x = hiQ y then (if loQ x = loQ y then A else B) else B) = B := by
  by_cases h1 : hiQ x = hiQ y
  · rw [if_pos h1, if_neg (fun h2 => h (q_inj h1 h2))]
  · rw [if_neg h1]

theorem i64_and255 (n : Int) : bits .and .i64 n 255 = n % 256 := by
  have h255 : (BitVec.ofInt 64 255).toNat = 2 ^ 8 - 1 := by decide
  have h : (BitVec.ofInt 64 n &&& BitVec.ofInt 64 255).toNat = (n % ((2 ^ 64 : Nat) : Int)).toNat % 2 ^ 8 := by
    rw [BitVec.toNat_and, BitVec.toNat_ofInt, h255, Nat.and_two_pow_sub_one_eq_mod]
  show IntKind.i64.wrap ((BitVec.ofInt 64 n &&& BitVec.ofInt 64 255).toNat : Nat) = n % 256
  rw [h, IntKind.wrap_i64]
  omega
/-- 2 to the j, 0 beyond. -/
def bitV (j : Nat) : Nat := if j < 128 then 2 ^ j else 0
theorem bitV_lt (j : Nat) : bitV j < 340282366920938463463374607431768211456 := by
  unfold bitV; split
  · rename_i h; exact bit_lt j h
  · decide

end Go.Proofs.YtmnemjhkmllniaaGreatDoor
