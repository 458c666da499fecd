/- A hardware address with one sign turned: where the sign was a digit it is another address, where it was a colon it is none. No program stands in this text. -/
import Derived.Test.YtmnemjhkmllniaaDoorMm
namespace Go.Proofs.YtmnemjhkmllniaaDoor

/-- A text whose k-th sign is another. -/
def turnS (s : Bs) (k : Nat) (d : UInt8) : Bs := s.take k ++ [d] ++ s.drop (k + 1)
def digOk (c : UInt8) : Bool := match hexD c with
  | none => true
  | some x => match hexD (if c = 48 then 49 else 48) with
    | none => false
    | some y => y != x
theorem digOk_all : ∀ n, n < 256 → digOk (UInt8.ofNat n) = true := by decide +kernel
theorem dig_turn {c : UInt8} {x : Nat} (h : hexD c = some x) : ∃ y, hexD (if c = 48 then 49 else 48) = some y ∧ y ≠ x := by
  have := digOk_all c.toNat c.toNat_lt
  simp only [UInt8.ofNat_toNat, digOk, h] at this
  split at this
  · cases this
  · rename_i y hy
    exact ⟨y, hy, by simpa using this⟩
theorem turned17 {a b c d e f g h i j k l : UInt8} {xa xb xc xd xe xf xg xh xi xj xk xl : Nat} (ha : hexD a = some xa) (hb : hexD b = some xb) (hc : hexD c = some xc) (hd : hexD d = some xd) (he : hexD e = some xe) (hf : hexD f = some xf) (hg : hexD g = some xg) (hh : hexD h = some xh) (hi : hexD i = some xi) (hj : hexD j = some xj) (hk : hexD k = some xk) (hl : hexD l = some xl) (m q : Nat) (hq : q < 17)
    (hm : m = ((((((xa * 16 + xb) * 256 + (xc * 16 + xd)) * 256 + (xe * 16 + xf)) * 256 + (xg * 16 + xh)) * 256 + (xi * 16 + xj)) * 256 + (xk * 16 + xl))) (z : UInt8) (hz : (seventeen a b c d e f g h i j k l)[q]? = some z) :
    (z = 58 ∧ macV (turnS (seventeen a b c d e f g h i j k l) q (if z = 48 then 49 else 48)) = none) ∨ (z ≠ 58 ∧ ∃ r, macV (turnS (seventeen a b c d e f g h i j k l) q (if z = 48 then 49 else 48)) = some r ∧ r ≠ m) := by
  rcases (show q = 0 ∨ q = 1 ∨ q = 2 ∨ q = 3 ∨ q = 4 ∨ q = 5 ∨ q = 6 ∨ q = 7 ∨ q = 8 ∨ q = 9 ∨ q = 10 ∨ q = 11 ∨ q = 12 ∨ q = 13 ∨ q = 14 ∨ q = 15 ∨ q = 16 by omega) with rfl | rfl | rfl | rfl | rfl | rfl | rfl | rfl | rfl | rfl | rfl | rfl | rfl | rfl | rfl | rfl | rfl
  · obtain rfl : a = z := Option.some.inj hz
    obtain ⟨y, hy, hne⟩ := dig_turn ha
    exact Or.inr ⟨hexD_ne ha, _, mac17 hy hb hc hd he hf hg hh hi hj hk hl, by omega⟩
  · obtain rfl : b = z := Option.some.inj hz
    obtain ⟨y, hy, hne⟩ := dig_turn hb
    exact Or.inr ⟨hexD_ne hb, _, mac17 ha hy hc hd he hf hg hh hi hj hk hl, by omega⟩
  · obtain rfl : 58 = z := Option.some.inj hz
    left
    refine ⟨rfl, ?_⟩
    rw [if_neg (by decide)]
    show macV [a, b, 48, c, d, 58, e, f, 58, g, h, 58, i, j, 58, k, l] = none
    rw [← rmac_is]
    unfold rmac
    rw [if_neg]
    simp [splitV, splitA, hexD_ne ha, hexD_ne hb, hexD_ne hc, hexD_ne hd, hexD_ne he, hexD_ne hf, hexD_ne hg, hexD_ne hh, hexD_ne hi, hexD_ne hj, hexD_ne hk, hexD_ne hl]
  · obtain rfl : c = z := Option.some.inj hz
    obtain ⟨y, hy, hne⟩ := dig_turn hc
    exact Or.inr ⟨hexD_ne hc, _, mac17 ha hb hy hd he hf hg hh hi hj hk hl, by omega⟩
  · obtain rfl : d = z := Option.some.inj hz
    obtain ⟨y, hy, hne⟩ := dig_turn hd
    exact Or.inr ⟨hexD_ne hd, _, mac17 ha hb hc hy he hf hg hh hi hj hk hl, by omega⟩
  · obtain rfl : 58 = z := Option.some.inj hz
    left
    refine ⟨rfl, ?_⟩
    rw [if_neg (by decide)]
    show macV [a, b, 58, c, d, 48, e, f, 58, g, h, 58, i, j, 58, k, l] = none
    rw [← rmac_is]
    unfold rmac
    rw [if_neg]
    simp [splitV, splitA, hexD_ne ha, hexD_ne hb, hexD_ne hc, hexD_ne hd, hexD_ne he, hexD_ne hf, hexD_ne hg, hexD_ne hh, hexD_ne hi, hexD_ne hj, hexD_ne hk, hexD_ne hl]
  · obtain rfl : e = z := Option.some.inj hz
    obtain ⟨y, hy, hne⟩ := dig_turn he
    exact Or.inr ⟨hexD_ne he, _, mac17 ha hb hc hd hy hf hg hh hi hj hk hl, by omega⟩
  · obtain rfl : f = z := Option.some.inj hz
    obtain ⟨y, hy, hne⟩ := dig_turn hf
    exact Or.inr ⟨hexD_ne hf, _, mac17 ha hb hc hd he hy hg hh hi hj hk hl, by omega⟩
  · obtain rfl : 58 = z := Option.some.inj hz
    left
    refine ⟨rfl, ?_⟩
    rw [if_neg (by decide)]
    show macV [a, b, 58, c, d, 58, e, f, 48, g, h, 58, i, j, 58, k, l] = none
    rw [← rmac_is]
    unfold rmac
    rw [if_neg]
    simp [splitV, splitA, hexD_ne ha, hexD_ne hb, hexD_ne hc, hexD_ne hd, hexD_ne he, hexD_ne hf, hexD_ne hg, hexD_ne hh, hexD_ne hi, hexD_ne hj, hexD_ne hk, hexD_ne hl]
  · obtain rfl : g = z := Option.some.inj hz
    obtain ⟨y, hy, hne⟩ := dig_turn hg
    exact Or.inr ⟨hexD_ne hg, _, mac17 ha hb hc hd he hf hy hh hi hj hk hl, by omega⟩
  · obtain rfl : h = z := Option.some.inj hz
    obtain ⟨y, hy, hne⟩ := dig_turn hh
    exact Or.inr ⟨hexD_ne hh, _, mac17 ha hb hc hd he hf hg hy hi hj hk hl, by omega⟩
  · obtain rfl : 58 = z := Option.some.inj hz
    left
    refine ⟨rfl, ?_⟩
    rw [if_neg (by decide)]
    show macV [a, b, 58, c, d, 58, e, f, 58, g, h, 48, i, j, 58, k, l] = none
    rw [← rmac_is]
    unfold rmac
    rw [if_neg]
    simp [splitV, splitA, hexD_ne ha, hexD_ne hb, hexD_ne hc, hexD_ne hd, hexD_ne he, hexD_ne hf, hexD_ne hg, hexD_ne hh, hexD_ne hi, hexD_ne hj, hexD_ne hk, hexD_ne hl]
  · obtain rfl : i = z := Option.some.inj hz
    obtain ⟨y, hy, hne⟩ := dig_turn hi
    exact Or.inr ⟨hexD_ne hi, _, mac17 ha hb hc hd he hf hg hh hy hj hk hl, by omega⟩
  · obtain rfl : j = z := Option.some.inj hz
    obtain ⟨y, hy, hne⟩ := dig_turn hj
    exact Or.inr ⟨hexD_ne hj, _, mac17 ha hb hc hd he hf hg hh hi hy hk hl, by omega⟩
  · obtain rfl : 58 = z := Option.some.inj hz
    left
    refine ⟨rfl, ?_⟩
    rw [if_neg (by decide)]
    show macV [a, b, 58, c, d, 58, e, f, 58, g, h, 58, i, j, 48, k, l] = none
    rw [← rmac_is]
    unfold rmac
    rw [if_neg]
    simp [splitV, splitA, hexD_ne ha, hexD_ne hb, hexD_ne hc, hexD_ne hd, hexD_ne he, hexD_ne hf, hexD_ne hg, hexD_ne hh, hexD_ne hi, hexD_ne hj, hexD_ne hk, hexD_ne hl]
  · obtain rfl : k = z := Option.some.inj hz
    obtain ⟨y, hy, hne⟩ := dig_turn hk
    exact Or.inr ⟨hexD_ne hk, _, mac17 ha hb hc hd he hf hg hh hi hj hy hl, by omega⟩
  · obtain rfl : l = z := Option.some.inj hz
    obtain ⟨y, hy, hne⟩ := dig_turn hl
    exact Or.inr ⟨hexD_ne hl, _, mac17 ha hb hc hd he hf hg hh hi hj hk hy, by omega⟩
theorem turned (m q : Nat) (h : m < 281474976710656) (hq : q < 17) (z : UInt8) (hz : (tellM m)[q]? = some z) :
    (z = 58 ∧ macV (turnS (tellM m) q (if z = 48 then 49 else 48)) = none) ∨ (z ≠ 58 ∧ ∃ r, macV (turnS (tellM m) q (if z = 48 then 49 else 48)) = some r ∧ r ≠ m) := by
  have hb := mac_back m h
  rw [tellM_17] at hb hz ⊢
  rw [mac17 (dg_hi m 0) (dg_lo m 0) (dg_hi m 1) (dg_lo m 1) (dg_hi m 2) (dg_lo m 2) (dg_hi m 3) (dg_lo m 3) (dg_hi m 4) (dg_lo m 4) (dg_hi m 5) (dg_lo m 5)] at hb
  exact turned17 (dg_hi m 0) (dg_lo m 0) (dg_hi m 1) (dg_lo m 1) (dg_hi m 2) (dg_lo m 2) (dg_hi m 3) (dg_lo m 3) (dg_hi m 4) (dg_lo m 4) (dg_hi m 5) (dg_lo m 5) m q hq (Option.some.inj hb).symm z hz
end Go.Proofs.YtmnemjhkmllniaaDoor
