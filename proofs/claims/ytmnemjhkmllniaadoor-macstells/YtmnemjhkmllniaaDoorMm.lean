/- Hardware addresses and names as plain mathematics: how they are read and told, that what is told is read as it was, that the second writing's reading is the same. No program stands in this text. -/
import Derived.Test.YtmnemjhkmllniaaDoorBm
namespace Go.Proofs.YtmnemjhkmllniaaDoor


def pairV (l : Bs) : Option Nat := if l.length = 2 then hexM 0 l else none
def mac6 : Nat → Nat → Bs → Option Nat
  | 0, acc, _ => some acc
  | k + 1, acc, s => match pairV (Lib.cut s [58]).1 with
    | none => none
    | some n => if (Lib.cut s [58]).2.2 != decide (0 < k) then none else mac6 k (acc * 256 + n) (Lib.cut s [58]).2.1
/-- The hardware address that a text is. -/
def macV (s : Bs) : Option Nat := mac6 6 0 s
theorem pairV_lt {l : Bs} {n : Nat} (h : pairV l = some n) : n < 256 := by
  unfold pairV at h
  split at h
  · rename_i hl
    have := hexM_lt l 0 n h
    rw [hl] at this
    omega
  · cases h
theorem mac6_done {acc : Nat} {s : Bs} : mac6 0 acc s = some acc := rfl
theorem mac6_none {k acc : Nat} {s : Bs} (h : pairV (Lib.cut s [58]).1 = none) : mac6 (k + 1) acc s = none := by unfold mac6; rw [h]
theorem mac6_more {k acc n : Nat} {s : Bs} (h : pairV (Lib.cut s [58]).1 = some n) (hm : (Lib.cut s [58]).2.2 ≠ decide (0 < k)) : mac6 (k + 1) acc s = none := by
  unfold mac6; rw [h]; simp [bne, hm]
theorem mac6_step {k acc n : Nat} {s : Bs} (h : pairV (Lib.cut s [58]).1 = some n) (hm : (Lib.cut s [58]).2.2 = decide (0 < k)) : mac6 (k + 1) acc s = mac6 k (acc * 256 + n) (Lib.cut s [58]).2.1 := by
  conv => lhs; unfold mac6
  rw [h]; simp [hm]
theorem mac6_lt : ∀ (k acc : Nat) (s : Bs) (n : Nat), mac6 k acc s = some n → n < (acc + 1) * 256 ^ k
  | 0, acc, s, n, h => by simp [mac6] at h; simp; omega
  | k + 1, acc, s, n, h => by
    unfold mac6 at h
    cases hd : pairV (Lib.cut s [58]).1 with
    | none => rw [hd] at h; cases h
    | some d =>
      rw [hd] at h
      simp only at h
      split at h
      · cases h
      · have := mac6_lt k _ _ n h
        have hl := pairV_lt hd
        rw [Nat.pow_succ]
        calc n < (acc * 256 + d + 1) * 256 ^ k := this
          _ ≤ ((acc + 1) * 256) * 256 ^ k := Nat.mul_le_mul_right _ (by omega)
          _ = (acc + 1) * (256 ^ k * 256) := by rw [Nat.mul_assoc, Nat.mul_comm 256]
theorem macV_lt {s : Bs} {n : Nat} (h : macV s = some n) : n < 281474976710656 := by have := mac6_lt 6 0 s n h; omega
/-- The second writing's reading: what stands between the colons. -/
def macF : Nat → List Bs → Option Nat
  | acc, [] => some acc
  | acc, p :: r => match pairV p with
    | none => none
    | some n => macF (acc * 256 + n) r
def rmac (s : Bs) : Option Nat := if (splitV 58 s).length = 6 then macF 0 (splitV 58 s) else none
theorem mac6_split : ∀ (k acc : Nat) (s : Bs), mac6 (k + 1) acc s = if (splitV 58 s).length = k + 1 then macF acc (splitV 58 s) else none
  | 0, acc, s => by
    rw [splitV_cut]
    unfold mac6
    cases hn : pairV (Lib.cut s [58]).1 with
    | none => simp [macF, hn]
    | some n =>
      cases hf : (Lib.cut s [58]).2.2
      · simp [macF, hn, mac6]
      · have := splitV_ne 58 (Lib.cut s [58]).2.1
        have hl := List.length_pos_iff.2 this
        rw [if_neg (by simp only [if_true, List.length_cons]; omega)]
        simp
  | k + 1, acc, s => by
    rw [splitV_cut]
    have ih := fun n => mac6_split k (acc * 256 + n) (Lib.cut s [58]).2.1
    unfold mac6
    cases hn : pairV (Lib.cut s [58]).1 with
    | none => simp [macF, hn]
    | some n =>
      cases hf : (Lib.cut s [58]).2.2
      · simp
      · simp only [Nat.zero_lt_succ, decide_true, bne_self_eq_false, Bool.false_eq_true, if_false, if_true, List.length_cons]
        rw [ih n]
        by_cases hl : (splitV 58 (Lib.cut s [58]).2.1).length = k + 1
        · rw [if_pos hl, if_pos (by omega)]; simp [macF, hn]
        · rw [if_neg hl, if_neg (by omega)]
theorem rmac_is (s : Bs) : rmac s = macV s := by
  unfold rmac macV; rw [mac6_split 5 0 s]
theorem macF_lt : ∀ (ps : List Bs) (acc n : Nat), macF acc ps = some n → n < (acc + 1) * 256 ^ ps.length
  | [], acc, n, h => by simp [macF] at h; simp; omega
  | p :: r, acc, n, h => by
    unfold macF at h
    cases hn : pairV p with
    | none => rw [hn] at h; cases h
    | some d =>
      rw [hn] at h
      have := macF_lt r _ n h
      have hd : d < 256 := pairV_lt hn
      rw [List.length_cons, Nat.pow_succ]
      calc n < (acc * 256 + d + 1) * 256 ^ r.length := this
        _ ≤ ((acc + 1) * 256) * 256 ^ r.length := Nat.mul_le_mul_right _ (by omega)
        _ = (acc + 1) * (256 ^ r.length * 256) := by rw [Nat.mul_assoc, Nat.mul_comm 256]

/-! ### how it is told -/
def pairS (n : Nat) : Bs := [hexC (n / 16), hexC (n % 16)]
/-- The j-th of the six numbers. -/
def dgM (x j : Nat) : Nat := x / 256 ^ (5 - j) % 256
theorem dgM_lt (x j : Nat) : dgM x j < 256 := by unfold dgM; omega
def tellM (m : Nat) : Bs := Lib.join [pairS (dgM m 0), pairS (dgM m 1), pairS (dgM m 2), pairS (dgM m 3), pairS (dgM m 4), pairS (dgM m 5)] [58]
theorem tellM_is (m : Nat) : tellM m = pairS (dgM m 0) ++ 58 :: (pairS (dgM m 1) ++ 58 :: (pairS (dgM m 2) ++ 58 :: (pairS (dgM m 3) ++ 58 :: (pairS (dgM m 4) ++ 58 :: pairS (dgM m 5))))) := by
  unfold tellM; rw [Lib.join_cons]; simp [Lib.joinTail]
theorem tellM_len (m : Nat) : (tellM m).length = 17 := by rw [tellM_is]; simp [pairS]
/-- Six pairs of any signs that are no colons. -/
def seventeen (a b c d e f g h i j k l : UInt8) : Bs := [a, b, 58, c, d, 58, e, f, 58, g, h, 58, i, j, 58, k, l]
theorem split17 {a b c d e f g h i j k l : UInt8} (ha : a ≠ 58) (hb : b ≠ 58) (hc : c ≠ 58) (hd : d ≠ 58) (he : e ≠ 58) (hf : f ≠ 58) (hg : g ≠ 58) (hh : h ≠ 58) (hi : i ≠ 58) (hj : j ≠ 58) (hk : k ≠ 58) (hl : l ≠ 58) :
    splitV 58 (seventeen a b c d e f g h i j k l) = [[a, b], [c, d], [e, f], [g, h], [i, j], [k, l]] := by
  simp [splitV, seventeen, splitA, ha, hb, hc, hd, he, hf, hg, hh, hi, hj, hk, hl]
theorem pair_hex {a b : UInt8} {x y : Nat} (ha : hexD a = some x) (hb : hexD b = some y) : pairV [a, b] = some (x * 16 + y) := by
  unfold pairV; simp [hexM, ha, hb]
theorem hexD_ne {c : UInt8} {x : Nat} (h : hexD c = some x) : c ≠ 58 := by
  intro e; subst e; rw [show hexD 58 = none by decide] at h; cases h
/-- Twelve digits, as they are read. -/
theorem mac17 {a b c d e f g h i j k l : UInt8} {xa xb xc xd xe xf xg xh xi xj xk xl : Nat} (ha : hexD a = some xa) (hb : hexD b = some xb) (hc : hexD c = some xc) (hd : hexD d = some xd) (he : hexD e = some xe) (hf : hexD f = some xf)
    (hg : hexD g = some xg) (hh : hexD h = some xh) (hi : hexD i = some xi) (hj : hexD j = some xj) (hk : hexD k = some xk) (hl : hexD l = some xl) :
    macV (seventeen a b c d e f g h i j k l) = some ((((((xa * 16 + xb) * 256 + (xc * 16 + xd)) * 256 + (xe * 16 + xf)) * 256 + (xg * 16 + xh)) * 256 + (xi * 16 + xj)) * 256 + (xk * 16 + xl)) := by
  rw [← rmac_is]
  unfold rmac
  rw [split17 (hexD_ne ha) (hexD_ne hb) (hexD_ne hc) (hexD_ne hd) (hexD_ne he) (hexD_ne hf) (hexD_ne hg) (hexD_ne hh) (hexD_ne hi) (hexD_ne hj) (hexD_ne hk) (hexD_ne hl)]
  simp [macF, pair_hex ha hb, pair_hex hc hd, pair_hex he hf, pair_hex hg hh, pair_hex hi hj, pair_hex hk hl]
theorem tellM_17 (m : Nat) : tellM m = seventeen (hexC (dgM m 0 / 16)) (hexC (dgM m 0 % 16)) (hexC (dgM m 1 / 16)) (hexC (dgM m 1 % 16)) (hexC (dgM m 2 / 16)) (hexC (dgM m 2 % 16)) (hexC (dgM m 3 / 16)) (hexC (dgM m 3 % 16)) (hexC (dgM m 4 / 16)) (hexC (dgM m 4 % 16)) (hexC (dgM m 5 / 16)) (hexC (dgM m 5 % 16)) := by
  rw [tellM_is]; simp [pairS, seventeen]
theorem dg_hi (m j : Nat) : hexD (hexC (dgM m j / 16)) = some (dgM m j / 16) := hexD_C _ (by have := dgM_lt m j; omega)
theorem dg_lo (m j : Nat) : hexD (hexC (dgM m j % 16)) = some (dgM m j % 16) := hexD_C _ (by omega)
theorem dgM_sum (m : Nat) (h : m < 281474976710656) : (((((dgM m 0) * 256 + dgM m 1) * 256 + dgM m 2) * 256 + dgM m 3) * 256 + dgM m 4) * 256 + dgM m 5 = m := by
  simp only [dgM, Nat.reduceSub, Nat.reducePow]; omega
theorem mac_back (m : Nat) (h : m < 281474976710656) : macV (tellM m) = some m := by
  rw [tellM_17, mac17 (dg_hi m 0) (dg_lo m 0) (dg_hi m 1) (dg_lo m 1) (dg_hi m 2) (dg_lo m 2) (dg_hi m 3) (dg_lo m 3) (dg_hi m 4) (dg_lo m 4) (dg_hi m 5) (dg_lo m 5)]
  have := dgM_sum m h
  refine congrArg some ?_
  simp only [Nat.div_add_mod']
  exact this

/-! ### names -/
def inN (c : UInt8) : Bool := (decide (97 ≤ c.toNat) && decide (c.toNat ≤ 122)) || (decide (48 ≤ c.toNat) && decide (c.toNat ≤ 57)) || c.toNat == 45
def nameV (l : Bs) : Bool := decide (1 ≤ l.length) && decide (l.length ≤ 32) && l.all inN

/-! ### in capitals -/
def upC (c : UInt8) : UInt8 := if 97 ≤ c.toNat ∧ c.toNat ≤ 102 then c - 32 else c
def upOk (c : UInt8) : Bool := decide (hexD (upC c) = hexD c) && decide ((upC c = 58) = (c = 58))
theorem upOk_all : ∀ n, n < 256 → upOk (UInt8.ofNat n) = true := by decide +kernel
theorem upC_is (c : UInt8) : hexD (upC c) = hexD c ∧ (upC c = 58 ↔ c = 58) := by
  have := upOk_all c.toNat c.toNat_lt
  simp only [UInt8.ofNat_toNat] at this
  simpa [upOk] using this
theorem splitA_up : ∀ (s cur : Bs), splitA 58 (cur.map upC) (s.map upC) = (splitA 58 cur s).map (·.map upC)
  | [], cur => by simp [splitA]
  | b :: s, cur => by
    rw [List.map_cons]
    unfold splitA
    by_cases h : b = 58
    · rw [if_pos ((upC_is b).2.2 h), if_pos h, List.map_cons]
      have := splitA_up s []
      rw [List.map_nil] at this
      rw [this]
    · rw [if_neg (fun e => h ((upC_is b).2.1 e)), if_neg h]
      have := splitA_up s (cur ++ [b])
      rw [List.map_append] at this
      exact this
theorem hexM_up : ∀ (l : Bs) (acc : Nat), hexM acc (l.map upC) = hexM acc l
  | [], acc => rfl
  | c :: r, acc => by
    rw [List.map_cons]
    unfold hexM
    rw [(upC_is c).1]
    cases hexD c with
    | none => rfl
    | some d => exact hexM_up r _
theorem macF_up : ∀ (ps : List Bs) (acc : Nat), macF acc (ps.map (·.map upC)) = macF acc ps
  | [], acc => rfl
  | p :: r, acc => by
    rw [List.map_cons]
    unfold macF
    have : pairV (p.map upC) = pairV p := by unfold pairV; rw [List.length_map, hexM_up]
    rw [this]
    cases pairV p with
    | none => rfl
    | some n => exact macF_up r _
theorem mac_up (s : Bs) : macV (s.map upC) = macV s := by
  rw [← rmac_is, ← rmac_is]
  unfold rmac splitV
  have := splitA_up s []
  rw [List.map_nil] at this
  rw [this, List.length_map, macF_up]
end Go.Proofs.YtmnemjhkmllniaaDoor
