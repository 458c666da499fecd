/- Prefixes as plain mathematics: an address, a number of leading bits; what is cut, first, last, over, ahead; netmasks. No program stands in this text. -/
import Derived.Test.YtehhhjkajabliaaDoorAm
namespace Go.Proofs.YtehhhjkajabliaaDoor

/-- How many bits an address of this V has. -/
def bitsV (v : Int) : Nat := if v = 4 then 32 else if v = 6 then 128 else 0
theorem bitsV_le (v : Int) : bitsV v ≤ 128 := by unfold bitsV; split <;> (try split) <;> omega
theorem bitsV_4 : bitsV 4 = 32 := rfl
theorem bitsV_6 : bitsV 6 = 128 := rfl
/-- The number without its lowest k bits. -/
def cutK (k x : Nat) : Nat := x / 2 ^ k * 2 ^ k
theorem cutK_le (k x : Nat) : cutK k x ≤ x := Nat.div_mul_le_self _ _
theorem cutK_lt (k x : Nat) (h : x < 340282366920938463463374607431768211456) : cutK k x < 340282366920938463463374607431768211456 := Nat.lt_of_le_of_lt (cutK_le k x) h
theorem cutK_zero (x : Nat) : cutK 0 x = x := by simp [cutK]
theorem cutK_cutK (k x : Nat) : cutK k (cutK k x) = cutK k x := by
  unfold cutK; rw [Nat.mul_div_cancel _ (Nat.pow_pos (by decide))]
theorem cutK_nought (k : Nat) : cutK k 0 = 0 := by simp [cutK]
theorem testBit_high (k : Nat) (hk : k ≤ 128) (i : Nat) : (340282366920938463463374607431768211456 - 2 ^ k).testBit i = (decide (k ≤ i) && decide (i < 128)) := by
  have e : 340282366920938463463374607431768211456 - 2 ^ k = (2 ^ (128 - k) - 1) <<< k := by
    rw [Nat.shiftLeft_eq, Nat.sub_mul, ← Nat.pow_add, Nat.sub_add_cancel hk, ← pow128, Nat.one_mul]
  rw [e, Nat.testBit_shiftLeft, Nat.testBit_two_pow_sub_one]
  by_cases h : k ≤ i
  · simp [h]; omega
  · simp [h]
theorem cutK_bit (k x i : Nat) : (cutK k x).testBit i = (decide (k ≤ i) && x.testBit i) := by
  have e : cutK k x = (x >>> k) <<< k := by rw [Nat.shiftLeft_eq, Nat.shiftRight_eq_div_pow]; rfl
  rw [e, Nat.testBit_shiftLeft, Nat.testBit_shiftRight]
  by_cases h : k ≤ i
  · simp [h, Nat.add_sub_cancel' h]
  · simp [h]
theorem and_mask (x m : Nat) (hx : x < 340282366920938463463374607431768211456) (hm : m ≤ 128) : x &&& maskQ m = cutK (128 - m) x := by
  apply Nat.eq_of_testBit_eq
  intro i
  unfold maskQ
  rw [Nat.testBit_and, testBit_high _ (by omega), cutK_bit]
  by_cases h : i < 128
  · simp [h]; exact Bool.and_comm _ _
  · have : x.testBit i = false := Nat.testBit_lt_two_pow (Nat.lt_of_lt_of_le (by rw [← pow128] at hx; exact hx) (Nat.pow_le_pow_right (by decide) (by omega)))
    simp [this]
theorem not_mask (k : Nat) (hk : k ≤ 128) : notQ (maskQ (128 - k)) = 2 ^ k - 1 := by
  have : 2 ^ k ≤ 2 ^ 128 := Nat.pow_le_pow_right (by decide) hk
  have : 0 < 2 ^ k := Nat.pow_pos (by decide)
  unfold notQ maskQ
  rw [show 128 - (128 - k) = k by omega]
  rw [pow128] at *
  omega
theorem or_low (k x : Nat) (h : cutK k x = x) : x ||| (2 ^ k - 1) = x + (2 ^ k - 1) := by
  have hp : 0 < 2 ^ k := Nat.pow_pos (by decide)
  have hx : x = 2 ^ k * (x / 2 ^ k) := by conv => lhs; rw [← h]
                                          unfold cutK; exact Nat.mul_comm _ _
  have := Nat.two_pow_add_eq_or_of_lt (b := 2 ^ k - 1) (i := k) (by omega) (x / 2 ^ k)
  rw [← hx] at this
  exact this.symm
theorem cutK_small (k x : Nat) (hk : k ≤ 32) : cutK k x < 4294967296 ↔ x < 4294967296 := by
  constructor
  · intro h
    have e : (4294967296 : Nat) = 2 ^ (32 - k) * 2 ^ k := by rw [← Nat.pow_add, Nat.sub_add_cancel hk]
    unfold cutK at h
    rw [e] at h ⊢
    have := Nat.lt_of_mul_lt_mul_right h
    exact (Nat.div_lt_iff_lt_mul (Nat.pow_pos (by decide))).1 this
  · intro h; exact Nat.lt_of_le_of_lt (cutK_le k x) h
/-- Cut to a multiple: between it and just below the next. -/
theorem cutK_is (k x y : Nat) (h : cutK k x = x) : cutK k y = x ↔ x ≤ y ∧ y ≤ x + (2 ^ k - 1) := by
  have hp : 0 < 2 ^ k := Nat.pow_pos (by decide)
  have hd := Nat.div_add_mod y (2 ^ k)
  have hm := Nat.mod_lt y hp
  have hc : cutK k y + y % 2 ^ k = y := by unfold cutK; rw [Nat.mul_comm]; exact hd
  constructor
  · intro e; subst e; omega
  · intro ⟨h1, h2⟩
    have hq : x = x / 2 ^ k * 2 ^ k := h.symm
    have : y / 2 ^ k = x / 2 ^ k := by
      apply Nat.div_eq_of_lt_le
      · rw [← hq]; exact h1
      · rw [Nat.succ_mul, ← hq]; omega
    unfold cutK; rw [this]; exact hq.symm
theorem cutK_add (k x : Nat) (h : cutK k x = x) : cutK k (x + (2 ^ k - 1)) = x := (cutK_is k x _ h).2 ⟨Nat.le_add_right _ _, Nat.le_refl _⟩
/-- How many bits stand behind the first n. -/
def hostK (v n : Int) : Nat := bitsV v - n.toNat
theorem hostK_le (v n : Int) : hostK v n ≤ 128 := by have := bitsV_le v; unfold hostK; omega
def okP (v : Int) (x : Nat) (n : Int) : Bool := okV v x && (decide (0 ≤ n ∧ n ≤ bitsV v) && decide (cutK (hostK v n) x = x))
theorem okP_is {v : Int} {x : Nat} {n : Int} (h : okP v x n = true) : okV v x = true ∧ 0 ≤ n ∧ n ≤ bitsV v ∧ cutK (hostK v n) x = x := by
  simp [okP] at h; exact ⟨h.1, h.2.1.1, h.2.1.2, h.2.2⟩
theorem okP_of {v : Int} {x : Nat} {n : Int} (h : okV v x = true) (h0 : 0 ≤ n) (h1 : n ≤ bitsV v) (h2 : cutK (hostK v n) x = x) : okP v x n = true := by
  simp [okP]; exact ⟨h, ⟨h0, h1⟩, h2⟩
theorem okP_lt {v : Int} {x : Nat} {n : Int} (h : okP v x n = true) : n ≤ 128 := by have := (okP_is h).2.2.1; have := bitsV_le v; omega
theorem okV_lt {v : Int} {x : Nat} (h : okV v x = true) (hx : x < 340282366920938463463374607431768211456) : x < 2 ^ bitsV v := by
  rcases okV_cases h with rfl | ⟨rfl, h4⟩
  · rw [bitsV_6, pow128]; exact hx
  · exact h4
/-- The last address of a prefix is one of the same V. -/
theorem last_ok {v : Int} {x : Nat} {n : Int} (h : okP v x n = true) (hx : x < 340282366920938463463374607431768211456) : x + (2 ^ hostK v n - 1) < 2 ^ bitsV v := by
  obtain ⟨h1, h2, h3, h4⟩ := okP_is h
  have hl := okV_lt h1 hx
  generalize hk : hostK v n = k at *
  have hkb : k ≤ bitsV v := by rw [← hk]; unfold hostK; omega
  have e : 2 ^ bitsV v = 2 ^ (bitsV v - k) * 2 ^ k := by rw [← Nat.pow_add, Nat.sub_add_cancel hkb]
  have hp : 0 < 2 ^ k := Nat.pow_pos (by decide)
  unfold cutK at h4
  rw [e] at hl ⊢
  have hq : x / 2 ^ k < 2 ^ (bitsV v - k) := (Nat.div_lt_iff_lt_mul hp).2 hl
  have : (x / 2 ^ k + 1) * 2 ^ k ≤ 2 ^ (bitsV v - k) * 2 ^ k := Nat.mul_le_mul_right _ hq
  rw [Nat.succ_mul, h4] at this
  omega
theorem pow_bits_le (v : Int) : 2 ^ bitsV v ≤ 340282366920938463463374607431768211456 := by
  rw [← pow128]; exact Nat.pow_le_pow_right (by decide) (bitsV_le v)
theorem okV_of {v : Int} {x : Nat} (h : v = 4 ∨ v = 6) (hx : x < 2 ^ bitsV v) : okV v x = true := by
  rcases h with rfl | rfl
  · have : x < 4294967296 := hx
    simp [okV, this]
  · simp [okV]
theorem okV_v {v : Int} {x : Nat} (h : okV v x = true) : v = 4 ∨ v = 6 := by rcases okV_cases h with h | h; exact Or.inr h; exact Or.inl h.1
def firstV (v : Int) (x : Nat) (n : Int) : Int := if okP v x n = true then v else 0
def firstX (v : Int) (x : Nat) (n : Int) : Nat := if okP v x n = true then x else 0
def lastX (v : Int) (x : Nat) (n : Int) : Nat := if okP v x n = true then x + (2 ^ hostK v n - 1) else 0
def hasP (v : Int) (x : Nat) (n : Int) (u : Int) (y : Nat) : Bool := okP v x n && (okV u y && (decide (u = v) && decide (cutK (hostK u n) y = x)))
def overP (v : Int) (x : Nat) (n : Int) (u : Int) (y : Nat) (m : Int) : Bool := hasP v x n (firstV u y m) (firstX u y m) || hasP u y m (firstV v x n) (firstX v x n)
def lessP (v : Int) (x : Nat) (n : Int) (u : Int) (y : Nat) (m : Int) : Bool := okP v x n && (okP u y m && (if v = u ∧ x = y then decide (n < m) else ltP v x u y))
where ltP (v : Int) (x : Nat) (u : Int) (y : Nat) : Bool := if v = u then ltB x y else decide (v < u)
theorem lastX_lt (v : Int) (x : Nat) (n : Int) (hx : x < 340282366920938463463374607431768211456) : lastX v x n < 340282366920938463463374607431768211456 := by
  unfold lastX; split
  · rename_i h; exact Nat.lt_of_lt_of_le (last_ok h hx) (pow_bits_le v)
  · decide
theorem firstX_lt (v : Int) (x : Nat) (n : Int) (hx : x < 340282366920938463463374607431768211456) : firstX v x n < 340282366920938463463374607431768211456 := by
  unfold firstX; split
  · exact hx
  · decide
/-- Netmasks. -/
def nmX (n : Int) : Nat := 4294967296 - 2 ^ (32 - n.toNat)
def nmB (v : Int) (x : Nat) (n : Int) : Bool := okP v x n && decide (v = 4)
theorem nmX_cut (n : Int) : cutK (32 - n.toNat) 4294967295 = nmX n := by
  have hp : 0 < 2 ^ (32 - n.toNat) := Nat.pow_pos (by decide)
  have e : (4294967296 : Nat) = 2 ^ (32 - (32 - n.toNat)) * 2 ^ (32 - n.toNat) := by rw [← Nat.pow_add, Nat.sub_add_cancel (by omega)]
  have h1 : 1 ≤ 2 ^ (32 - (32 - n.toNat)) := Nat.pow_pos (by decide)
  have hs : (2 ^ (32 - (32 - n.toNat)) - 1) * 2 ^ (32 - n.toNat) = nmX n := by rw [Nat.sub_mul, Nat.one_mul, ← e]; rfl
  refine (cutK_is _ _ _ ?_).2 ⟨?_, ?_⟩ |>.trans rfl
  · rw [← hs]; unfold cutK; rw [Nat.mul_div_cancel _ hp]
  · unfold nmX; omega
  · unfold nmX
    have : 2 ^ (32 - n.toNat) ≤ 2 ^ 32 := Nat.pow_le_pow_right (by decide) (by omega)
    omega
theorem nmX_lt (n : Int) : nmX n < 4294967296 := by
  have hp : 0 < 2 ^ (32 - n.toNat) := Nat.pow_pos (by decide)
  unfold nmX; omega
def ofN (y : Nat) : Nat := 32 - min (lowQ y) 32
theorem ofN_le (y : Nat) : ofN y ≤ 32 := by unfold ofN; omega
def ofB (v : Int) (x : Nat) (u : Int) (y : Nat) : Bool := decide (v = 4 ∧ x < 4294967296 ∧ u = 4 ∧ y = nmX (ofN y))
/-- A mask tells how many bits it has. -/
theorem ofN_nmX : ∀ n : Nat, n ≤ 32 → ofN (nmX n) = n := by decide +kernel
end Go.Proofs.YtehhhjkajabliaaDoor
