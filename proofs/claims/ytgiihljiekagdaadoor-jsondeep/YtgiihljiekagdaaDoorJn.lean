/- Numbers told and read (chapters 11 and 12), as mathematics. -/
import Derived.Test.YtgiihljiekagdaaDoorJx
import Derived.Lib.ItoaNum
namespace Go.Proofs.YtgiihljiekagdaaDoor
theorem natJ_snoc (a : Bs) (c : UInt8) : natJ (a ++ [c]) = natJ a * 10 + (c.toNat - 48) := by simp [natJ, List.foldl_append]
theorem digit_of {d : Nat} (h : d < 10) : digitJ (UInt8.ofNat (48 + d)) = true ∧ (UInt8.ofNat (48 + d)).toNat - 48 = d ∧ (UInt8.ofNat (48 + d) = 48 → d = 0) := by
  have : ∀ d, d < 10 → digitJ (UInt8.ofNat (48 + d)) = true ∧ (UInt8.ofNat (48 + d)).toNat - 48 = d ∧ (UInt8.ofNat (48 + d) = 48 → d = 0) := by decide
  exact this d h
theorem dec_is (u : Nat) : Lib.decDigits u ≠ [] ∧ (∀ c ∈ Lib.decDigits u, digitJ c = true) ∧ natJ (Lib.decDigits u) = u ∧ (u ≠ 0 → (Lib.decDigits u).head? ≠ some 48) ∧ (u < 10 → (Lib.decDigits u).length = 1) := by
  induction u using Nat.strongRecOn with
  | _ u ih =>
    by_cases h : u < 10
    · obtain ⟨h1, h2, h3⟩ := digit_of h
      rw [Lib.decDigits, dif_pos h]
      refine ⟨by simp, fun c hc => ?_, by simpa [natJ] using h2, fun h0 => ?_, fun _ => rfl⟩
      · simp only [List.mem_singleton] at hc; subst hc; exact h1
      · intro e
        simp only [List.head?_cons, Option.some.injEq] at e
        exact h0 (h3 e)
    · obtain ⟨h1, h2, h3, h4, _⟩ := ih (u / 10) (by omega)
      obtain ⟨k1, k2, _⟩ := digit_of (d := u % 10) (by omega)
      rw [Lib.decDigits, dif_neg h]
      refine ⟨by simp, fun c hc => ?_, ?_, fun _ => ?_, fun h5 => by omega⟩
      · rcases List.mem_append.1 hc with hc | hc
        · exact h2 c hc
        · simp only [List.mem_singleton] at hc; subst hc; exact k1
      · rw [natJ_snoc, h3, k2]; omega
      · have := h4 (by omega)
        cases hd : Lib.decDigits (u / 10) with
        | nil => exact (h1 hd).elim
        | cons a r => rw [hd] at this; simpa using this
theorem dec_digs (u : Nat) : digsJ (Lib.decDigits u) = true := by
  obtain ⟨h1, h2, _, h4, h5⟩ := dec_is u
  unfold digsJ
  have e1 : (Lib.decDigits u).isEmpty = false := by cases h : Lib.decDigits u with
    | nil => exact (h1 h).elim
    | cons _ _ => rfl
  have e2 : (Lib.decDigits u).all digitJ = true := List.all_eq_true.2 h2
  rw [e1, e2]
  by_cases h : u = 0
  · simp [h5 (by omega)]
  · simp [h4 h]
/-- A number told. -/
def tellN (x : Int) : Bs := if x < 0 then 45 :: Lib.decDigits x.natAbs else Lib.decDigits x.natAbs
theorem digit_tail {c : UInt8} (h : digitJ c = true) : tailJ c = true := by simp [tailJ, h]
theorem num_tell (x : Int) (h1 : -2 ^ 63 ≤ x) (h2 : x < 2 ^ 63) : numJ (tellN x) = some x ∧ (∀ c ∈ tellN x, tailJ c = true) ∧ ∃ c s2, tellN x = c :: s2 ∧ (c = 45 ∨ digitJ c = true) := by
  obtain ⟨k1, k2, k3, k4, k5⟩ := dec_is x.natAbs
  have kd := dec_digs x.natAbs
  unfold tellN
  split
  · rename_i hneg
    refine ⟨?_, fun c hc => ?_, 45, _, rfl, .inl rfl⟩
    · have : numJ (45 :: Lib.decDigits x.natAbs) = if digsJ (Lib.decDigits x.natAbs) = true ∧ 0 < natJ (Lib.decDigits x.natAbs) ∧ natJ (Lib.decDigits x.natAbs) ≤ 2 ^ 63 then some (-(natJ (Lib.decDigits x.natAbs) : Int)) else none := rfl
      rw [this, k3, if_pos ⟨kd, by omega, by omega⟩]
      congr 1; omega
    · rcases List.mem_cons.1 hc with rfl | hc
      · decide
      · exact digit_tail (k2 c hc)
  · rename_i hpos
    obtain ⟨c, s2, hcs⟩ := List.exists_cons_of_ne_nil k1
    have hc : digitJ c = true := k2 c (by rw [hcs]; simp)
    refine ⟨?_, fun d hd => digit_tail (k2 d hd), c, s2, hcs, .inr hc⟩
    have hh : (Lib.decDigits x.natAbs).head? ≠ some 45 := by
      rw [hcs]; simp; intro e; subst e; revert hc; decide
    unfold numJ
    rw [if_neg hh, k3, if_pos ⟨kd, by omega⟩]
    congr 1; omega
theorem numT_fit (n : Int) (h1 : -2 ^ 63 ≤ n) (h2 : n < 2 ^ 63) : -2 ^ 63 ≤ numT n ∧ numT n < 2 ^ 63 := by
  unfold numT
  have : n / 2 ^ 20 % 2 = 0 ∨ n / 2 ^ 20 % 2 = 1 := by omega
  rcases this with h | h <;> rw [h] <;> omega
theorem leaf_num (x : Int) (a : Nat) (h1 : -2 ^ 63 ≤ x) (h2 : x < 2 ^ 63) : LeafJ (.mk 4 x [] [] [] a) (tellN x) := by
  obtain ⟨k1, k2, k3⟩ := num_tell x h1 h2
  exact ⟨rfl, rfl, .inr (.inr (.inr (.inl ⟨rfl, rfl, k1, k2, k3⟩)))⟩
theorem leaf_text (n : Int) (a : Nat) : LeafJ (.mk 5 0 (textT n) [] [] a) (tellT (textT n)) :=
  ⟨rfl, rfl, .inr (.inr (.inr (.inr ⟨rfl, rfl, _, rfl, fun i r => text_read n i r⟩)))⟩
end Go.Proofs.YtgiihljiekagdaaDoor
