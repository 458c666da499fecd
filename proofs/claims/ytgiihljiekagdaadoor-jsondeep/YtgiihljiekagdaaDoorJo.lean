/- Numbers as the library reads and tells them, against the document's, as mathematics. -/
import Derived.Test.YtgiihljiekagdaaDoorJn
import Derived.Lib.ParseIntB
namespace Go.Proofs.YtgiihljiekagdaaDoor
theorem itoa_tell (x : Int) : Lib.itoa x = tellN x := by
  unfold Lib.itoa tellN
  by_cases h : x < 0
  · rw [if_pos h, if_pos h]
  · rw [if_neg h, if_neg h]
    congr 1; omega
theorem nat_pos {r : Bs} (h : ∀ c ∈ r, digitJ c = true) : ∀ acc, 0 < acc → 0 < r.foldl (fun n c => n * 10 + (c.toNat - 48)) acc := by
  induction r with
  | nil => intro acc h; exact h
  | cons c r ih => intro acc hacc; exact ih (fun d hd => h d (by simp [hd])) _ (by show 0 < acc * 10 + (c.toNat - 48); omega)
theorem digit_rng {c : UInt8} (h : digitJ c = true) : 48 ≤ c.toNat ∧ c.toNat ≤ 57 := by
  have : ∀ n, n < 256 → digitJ (UInt8.ofNat n) = true → 48 ≤ n ∧ n ≤ 57 := by decide +kernel
  have h1 := this c.toNat c.toNat_lt
  simp only [UInt8.ofNat_toNat] at h1
  exact h1 h
/-- Digits without a needless nought are the digits of their number. -/
theorem dec_inv : ∀ (n : Nat) (t : Bs), t.length = n → digsJ t = true → t = Lib.decDigits (natJ t)
  | 0, t, hn, h => by
    have : t = [] := List.length_eq_zero_iff.1 hn
    subst this; simp [digsJ] at h
  | n + 1, t, hn, h => by
    obtain ⟨r, c, rfl⟩ : ∃ r c, t = r ++ [c] := by
      have hne : t ≠ [] := fun e => by rw [e] at hn; simp at hn
      rcases List.eq_nil_or_concat t with e | ⟨r, c, e⟩
      · exact absurd e hne
      · exact ⟨r, c, by simpa using e⟩
    have hall : ∀ d ∈ r ++ [c], digitJ d = true := by
      simp only [digsJ, Bool.and_eq_true] at h
      exact List.all_eq_true.1 h.1.2
    have hc := digit_rng (hall c (by simp))
    rw [natJ_snoc]
    by_cases hr : r = []
    · subst hr
      have : natJ [] = 0 := rfl
      rw [this, Nat.zero_mul, Nat.zero_add, Lib.decDigits, dif_pos (by omega)]
      have e : 48 + (c.toNat - 48) = c.toNat := by omega
      simp [e]
    · have hhead : r.head? ≠ some 48 := by
        simp only [digsJ, Bool.and_eq_true, Bool.or_eq_true, beq_iff_eq] at h
        rcases h.2 with h2 | h2
        · exfalso
          have : r.length = 0 := by simp at h2; simpa using h2
          exact hr (List.length_eq_zero_iff.1 this)
        · intro e
          cases r with
          | nil => exact hr rfl
          | cons a q => simp at h2 e; exact h2 e
      have hd : digsJ r = true := by
        have e1 : r.isEmpty = false := by cases r with | nil => exact (hr rfl).elim | cons _ _ => rfl
        have e2 : r.all digitJ = true := List.all_eq_true.2 (fun d hd => hall d (by simp [hd]))
        simp [digsJ, e1, e2, hhead]
      have ih := dec_inv n r (by simp at hn; exact hn) hd
      have hpos : 0 < natJ r := by
        cases r with
        | nil => exact (hr rfl).elim
        | cons a q =>
          have ha := digit_rng (hall a (by simp))
          have ha48 : a.toNat ≠ 48 := fun e => hhead (by simp; exact UInt8.toNat_inj.1 e)
          show 0 < q.foldl _ (0 * 10 + (a.toNat - 48))
          exact nat_pos (fun d hd => hall d (by simp [hd])) _ (by omega)
      rw [Lib.decDigits, dif_neg (by omega)]
      have e1 : (natJ r * 10 + (c.toNat - 48)) / 10 = natJ r := by omega
      have e2 : (natJ r * 10 + (c.toNat - 48)) % 10 = c.toNat - 48 := by omega
      rw [e1, e2, ← ih]
      have e : 48 + (c.toNat - 48) = c.toNat := by omega
      simp [e]
theorem num_inv {t : Bs} {x : Int} (h : numJ t = some x) : t = tellN x ∧ -2 ^ 63 ≤ x ∧ x < 2 ^ 63 := by
  unfold numJ at h
  split at h
  · rename_i hh
    split at h
    · rename_i hc
      cases h
      obtain ⟨h1, h2, h3⟩ := hc
      have hinv := dec_inv _ _ rfl h1
      refine ⟨?_, by omega, by omega⟩
      unfold tellN
      rw [if_pos (by omega)]
      have e : (-(natJ t.tail : Int)).natAbs = natJ t.tail := by omega
      rw [e, ← hinv]
      cases t with
      | nil => simp at hh
      | cons a q => simp at hh; subst hh; rfl
    · cases h
  · split at h
    · rename_i hc
      cases h
      have hinv := dec_inv _ _ rfl hc.1
      refine ⟨?_, by omega, by omega⟩
      unfold tellN
      rw [if_neg (by omega)]
      have e : ((natJ t : Int)).natAbs = natJ t := by omega
      rw [e, ← hinv]
    · cases h
theorem pum_ok {M : Nat} (hM : M < 2 ^ 64) : ∀ (t : Bs) (acc : Nat), (∀ c ∈ t, digitJ c = true) → t.foldl (fun n c => n * 10 + (c.toNat - 48)) acc ≤ M → Lib.parseUintM M acc t = .ok (t.foldl (fun n c => n * 10 + (c.toNat - 48)) acc)
  | [], acc, _, _ => rfl
  | c :: r, acc, h, hle => by
    have hc := digit_rng (h c (by simp))
    have hmono : ∀ (r : Bs) (a : Nat), a ≤ r.foldl (fun n c => n * 10 + (c.toNat - 48)) a := fun r => by
      induction r with
      | nil => intro a; exact Nat.le_refl _
      | cons d q ih => intro a; exact Nat.le_trans (show a ≤ a * 10 + (d.toNat - 48) by omega) (ih _)
    have h1 := hmono r (acc * 10 + (c.toNat - 48))
    have h2 : acc * 10 + (c.toNat - 48) ≤ M := Nat.le_trans h1 hle
    unfold Lib.parseUintM
    rw [if_pos hc, if_neg (by omega), if_neg (by omega)]
    exact pum_ok hM r _ (fun d hd => h d (by simp [hd])) hle
theorem parse_tellN (x : Int) (h1 : -2 ^ 63 ≤ x) (h2 : x < 2 ^ 63) : Lib.parseIntB 64 (tellN x) = .ok x := by
  obtain ⟨k1, k2, k3, _, _⟩ := dec_is x.natAbs
  have hp : Lib.parseUintB 64 (Lib.decDigits x.natAbs) = .ok x.natAbs := by
    unfold Lib.parseUintB
    rw [if_neg k1, pum_ok (by decide) _ _ k2 (by show natJ _ ≤ _; rw [k3]; omega)]
    exact congrArg _ k3
  unfold tellN
  by_cases h : x < 0
  · rw [if_pos h]
    unfold Lib.parseIntB
    have e : (if (45 : UInt8).toNat = 43 ∨ (45 : UInt8).toNat = 45 then Lib.decDigits x.natAbs else 45 :: Lib.decDigits x.natAbs) = Lib.decDigits x.natAbs := if_pos (.inr rfl)
    simp only [e, hp]
    rw [if_neg (by intro hh; exact hh.1 rfl), if_neg (by intro hh; omega), if_pos (show (45 : UInt8).toNat = 45 from rfl)]
    congr 1; omega
  · rw [if_neg h]
    obtain ⟨c, s2, hcs⟩ := List.exists_cons_of_ne_nil k1
    have hc := digit_rng (k2 c (by rw [hcs]; simp))
    rw [hcs] at hp ⊢
    unfold Lib.parseIntB
    have e : (if c.toNat = 43 ∨ c.toNat = 45 then s2 else c :: s2) = c :: s2 := if_neg (by omega)
    simp only [e, hp]
    rw [if_neg (by intro hh; omega), if_neg (by intro hh; omega), if_neg (by omega)]
    congr 1; omega
theorem parse_rng {t : Bs} {x : Int} (h : Lib.parseIntB 64 t = .ok x) : -2 ^ 63 ≤ x ∧ x < 2 ^ 63 := by
  unfold Lib.parseIntB at h
  split at h
  · cases h
  · simp only at h
    split at h
    · cases h
    · cases h
    · split at h
      · cases h
      · split at h
        · cases h
        · rename_i h1 h2
          simp only [Lib.NumEnd.ok.injEq] at h
          subst h
          split <;> constructor <;> (try split at *) <;> omega
/-- What the library makes of a number's bytes. -/
theorem num_cases (t : Bs) : (∃ x, numJ t = some x ∧ Lib.parseIntB 64 t = .ok x ∧ Lib.itoa x = t ∧ -2 ^ 63 ≤ x ∧ x < 2 ^ 63) ∨
    (numJ t = none ∧ ((∃ x, Lib.parseIntB 64 t = .ok x ∧ Lib.itoa x ≠ t ∧ -2 ^ 63 ≤ x ∧ x < 2 ^ 63) ∨ Lib.parseIntB 64 t = .«syntax» ∨ Lib.parseIntB 64 t = .range)) := by
  cases hn : numJ t with
  | some x =>
    obtain ⟨h1, h2, h3⟩ := num_inv hn
    exact .inl ⟨x, rfl, by rw [h1]; exact parse_tellN x h2 h3, by rw [itoa_tell]; exact h1.symm, h2, h3⟩
  | none =>
    refine .inr ⟨rfl, ?_⟩
    cases hp : Lib.parseIntB 64 t with
    | ok x =>
      obtain ⟨h2, h3⟩ := parse_rng hp
      refine .inl ⟨x, rfl, fun e => ?_, h2, h3⟩
      rw [itoa_tell] at e
      have := (num_tell x h2 h3).1
      rw [e, hn] at this
      cases this
    | «syntax» => exact .inr (.inl rfl)
    | range => exact .inr (.inr rfl)
end Go.Proofs.YtgiihljiekagdaaDoor
