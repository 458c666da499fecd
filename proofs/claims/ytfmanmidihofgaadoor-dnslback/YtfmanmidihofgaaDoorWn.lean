/- Lines of the third tongue, as mathematics: long parts. -/
import Derived.Test.YtfmanmidihofgaaDoorWm
namespace Go.Proofs.YtfmanmidihofgaaDoor

def aPairs : Nat → Bs
  | 0 => []
  | n + 1 => aPairs n ++ [97, 44]
theorem aPairs_len (n : Nat) : (aPairs n).length = 2 * n := by induction n with | zero => rfl | succ n ih => simp [aPairs, ih]; omega
theorem aPairs_head (n : Nat) : aPairs (n + 1) = [97, 44] ++ aPairs n := by
  induction n with
  | zero => rfl
  | succ n ih =>
    show aPairs (n + 1) ++ [97, 44] = [97, 44] ++ (aPairs n ++ [97, 44])
    rw [ih, List.append_assoc]
def longB (n : Nat) : Bs := List.replicate n 98
theorem longB_len (n : Nat) : (longB n).length = n := by simp [longB]
theorem longB_snoc (n : Nat) : longB (n + 1) = longB n ++ [98] := by simp [longB, List.replicate_succ']
theorem longB_part (n : Nat) : ∀ c ∈ longB n, partB c = true := fun c h => by simp [longB] at h; rw [h.2]; decide
def preT (ts : List Tk) : List Tk ⊕ (Nat × Nat) → List Tk ⊕ (Nat × Nat)
  | .inl us => .inl (ts ++ us)
  | .inr e => .inr e
theorem parts_as : ∀ (n a : Nat) (r : Bs), ∃ ts : List Tk, ts.length = n ∧ partsA a [] a (aPairs n ++ r) = preT ts (partsA (a + 2 * n) [] (a + 2 * n) r)
  | 0, a, r => ⟨[], rfl, by
    show partsA a [] a r = _
    rw [show a + 2 * 0 = a by omega]
    cases partsA a [] a r <;> rfl⟩
  | n + 1, a, r => by
    obtain ⟨ts, h1, h2⟩ := parts_as n (a + 2) r
    refine ⟨(6, [97], a) :: ts, by simp [h1], ?_⟩
    rw [aPairs_head, List.append_assoc]
    have e : partsA a [] a ([97, 44] ++ (aPairs n ++ r)) = preT [(6, [97], a)] (partsA (a + 2) [] (a + 2) (aPairs n ++ r)) := by
      show partsA a [] a (97 :: 44 :: (aPairs n ++ r)) = _
      conv => lhs; unfold partsA
      rw [if_neg (by decide), if_pos (by decide)]
      conv => lhs; unfold partsA
      rw [if_pos rfl, if_neg (by decide)]
      cases partsA (a + 2) [] (a + 2) (aPairs n ++ r) <;> rfl
    rw [e, h2, show a + 2 + 2 * n = a + 2 * (n + 1) by omega]
    cases partsA (a + 2 * (n + 1)) [] (a + 2 * (n + 1)) r <;> rfl
/-- The text ahead of the long part, and the long part. -/
def longK (k n : Nat) : Bs := [107, 101, 121, 61] ++ aPairs k ++ longB n
theorem longK_len (k n : Nat) : (longK k n).length = 4 + 2 * k + n := by simp [longK, aPairs_len, longB_len]; omega
theorem aPairs_mem {n : Nat} {c : UInt8} (h : c ∈ aPairs n) : c = 97 ∨ c = 44 := by
  induction n with
  | zero => simp [aPairs] at h
  | succ n ih =>
    unfold aPairs at h
    rcases List.mem_append.1 h with h1 | h1
    · exact ih h1
    · simpa using h1
theorem longK_row (k n : Nat) (t : Bs) : rowV (longK k n ++ t) 0 = match partsA 4 [] 4 (aPairs k ++ (longB n ++ t)) with | .inl ts => .inl ([107, 101, 121], ts, 0) | .inr e => .inr e := by
  have e : longK k n ++ t = [107, 101, 121] ++ 61 :: (aPairs k ++ (longB n ++ t)) := by simp [longK]
  have hk : keyN (longK k n ++ t) = 3 := by unfold keyN; rw [e, key_run _ _ (by decide)]; rfl
  unfold rowV
  rw [hk, e]
  rfl
def oneD : Rw ⊕ (Nat × Nat) → DR
  | .inr (q, x) => .bad q x
  | .inl r => .ok [r]
theorem long_line (k n : Nat) (t : Bs) (h10 : 10 ∉ t) (hl : trimV (longK k n ++ t) = longK k n ++ t) (r : Rw ⊕ (Nat × Nat)) (hr : rowV (longK k n ++ t) 0 = r) : rowsV (longK k n ++ t ++ [10]) = oneD r := by
  have hn : 10 ∉ longK k n ++ t := fun e => by
    rcases List.mem_append.1 e with h | h
    · unfold longK at h
      rcases List.mem_append.1 h with h1 | h1
      · rcases List.mem_append.1 h1 with h2 | h2
        · exact absurd h2 (by decide)
        · rcases aPairs_mem h2 with h3 | h3 <;> exact absurd h3 (by decide)
      · exact (part_is (longB_part n 10 h1)).2.2.1 rfl
    · exact h10 h
  have hs : skipB (longK k n ++ t) = false := by simp [skipB, longK]
  have e : linesV (longK k n ++ t ++ [10]) = [(longK k n ++ t, 0)] := by
    unfold linesV
    have := linesG_cut (longK k n ++ t) [] 0 [] hn
    rw [this, List.nil_append, hl]; rfl
  unfold rowsV
  rw [e]
  unfold rowsG
  rw [if_neg (by simp [hs]), hr]
  cases r with
  | inr e => rfl
  | inl r => rfl
theorem trim_last (l : Bs) (c : UInt8) (h : c ≠ 13) : trimV (l ++ [c]) = l ++ [c] := by unfold trimV; simp [h]
theorem long_bad (k n : Nat) : rowsV (longK k n ++ [9, 44, 99] ++ [10]) = .bad 1 (4 + 2 * k + n) := by
  obtain ⟨ts, _, h⟩ := parts_as k 4 (longB n ++ [9, 44, 99])
  have hr : rowV (longK k n ++ [9, 44, 99]) 0 = .inr (1, 4 + 2 * k + n) := by
    rw [longK_row, h, parts_run (longB n) _ _ _ [9, 44, 99] (longB_part n), longB_len]
    unfold partsA
    rw [if_neg (by decide), if_neg (by decide)]
    rfl
  rw [long_line k n [9, 44, 99] (by decide) (by
    rw [show longK k n ++ [9, 44, 99] = (longK k n ++ [9, 44]) ++ [99] by simp]; exact trim_last _ _ (by decide)) _ hr]
  rfl
theorem long_good (k n : Nat) : (255 < n → rowsV (longK k n ++ [44, 99] ++ [10]) = .bad 2 (4 + 2 * k)) ∧ (¬ 255 < n → ∃ ts : List Tk, ts.length = k ∧ rowsV (longK k n ++ [44, 99] ++ [10]) = .ok [([107, 101, 121], ts ++ [(6, longB n, 4 + 2 * k), (6, [99], 4 + 2 * k + n + 1)], 0)]) := by
  obtain ⟨ts, hts, h⟩ := parts_as k 4 (longB n ++ [44, 99])
  have hl : trimV (longK k n ++ [44, 99]) = longK k n ++ [44, 99] := by
    rw [show longK k n ++ [44, 99] = (longK k n ++ [44]) ++ [99] by simp]; exact trim_last _ _ (by decide)
  have hp : partsA (4 + 2 * k) [] (4 + 2 * k) (longB n ++ [44, 99]) = if 255 < n then .inr (2, 4 + 2 * k) else .inl [(6, longB n, 4 + 2 * k), (6, [99], 4 + 2 * k + n + 1)] := by
    rw [parts_run (longB n) _ _ _ [44, 99] (longB_part n), longB_len, List.nil_append]
    conv => lhs; unfold partsA
    rw [if_pos rfl, longB_len]
    by_cases hn : 255 < n
    · rw [if_pos hn, if_pos hn]
    · rw [if_neg hn, if_neg hn]
      have e : partsA (4 + 2 * k + n + 1) [] (4 + 2 * k + n + 1) [99] = .inl [(6, [99], 4 + 2 * k + n + 1)] := by simp [partsA, show prtB 99 = true by decide]
      rw [e]
  constructor
  · intro hn
    have hr : rowV (longK k n ++ [44, 99]) 0 = .inr (2, 4 + 2 * k) := by rw [longK_row, h, hp, if_pos hn]; rfl
    rw [long_line k n [44, 99] (by decide) hl _ hr]; rfl
  · intro hn
    have hr : rowV (longK k n ++ [44, 99]) 0 = .inl ([107, 101, 121], ts ++ [(6, longB n, 4 + 2 * k), (6, [99], 4 + 2 * k + n + 1)], 0) := by rw [longK_row, h, hp, if_neg hn]; rfl
    exact ⟨ts, hts, by rw [long_line k n [44, 99] (by decide) hl _ hr]; rfl⟩
end Go.Proofs.YtfmanmidihofgaaDoor
