/- Lines and places of a text, as mathematics on lists of bytes. -/
import Derived.Test.YtgiihljiekagdaaDoorKb
namespace Go.Proofs.YtgiihljiekagdaaDoor

/-- How many line feeds. -/
def lfs (l : Bs) : Nat := l.count 10
/-- How many bytes since the last line feed. -/
def since (l : Bs) : Nat := (l.reverse.takeWhile (fun c => c != 10)).length
theorem lfs_snoc (l : Bs) (c : UInt8) : lfs (l ++ [c]) = lfs l + (if c = 10 then 1 else 0) := by
  unfold lfs; rw [List.count_append]; congr 1
  by_cases h : c = 10 <;> simp [h]
theorem since_snoc (l : Bs) (c : UInt8) : since (l ++ [c]) = if c = 10 then 0 else since l + 1 := by
  unfold since; rw [List.reverse_append]
  by_cases h : c = 10 <;> simp [h]
theorem since_le (l : Bs) : since l ≤ l.length := by
  unfold since
  have := (List.takeWhile_prefix (l := l.reverse) (fun c => c != 10)).length_le
  simpa using this
theorem lfs_le (l : Bs) : lfs l ≤ l.length := List.count_le_length
theorem lfs_plain (p : Bs) : ∀ (l : Bs), 10 ∉ p → lfs (l ++ p) = lfs l := by
  induction p with
  | nil => intro l _; simp
  | cons c r ih =>
    intro l h
    simp at h
    rw [show l ++ c :: r = (l ++ [c]) ++ r by simp, ih _ h.2, lfs_snoc, if_neg (fun e => h.1 e.symm), Nat.add_zero]
theorem since_plain (p : Bs) : ∀ (l : Bs), 10 ∉ p → since (l ++ p) = since l + p.length := by
  induction p with
  | nil => intro l _; simp
  | cons c r ih =>
    intro l h
    simp at h
    rw [show l ++ c :: r = (l ++ [c]) ++ r by simp, ih _ h.2, since_snoc, if_neg (fun e => h.1 e.symm)]
    simp; omega
theorem part_at {l : Bs} {k : Nat} {c : UInt8} (h : l[k]? = some c) : l = l.take k ++ c :: l.drop (k + 1) := by
  obtain ⟨hk, e⟩ := List.getElem?_eq_some_iff.1 h
  rw [← e]; simp
theorem not_from {l : Bs} {k : Nat} (h : ∀ j, k ≤ j → l[j]? ≠ some 10) : 10 ∉ l.drop k := by
  intro hm
  obtain ⟨j, hj⟩ := List.mem_iff_getElem?.1 hm
  rw [List.getElem?_drop] at hj
  exact h _ (by omega) hj
theorem not_to {l : Bs} {k : Nat} (h : ∀ j, j < k → l[j]? ≠ some 10) : 10 ∉ l.take k := by
  intro hm
  obtain ⟨j, hj⟩ := List.mem_iff_getElem?.1 hm
  rw [List.getElem?_take] at hj
  split at hj
  · exact h _ (by assumption) hj
  · cases hj
theorem since_at {l : Bs} {k : Nat} (h : l[k]? = some 10) (hn : ∀ j, k + 1 ≤ j → l[j]? ≠ some 10) : since l = l.length - (k + 1) := by
  have e := part_at h
  conv => lhs; rw [e, show l.take k ++ 10 :: l.drop (k + 1) = (l.take k ++ [10]) ++ l.drop (k + 1) by simp]
  rw [since_plain _ _ (not_from hn), since_snoc, if_pos rfl]; simp
theorem since_none {l : Bs} (hn : ∀ j, 0 ≤ j → l[j]? ≠ some 10) : since l = l.length := by
  have := since_plain l [] (by have := not_from hn; simpa using this)
  simpa [since] using this
theorem take_snoc {l : Bs} {i : Nat} {c : UInt8} (h : l[i]? = some c) : l.take (i + 1) = l.take i ++ [c] := by
  rw [List.take_add_one, h]; rfl
/-- A 13 ahead of a line feed belongs to the line's end. -/
def trimV (p : Bs) : Bs := if p.getLast? = some 13 then p.dropLast else p
/-- The lines, byte by byte. -/
def linesG : Bs → Nat → Bs → List (Bs × Nat)
  | cur, a, [] => if cur = [] then [] else [(cur, a)]
  | cur, a, c :: r => if c = 10 then (trimV cur, a) :: linesG [] (a + cur.length + 1) r else linesG (cur ++ [c]) a r
def linesV (l : Bs) : List (Bs × Nat) := linesG [] 0 l
theorem linesG_plain : ∀ (p : Bs) (cur : Bs) (a : Nat), 10 ∉ p → linesG cur a p = if cur ++ p = [] then [] else [(cur ++ p, a)]
  | [], cur, a, _ => by simp [linesG]
  | c :: r, cur, a, h => by
    simp at h
    rw [linesG, if_neg (fun e => h.1 e.symm), linesG_plain r (cur ++ [c]) a h.2]; simp
theorem linesG_cut : ∀ (p : Bs) (cur : Bs) (a : Nat) (r : Bs), 10 ∉ p → linesG cur a (p ++ 10 :: r) = (trimV (cur ++ p), a) :: linesG [] (a + (cur ++ p).length + 1) r
  | [], cur, a, r, _ => by simp [linesG]
  | c :: q, cur, a, r, h => by
    simp at h
    rw [List.cons_append, linesG, if_neg (fun e => h.1 e.symm), linesG_cut q (cur ++ [c]) a r h.2]; simp
theorem linesG_len : ∀ (l : Bs) (cur : Bs) (a : Nat), (linesG cur a l).length ≤ l.length + (if cur = [] then 0 else 1)
  | [], cur, a => by by_cases h : cur = [] <;> simp [linesG, h]
  | c :: r, cur, a => by
    by_cases h : c = 10
    · rw [linesG, if_pos h]
      have := linesG_len r [] (a + cur.length + 1)
      simp at this ⊢
      omega
    · rw [linesG, if_neg h]
      have := linesG_len r (cur ++ [c]) a
      simp at this ⊢
      omega
theorem linesV_len (l : Bs) : (linesV l).length ≤ l.length := by have := linesG_len l [] 0; simpa [linesV] using this
theorem trimV_len (p : Bs) : (trimV p).length ≤ p.length := by unfold trimV; split <;> simp
theorem trimV_cases (p : Bs) : (trimV p = p ∧ p.getLast? ≠ some 13) ∨ p = trimV p ++ [13] := by
  unfold trimV
  split
  · right
    rename_i h
    have hne : p ≠ [] := by intro e; simp [e] at h
    rw [List.getLast?_eq_some_getLast hne] at h
    simp at h
    conv => lhs; rw [← List.dropLast_concat_getLast hne, h]
  · left; rename_i h; exact ⟨rfl, h⟩
/-- What lineAt answers: the line, and where the next one begins. -/
def lineT (l : Bs) (a : Nat) : Bs := if 10 ∈ l.drop a then trimV ((l.drop a).takeWhile (fun c => c != 10)) else l.drop a
def lineN (l : Bs) (a : Nat) : Nat := if 10 ∈ l.drop a then a + ((l.drop a).takeWhile (fun c => c != 10)).length + 1 else l.length
theorem take_while {l : Bs} {o : Nat} (h : l[o]? = some 10) (hn : ∀ k, k < o → l[k]? ≠ some 10) : l.takeWhile (fun c => c != 10) = l.take o ∧ 10 ∈ l := by
  have e := part_at h
  refine ⟨?_, List.mem_iff_getElem?.2 ⟨o, h⟩⟩
  conv => lhs; rw [e]
  rw [List.takeWhile_append_of_pos]
  · simp
  · intro a ha
    have := not_to hn
    simp
    intro e; exact this (e ▸ ha)
theorem lines_step {l : Bs} {a : Nat} (ha : a < l.length) : linesG [] a (l.drop a) = (lineT l a, a) :: linesG [] (lineN l a) (l.drop (lineN l a)) ∧ a < lineN l a ∧ lineN l a ≤ l.length := by
  unfold lineT lineN
  by_cases hm : 10 ∈ l.drop a
  · rw [if_pos hm, if_pos hm]
    have hsplit : ∃ o : Nat, (l.drop a)[o]? = some 10 ∧ ∀ k, k < o → (l.drop a)[k]? ≠ some 10 := by
      have : ∀ (m : Bs), 10 ∈ m → ∃ o : Nat, m[o]? = some 10 ∧ ∀ k, k < o → m[k]? ≠ some 10 := by
        intro m
        induction m with
        | nil => intro h; simp at h
        | cons c r ih =>
          intro h
          by_cases hc : c = 10
          · exact ⟨0, by simp [hc], fun k hk => by omega⟩
          · obtain ⟨o, h1, h2⟩ := ih (by simp at h; rcases h with h | h; exact absurd h.symm hc; exact h)
            refine ⟨o + 1, by simpa using h1, fun k hk => ?_⟩
            cases k with
            | zero => simpa using hc
            | succ k => simpa using h2 k (by omega)
      exact this _ hm
    obtain ⟨o, h1, h2⟩ := hsplit
    rw [(take_while h1 h2).1]
    have ho : o < (l.drop a).length := (List.getElem?_eq_some_iff.1 h1).1
    have hl : ((l.drop a).take o).length = o := by rw [List.length_take]; omega
    rw [hl]
    simp at ho
    refine ⟨?_, by omega, by omega⟩
    conv => lhs; rw [part_at h1]
    rw [linesG_cut _ _ _ _ (not_to h2), List.nil_append, hl, List.drop_drop]
    rfl
  · rw [if_neg hm, if_neg hm]
    refine ⟨?_, ha, Nat.le_refl _⟩
    rw [linesG_plain _ _ _ hm, if_neg (by simp; omega)]
    simp [linesG]
end Go.Proofs.YtgiihljiekagdaaDoor
