/- How long rows that were read are when they are told. -/
import Derived.Test.YtfmanmidihofgaaDoorWm
namespace Go.Proofs.YtfmanmidihofgaaDoor
theorem parts_sum : ∀ (r : Bs) (a : Nat) (cur : Bs) (k : Nat) (ts : List Tk), partsA a cur k r = .inl ts → (ts.map fun t => t.2.1.length + 1).sum = cur.length + r.length + 1
  | [], a, cur, k, ts, h => by
    unfold partsA at h
    split at h
    · cases h
    · cases h; simp
  | c :: r, a, cur, k, ts, h => by
    unfold partsA at h
    split at h
    · split at h
      · cases h
      · cases hx : partsA (k + 1) [] (k + 1) r with
        | inr e => rw [hx] at h; cases h
        | inl us =>
          rw [hx] at h; cases h
          have := parts_sum r _ _ _ _ hx
          simp at this ⊢; omega
    · split at h
      · have := parts_sum r _ _ _ _ h
        simp at this ⊢; omega
      · cases h
theorem joinP_sum (q : List Bs) : (joinP (fun s => s) q).length ≤ (q.map fun s => s.length + 1).sum := by
  have : (q.flatMap (fun s => 44 :: s)).length = (q.map fun s => s.length + 1).sum := by
    induction q with
    | nil => rfl
    | cons a q ih => rw [List.flatMap_cons, List.length_append, ih]; simp
  have e : joinP (fun s => s) q = (q.flatMap (fun s => 44 :: s)).drop 1 := rfl
  rw [e, List.length_drop]; omega
theorem len_sum (ts : List Tk) : ts.length ≤ (ts.map fun t => t.2.1.length + 1).sum := by
  induction ts with
  | nil => simp
  | cons a q ih => rw [List.map_cons, List.sum_cons, List.length_cons]; omega
theorem row_sum {s : Bs} {a : Nat} {r : Rw} (h : rowV s a = .inl r) : (rowT r).length ≤ s.length + 1 ∧ r.2.1.length ≤ s.length + 1 := by
  have hk := keyN_le s
  unfold rowV at h
  split at h
  · cases h
  · rename_i hc
    have hlt : keyN s < s.length := by
      rcases Nat.lt_or_ge (keyN s) s.length with h1 | h1
      · exact h1
      · exact absurd (Or.inr (by rw [List.getElem?_eq_none h1]; simp)) hc
    cases hx : partsA (a + keyN s + 1) [] (a + keyN s + 1) (s.drop (keyN s + 1)) with
    | inr e => rw [hx] at h; cases h
    | inl ts =>
      rw [hx] at h; cases h
      have h1 := parts_sum _ _ _ _ _ hx
      have h2 := joinP_sum (ts.map fun t => t.2.1)
      have h3 := len_sum ts
      rw [List.map_map] at h2
      have e : ((fun s : Bs => s.length + 1) ∘ fun t : Tk => t.2.1) = fun t : Tk => t.2.1.length + 1 := rfl
      rw [e, h1, List.length_drop] at h2
      rw [h1, List.length_drop] at h3
      refine ⟨?_, by simp at h3 ⊢; omega⟩
      have e3 : (rowT (s.take (keyN s), ts, a)).length = (s.take (keyN s)).length + ((joinP (fun s => s) (ts.map fun t => t.2.1)).length + 1) := by unfold rowT; rw [List.length_append, List.length_cons]
      rw [e3, List.length_take]
      rw [List.length_nil] at h2
      omega
def lineW (q : List (Bs × Nat)) : Nat := (q.map fun p => p.1.length + 1).sum
theorem rowsG_sum : ∀ (q : List (Bs × Nat)) (L : List Rw), rowsG q = .ok L → (printD L).length ≤ 2 * lineW q ∧ ∀ r ∈ L, r.2.1.length ≤ lineW q
  | [], L, h => by cases h; exact ⟨by simp [printD], by simp⟩
  | (s, a) :: q, L, h => by
    have e : lineW ((s, a) :: q) = s.length + 1 + lineW q := by simp [lineW]
    unfold rowsG at h
    split at h
    · obtain ⟨h1, h2⟩ := rowsG_sum q L h
      exact ⟨by omega, fun r hr => by have := h2 r hr; omega⟩
    · cases hx : rowV s a with
      | inr y => obtain ⟨k, x⟩ := y; rw [hx] at h; cases h
      | inl r =>
        rw [hx] at h
        simp only at h
        cases hy : rowsG q with
        | bad k x => rw [hy] at h; cases h
        | ok M =>
          rw [hy] at h; cases h
          obtain ⟨h1, h2⟩ := rowsG_sum q M hy
          obtain ⟨h3, h4⟩ := row_sum hx
          refine ⟨?_, fun r' hr' => ?_⟩
          · have e2 : (printD ([r] ++ M)).length = (rowT r).length + 1 + (printD M).length := by simp [printD]; omega
            rw [e2]; omega
          · rcases List.mem_append.1 hr' with h5 | h5
            · simp at h5; subst h5; omega
            · have := h2 r' h5; omega
theorem lines_sum : ∀ (l cur : Bs) (a : Nat), lineW (linesG cur a l) ≤ cur.length + l.length + 1
  | [], cur, a => by
    unfold linesG
    split
    · simp [lineW]
    · simp [lineW]
  | c :: r, cur, a => by
    unfold linesG
    split
    · have h1 := lines_sum r [] (a + cur.length + 1)
      have h2 := trimV_len cur
      simp [lineW] at h1 ⊢; omega
    · have h1 := lines_sum r (cur ++ [c]) a
      simp at h1 ⊢; omega
theorem rows_fit {l : Bs} {L : List Rw} (h : rowsV l = .ok L) : (printD L).length ≤ 2 * l.length + 2 ∧ ∀ r ∈ L, r.2.1.length ≤ l.length + 1 := by
  obtain ⟨h1, h2⟩ := rowsG_sum _ _ h
  have h3 : lineW (linesV l) ≤ l.length + 1 := by have := lines_sum l [] 0; simpa [linesV] using this
  exact ⟨by omega, fun r hr => by have := h2 r hr; omega⟩
end Go.Proofs.YtfmanmidihofgaaDoor
