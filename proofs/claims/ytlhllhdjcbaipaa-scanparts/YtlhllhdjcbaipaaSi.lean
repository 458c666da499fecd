/- A line of a text: where it ends, and what stands behind it. -/
import Derived.Test.YtlhllhdjcbaipaaSg
namespace Go.Proofs.Ytlhllhdjcbaipaa
theorem first_lf {l : Bs} (h : 10 ∈ l) : ∃ o : Nat, l[o]? = some 10 ∧ ∀ k, k < o → l[k]? ≠ some 10 := by
  induction l with
  | nil => simp at h
  | cons c r ih =>
    by_cases hc : c = 10
    · exact ⟨0, by simp [hc], fun k hk => by omega⟩
    · obtain ⟨o, h1, h2⟩ := ih (by simp at h; rcases h with h | h; exact absurd h.symm hc; exact h)
      refine ⟨o + 1, by simpa using h1, fun k hk => ?_⟩
      cases k with
      | zero => simpa using hc
      | succ k => simpa using h2 k (by omega)
/-- What stands behind a line: nothing, a line feed, or both signs. -/
def Behind (l : Bs) (e n : Nat) : Prop :=
  (e = l.length ∧ n = l.length) ∨ (l[e]? = some 13 ∧ l[e + 1]? = some 10 ∧ n = e + 2) ∨ (l[e]? = some 10 ∧ n = e + 1)
theorem piece_is (l : Bs) (a k : Nat) : pieceV l a (a + k) = (l.drop a).take k := by
  unfold pieceV; rw [List.drop_take]; congr 1; omega
theorem line_parts {l : Bs} {a : Nat} (ha : a < l.length) :
    a + (lineT l a).length ≤ l.length ∧ pieceV l a (a + (lineT l a).length) = lineT l a ∧ 10 ∉ lineT l a ∧ Behind l (a + (lineT l a).length) (lineN l a) := by
  by_cases hm : 10 ∈ l.drop a
  · obtain ⟨o, h1, h2⟩ := first_lf hm
    obtain ⟨e1, e2⟩ := lineT_yes hm
    rw [(take_while h1 h2).1] at e1 e2
    have ho : o < (l.drop a).length := (List.getElem?_eq_some_iff.1 h1).1
    have hlo : ((l.drop a).take o).length = o := by rw [List.length_take]; omega
    rw [hlo] at e2
    have h10 := not_to h2
    have hl10 : l[a + o]? = some 10 := by rw [← List.getElem?_drop]; exact h1
    simp at ho
    rcases trimV_cases ((l.drop a).take o) with ⟨hq, _⟩ | hq
    · rw [hq] at e1
      rw [e1, hlo]
      refine ⟨by omega, by rw [piece_is], h10, Or.inr (Or.inr ⟨hl10, by omega⟩)⟩
    · rw [← e1] at hq
      generalize lineT l a = T at *
      have hT : o = T.length + 1 := by rw [← hlo, hq]; simp
      have hT' : (l.drop a).take T.length = T := by
        have := congrArg (List.take T.length) hq
        rw [List.take_take, Nat.min_eq_left (by omega), List.take_left] at this
        exact this
      refine ⟨by omega, by rw [piece_is, hT'], fun h => h10 (by rw [hq]; simp [h]), Or.inr (Or.inl ⟨?_, by rw [show a + T.length + 1 = a + o by omega]; exact hl10, by omega⟩)⟩
      have : ((l.drop a).take o)[T.length]? = some 13 := by rw [hq]; simp
      rw [List.getElem?_take_of_lt (by omega), List.getElem?_drop] at this
      exact this
  · obtain ⟨e1, e2⟩ := lineT_no hm
    have hlen : (l.drop a).length = l.length - a := by rw [List.length_drop]
    rw [e1, e2, hlen, show a + (l.length - a) = l.length by omega]
    refine ⟨Nat.le_refl _, ?_, hm, Or.inl ⟨rfl, rfl⟩⟩
    unfold pieceV; rw [List.take_length]
/-- Places within a line, and where the next one begins. -/
theorem line_where {l : Bs} {a : Nat} (ha : a < l.length) (hs : since (l.take a) = 0) :
    lfs (l.take (a + (lineT l a).length)) = lfs (l.take a) ∧ since (l.take (a + (lineT l a).length)) = (lineT l a).length ∧
    (lineN l a < l.length → lfs (l.take (lineN l a)) = lfs (l.take a) + 1 ∧ since (l.take (lineN l a)) = 0) := by
  obtain ⟨h1, h2, h3, h4⟩ := line_parts ha
  have e : l.take (a + (lineT l a).length) = l.take a ++ lineT l a := by
    conv => rhs; rw [← h2]
    unfold pieceV
    conv => lhs; rw [← List.take_append_drop a (l.take (a + (lineT l a).length))]
    rw [List.take_take, Nat.min_eq_left (by omega)]
  have f1 : lfs (l.take (a + (lineT l a).length)) = lfs (l.take a) := by rw [e, lfs_plain _ _ h3]
  have f2 : since (l.take (a + (lineT l a).length)) = (lineT l a).length := by rw [e, since_plain _ _ h3, hs, Nat.zero_add]
  refine ⟨f1, f2, fun hn => ?_⟩
  generalize a + (lineT l a).length = k at *
  rcases h4 with ⟨_, h⟩ | ⟨h, h', hk⟩ | ⟨h, hk⟩
  · omega
  · rw [hk, show k + 2 = (k + 1) + 1 from rfl, take_snoc h', lfs_snoc, since_snoc, take_snoc h, lfs_snoc, f1]; simp
  · rw [hk, take_snoc h, lfs_snoc, since_snoc, f1]; simp
end Go.Proofs.Ytlhllhdjcbaipaa
