/- What stands between a byte, as plain mathematics. No program stands in this text. -/
import Derived.Test.YtmnemjhkmllniaaDoorAm
namespace Go.Proofs.YtmnemjhkmllniaaDoor
/-- A text has a byte, first here; or it has it nowhere. -/
theorem first_of (k : UInt8) : ∀ s : Bs, (∃ p r, s = p ++ k :: r ∧ ∀ c ∈ p, c ≠ k) ∨ (∀ c ∈ s, c ≠ k)
  | [] => Or.inr (by simp)
  | b :: s => by
    by_cases hb : b = k
    · exact Or.inl ⟨[], s, by simp [hb], by simp⟩
    · rcases first_of k s with ⟨p, r, rfl, hp⟩ | h
      · exact Or.inl ⟨b :: p, r, rfl, fun c hc => by rcases List.mem_cons.1 hc with rfl | e; exact hb; exact hp c e⟩
      · exact Or.inr fun c hc => by rcases List.mem_cons.1 hc with rfl | e; exact hb; exact h c e
theorem cut1_cases (k : UInt8) (s : Bs) : (s = (Lib.cut s [k]).1 ++ k :: (Lib.cut s [k]).2.1 ∧ (Lib.cut s [k]).2.2 = true ∧ ∀ c ∈ (Lib.cut s [k]).1, c ≠ k) ∨ (Lib.cut s [k] = (s, [], false) ∧ ∀ c ∈ s, c ≠ k) := by
  rcases first_of k s with ⟨p, r, rfl, hp⟩ | h
  · left; rw [cut1_some hp]; exact ⟨rfl, rfl, hp⟩
  · right; exact ⟨cut1_none h, h⟩
def splitA (k : UInt8) (cur : Bs) : Bs → List Bs
  | [] => [cur]
  | b :: r => if b = k then cur :: splitA k [] r else splitA k (cur ++ [b]) r
def splitV (k : UInt8) (s : Bs) : List Bs := splitA k [] s
theorem splitA_plain (k : UInt8) : ∀ (p cur r : Bs), (∀ c ∈ p, c ≠ k) → splitA k cur (p ++ r) = splitA k (cur ++ p) r
  | [], cur, r, _ => by simp
  | b :: p, cur, r, h => by
    rw [List.cons_append]
    have e : splitA k cur (b :: (p ++ r)) = splitA k (cur ++ [b]) (p ++ r) := by
      conv => lhs; unfold splitA
      rw [if_neg (h b (by simp))]
    rw [e, splitA_plain k p (cur ++ [b]) r (fun c hc => h c (by simp [hc]))]
    simp
theorem splitV_cut (k : UInt8) (s : Bs) : splitV k s = (Lib.cut s [k]).1 :: (if (Lib.cut s [k]).2.2 = true then splitV k (Lib.cut s [k]).2.1 else []) := by
  rcases cut1_cases k s with ⟨e, hf, hp⟩ | ⟨e, hp⟩
  · rw [if_pos hf]
    conv => lhs; rw [e]
    unfold splitV
    rw [splitA_plain k _ [] _ hp, List.nil_append]
    conv => lhs; unfold splitA
    rw [if_pos rfl]
  · rw [e]
    simp only [Bool.false_eq_true, if_false]
    unfold splitV
    have := splitA_plain k s [] [] hp
    rw [List.append_nil] at this
    rw [this]
    simp [splitA]
theorem splitV_ne (k : UInt8) (s : Bs) : splitV k s ≠ [] := by rw [splitV_cut]; simp
theorem splitA_len (z : UInt8) : ∀ (s cur : Bs), ∀ p ∈ splitA z cur s, p.length ≤ cur.length + s.length
  | [], cur, p, hp => by simp [splitA] at hp; subst hp; simp
  | b :: r, cur, p, hp => by
    unfold splitA at hp
    split at hp
    · rcases List.mem_cons.1 hp with rfl | h
      · simp
      · have := splitA_len z r [] p h; simp at this ⊢; omega
    · have := splitA_len z r _ p hp; simp at this ⊢; omega
theorem splitV_len {z : UInt8} {s p : Bs} (h : p ∈ splitV z s) : p.length ≤ s.length := by have := splitA_len z s [] p h; simpa using this
end Go.Proofs.YtmnemjhkmllniaaDoor
