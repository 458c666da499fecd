/- Records, as mathematics: no row has more signs than there are bytes, and one. -/
import Derived.Test.YtcfminkmidaaoaaDoorVp
namespace Go.Proofs.YtcfminkmidaaoaaDoor
theorem aftS_len {row : List Tk} {c : UInt8} {i : Nat} {s' : SC} {ts : List (List Tk)} (h : aftS row c i = .inl (s', ts)) : lenC s' ≤ row.length ∧ ∀ r ∈ ts, r.length ≤ row.length := by
  unfold aftS at h
  split at h
  · cases h; exact ⟨Nat.le_refl _, by simp⟩
  · split at h
    · cases h; exact ⟨Nat.zero_le _, by simp⟩
    · split at h
      · cases h; exact ⟨Nat.zero_le _, by simp⟩
      · cases h
theorem stepC_len {s s' : SC} {c : UInt8} {i : Nat} {ts : List (List Tk)} (h : stepC s c i = .inl (s', ts)) : lenC s' ≤ lenC s + 1 ∧ ∀ r ∈ ts, r.length ≤ lenC s + 1 := by
  cases s with
  | beg row =>
    simp only [stepC] at h
    split at h
    · cases h; exact ⟨Nat.le_refl _, by simp⟩
    · split at h
      · cases h; exact ⟨Nat.le_refl _, by simp⟩
      · have := aftS_len h; simp only [List.length_append, List.length_cons, List.length_nil] at this; exact ⟨this.1, this.2⟩
  | pln row a cur =>
    simp only [stepC] at h
    split at h
    · cases h; exact ⟨Nat.le_succ _, by simp⟩
    · split at h
      · split at h
        · cases h
        · have := aftS_len h; simp only [List.length_append, List.length_cons, List.length_nil] at this
          exact ⟨Nat.le_trans this.1 (Nat.le_succ _), fun r hr => Nat.le_trans (this.2 r hr) (Nat.le_succ _)⟩
      · cases h
  | quo row a cur =>
    simp only [stepC] at h
    split at h
    · cases h; exact ⟨Nat.le_succ _, by simp⟩
    · split at h
      · cases h; exact ⟨Nat.le_succ _, by simp⟩
      · cases h
  | qnd row a cur =>
    simp only [stepC] at h
    split at h
    · cases h; exact ⟨Nat.le_succ _, by simp⟩
    · split at h
      · cases h
      · have := aftS_len h; simp only [List.length_append, List.length_cons, List.length_nil] at this
        exact ⟨Nat.le_trans this.1 (Nat.le_succ _), fun r hr => Nat.le_trans (this.2 r hr) (Nat.le_succ _)⟩
  | aft row =>
    have := aftS_len (h : aftS row c i = _)
    exact ⟨Nat.le_trans this.1 (Nat.le_succ _), fun r hr => Nat.le_trans (this.2 r hr) (Nat.le_succ _)⟩
  | cr =>
    simp only [stepC] at h
    split at h
    · cases h; exact ⟨Nat.zero_le _, by simp⟩
    · cases h
theorem recA_len : ∀ (r : Bs) (s : SC) (i : Nat) (L : List (List Tk)), recA s i r = .ok L → ∀ row ∈ L, row.length ≤ lenC s + r.length + 1
  | [], s, i, L, h => by
    cases s with
    | beg row =>
      simp only [recA, endC] at h
      split at h
      · cases h; simp
      · cases h; intro r hr; simp at hr; subst hr; simp [lenC]
    | pln row a cur =>
      simp only [recA, endC] at h
      split at h
      · cases h
      · cases h; intro r hr; simp at hr; subst hr; simp [lenC]
    | quo row a cur => cases h
    | qnd row a cur =>
      simp only [recA, endC] at h
      split at h
      · cases h
      · cases h; intro r hr; simp at hr; subst hr; simp [lenC]
    | aft row => cases h; intro r hr; simp at hr; subst hr; simp [lenC]
    | cr => cases h
  | c :: r, s, i, L, h => by
    rw [recA] at h
    cases hx : stepC s c i with
    | inr x => obtain ⟨k, a⟩ := x; rw [hx] at h; cases h
    | inl x =>
      obtain ⟨s', ts⟩ := x
      rw [hx] at h
      obtain ⟨h1, h2⟩ := stepC_len hx
      simp only at h
      cases hy : recA s' (i + 1) r with
      | bad k a => rw [hy] at h; cases h
      | ok M =>
        rw [hy] at h; cases h
        intro row hrow
        rcases List.mem_append.1 hrow with h3 | h3
        · have := h2 row h3; simp; omega
        · have := recA_len r s' (i + 1) M hy row h3; simp; omega
theorem recV_len {l : Bs} {L : List (List Tk)} (h : recV l = .ok L) : ∀ row ∈ L, row.length ≤ l.length + 1 := fun row hrow => by
  have := recA_len l (.beg []) 0 L h row hrow
  simpa [lenC] using this
end Go.Proofs.YtcfminkmidaaoaaDoor
