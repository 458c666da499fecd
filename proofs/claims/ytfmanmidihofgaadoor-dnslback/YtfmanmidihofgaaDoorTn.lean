/- Signs of a text, as mathematics: what comes of them, and texts that are quoted. -/
import Derived.Test.YtfmanmidihofgaaDoorTm
namespace Go.Proofs.YtfmanmidihofgaaDoor

/-- A byte that may stand in a text. -/
def prtB (c : UInt8) : Bool := 32 ≤ c && c ≤ 126
def unitQ (c : UInt8) : Bs := if c = 34 ∨ c = 92 then [92, c] else [c]
def bodyQ (s : Bs) : Bs := (s.filter prtB).flatMap unitQ
def quoteV (s : Bs) : Bs := 34 :: (bodyQ s ++ [34])
theorem prt_not {c : UInt8} (h : prtB c = true) : ¬ (c < 32 ∨ 126 < c) := by
  simp only [prtB, Bool.and_eq_true, decide_eq_true_eq] at h
  intro e
  rcases e with e | e
  · exact absurd h.1 (UInt8.not_le.2 e)
  · exact absurd h.2 (UInt8.not_le.2 e)
/-- One byte of a text, as it is quoted, is read as it was. -/
theorem txt_unit {c : UInt8} (h : prtB c = true) (acc : Bs) (r : Bs) (i : Nat) : txtG acc (unitQ c ++ r) i = txtG (acc ++ [c]) r (i + (unitQ c).length) := by
  unfold unitQ
  by_cases h1 : c = 34 ∨ c = 92
  · rw [if_pos h1, List.cons_append, List.cons_append, List.nil_append]
    conv => lhs; unfold txtG
    rw [if_neg (by decide), if_pos rfl]
    simp only [if_pos h1]; rfl
  · rw [if_neg h1, List.cons_append, List.nil_append]
    conv => lhs; unfold txtG
    rw [if_neg (fun e => h1 (Or.inl e)), if_neg (fun e => h1 (Or.inr e)), if_neg (prt_not h)]; rfl
theorem txt_units : ∀ (s acc r : Bs) (i : Nat), (∀ c ∈ s, prtB c = true) → txtG acc (s.flatMap unitQ ++ r) i = txtG (acc ++ s) r (i + (s.flatMap unitQ).length)
  | [], acc, r, i, _ => by simp
  | c :: q, acc, r, i, h => by
    rw [List.flatMap_cons, List.append_assoc, txt_unit (h c (by simp)), txt_units q _ _ _ (fun x hx => h x (by simp [hx])), List.length_append]
    simp only [List.append_assoc, List.cons_append, List.nil_append, Nat.add_assoc]
theorem txt_quote (acc r : Bs) (i : Nat) : txtG acc (34 :: r) i = .inl (acc, i + 1) := by unfold txtG; rw [if_pos rfl]
theorem filter_all {s : Bs} (h : ∀ c ∈ s, prtB c = true) : s.filter prtB = s := List.filter_eq_self.2 h
/-- A quoted text on the way. -/
theorem top_quote {s : Bs} (h : ∀ c ∈ s, prtB c = true) (i : Nat) (r : Bs) : tokA .top i (quoteV s ++ r) = if 255 < s.length then .bad 2 i else (tokA .top (i + (quoteV s).length) r).pre [(3, s, i)] := by
  unfold quoteV bodyQ
  rw [filter_all h, List.cons_append, top_txt, tok_txt, List.append_assoc, txt_units _ _ _ _ h, List.cons_append, List.nil_append, txt_quote]
  simp only [List.nil_append]
  rw [show i + 1 + (s.flatMap unitQ).length + 1 - (i + 1) = (s.flatMap unitQ).length + 1 by omega, show s.flatMap unitQ ++ 34 :: r = (s.flatMap unitQ ++ [34]) ++ r by simp, List.drop_append_of_le_length (by simp), List.drop_of_length_le (by simp), List.nil_append]
  simp only [List.length_cons, List.length_append, List.length_nil, show i + 1 + (s.flatMap unitQ).length + 1 = i + ((s.flatMap unitQ).length + (0 + 1) + 1) by omega]
/-- What a sign is like. -/
def okTk (t : Tk) : Prop := (t.1 = 2 ∧ t.2.1 ≠ [] ∧ t.2.1.length ≤ 255 ∧ ∀ c ∈ t.2.1, wordB c = true) ∨ (t.1 = 3 ∧ t.2.1.length ≤ 255 ∧ ∀ c ∈ t.2.1, prtB c = true) ∨ (t.1 = 4 ∧ ∃ c, t.2.1 = [c] ∧ signB c = true)
def okSt : St → Prop
  | .top => True
  | .com => True
  | .wrd _ cur => cur ≠ [] ∧ ∀ c ∈ cur, wordB c = true
  | .txt _ cur => ∀ c ∈ cur, prtB c = true
  | .esc _ cur => ∀ c ∈ cur, prtB c = true
theorem startS_ok {c : UInt8} {i : Nat} {s : St} {ts : List Tk} (h : startS c i = some (s, ts)) : okSt s ∧ ∀ t ∈ ts, okTk t := by
  unfold startS at h
  split at h
  · cases h; exact ⟨trivial, by simp⟩
  · split at h
    · cases h; exact ⟨trivial, by simp⟩
    · split at h
      · rename_i hs; cases h; exact ⟨trivial, fun t ht => by simp at ht; subst ht; exact Or.inr (Or.inr ⟨rfl, c, rfl, hs⟩)⟩
      · split at h
        · cases h; exact ⟨by simp [okSt], by simp⟩
        · split at h
          · rename_i hw; cases h; exact ⟨by simp [okSt, hw], by simp⟩
          · cases h
theorem prt_of {c : UInt8} (h : ¬ (c < 32 ∨ 126 < c)) : prtB c = true := by
  simp only [prtB, Bool.and_eq_true, decide_eq_true_eq]
  exact ⟨UInt8.not_lt.1 fun e => h (Or.inl e), UInt8.not_lt.1 fun e => h (Or.inr e)⟩
theorem stepS_ok {s s' : St} {c : UInt8} {i : Nat} {ts : List Tk} (hs : okSt s) (h : stepS s c i = .inl (s', ts)) : okSt s' ∧ ∀ t ∈ ts, okTk t := by
  cases s with
  | top =>
    simp only [stepS] at h
    cases hx : startS c i with
    | none => rw [hx] at h; cases h
    | some x => rw [hx] at h; cases h; exact startS_ok hx
  | com =>
    simp only [stepS] at h
    split at h <;> (cases h; exact ⟨trivial, by simp⟩)
  | wrd a cur =>
    simp only [stepS] at h
    split at h
    · rename_i hw
      cases h
      exact ⟨⟨by simp, fun x hx => by simp at hx; rcases hx with hx | hx; exact hs.2 x hx; exact hx ▸ hw⟩, by simp⟩
    · split at h
      · cases h
      · rename_i hl
        cases hx : startS c i with
        | none => rw [hx] at h; cases h
        | some x =>
          rw [hx] at h; cases h
          obtain ⟨h1, h2⟩ := startS_ok hx
          refine ⟨h1, fun t ht => ?_⟩
          simp at ht
          rcases ht with rfl | ht
          · exact Or.inl ⟨rfl, hs.1, Nat.le_of_not_lt hl, hs.2⟩
          · exact h2 t ht
  | txt a cur =>
    simp only [stepS] at h
    split at h
    · split at h
      · cases h
      · rename_i hl
        cases h
        exact ⟨trivial, fun t ht => by simp at ht; subst ht; exact Or.inr (Or.inl ⟨rfl, Nat.le_of_not_lt hl, hs⟩)⟩
    · split at h
      · cases h; exact ⟨hs, by simp⟩
      · split at h
        · cases h
        · rename_i hp
          cases h
          exact ⟨fun x hx => by simp at hx; rcases hx with hx | hx; exact hs x hx; exact hx ▸ prt_of hp, by simp⟩
  | esc a cur =>
    simp only [stepS] at h
    split at h
    · rename_i hc
      cases h
      exact ⟨fun x hx => by simp at hx; rcases hx with hx | hx; exact hs x hx; subst hx; rcases hc with hc | hc <;> subst hc <;> decide, by simp⟩
    · cases h
theorem tokA_ok : ∀ (r : Bs) (s : St) (i : Nat) (L : List Tk), okSt s → tokA s i r = .ok L → ∀ t ∈ L, okTk t
  | [], s, i, L, hs, h => by
    cases s with
    | top => cases h; simp
    | com => cases h; simp
    | wrd a cur =>
      simp only [tokA, endS] at h
      split at h
      · cases h
      · rename_i hl
        cases h
        intro t ht
        simp at ht; subst ht
        exact Or.inl ⟨rfl, hs.1, Nat.le_of_not_lt hl, hs.2⟩
    | txt a cur => cases h
    | esc a cur => cases h
  | c :: r, s, i, L, hs, h => by
    rw [tokA] at h
    cases hx : stepS s c i with
    | inr x => rw [hx] at h; cases h
    | inl x =>
      obtain ⟨s', ts⟩ := x
      rw [hx] at h
      obtain ⟨h1, h2⟩ := stepS_ok hs hx
      simp only at h
      cases hy : tokA s' (i + 1) r with
      | bad k a => rw [hy] at h; cases h
      | ok M =>
        rw [hy] at h; cases h
        intro t ht
        rcases List.mem_append.1 ht with ht | ht
        · exact h2 t ht
        · exact tokA_ok r s' (i + 1) M h1 hy t ht
theorem tokV_ok {l : Bs} {L : List Tk} (h : tokV l = .ok L) : ∀ t ∈ L, okTk t := tokA_ok l .top 0 L trivial h
/-- Where something is wrong is a place of the text. -/
def stLe (i : Nat) : St → Prop
  | .top => True
  | .com => True
  | .wrd a _ => a ≤ i
  | .txt a _ => a ≤ i
  | .esc a _ => a ≤ i
theorem startS_le {c : UInt8} {i : Nat} {s : St} {ts : List Tk} (h : startS c i = some (s, ts)) : stLe (i + 1) s := by
  unfold startS at h
  split at h
  · cases h; trivial
  · split at h
    · cases h; trivial
    · split at h
      · cases h; trivial
      · split at h
        · cases h; exact Nat.le_succ i
        · split at h
          · cases h; exact Nat.le_succ i
          · cases h
theorem stepS_le {s : St} {c : UInt8} {i : Nat} (hs : stLe i s) : (∀ s' ts, stepS s c i = .inl (s', ts) → stLe (i + 1) s') ∧ ∀ k a, stepS s c i = .inr (k, a) → a ≤ i ∧ (k = 1 ∨ k = 2) := by
  constructor
  · intro s' ts h
    cases s with
    | top =>
      simp only [stepS] at h
      cases hx : startS c i with
      | none => rw [hx] at h; cases h
      | some x => rw [hx] at h; cases h; exact startS_le hx
    | com => simp only [stepS] at h; split at h <;> (cases h; trivial)
    | wrd a cur =>
      simp only [stepS] at h
      split at h
      · cases h; exact Nat.le_succ_of_le hs
      · split at h
        · cases h
        · cases hx : startS c i with
          | none => rw [hx] at h; cases h
          | some x => rw [hx] at h; cases h; exact startS_le hx
    | txt a cur =>
      simp only [stepS] at h
      split at h
      · split at h <;> cases h; trivial
      · split at h
        · cases h; exact Nat.le_succ_of_le hs
        · split at h <;> cases h; exact Nat.le_succ_of_le hs
    | esc a cur => simp only [stepS] at h; split at h <;> cases h; exact Nat.le_succ_of_le hs
  · intro k a h
    cases s with
    | top =>
      simp only [stepS] at h
      cases hx : startS c i with
      | none => rw [hx] at h; cases h; exact ⟨Nat.le_refl _, Or.inl rfl⟩
      | some x => rw [hx] at h; cases h
    | com => simp only [stepS] at h; split at h <;> cases h
    | wrd b cur =>
      simp only [stepS] at h
      split at h
      · cases h
      · split at h
        · cases h; exact ⟨hs, Or.inr rfl⟩
        · cases hx : startS c i with
          | none => rw [hx] at h; cases h; exact ⟨Nat.le_refl _, Or.inl rfl⟩
          | some x => rw [hx] at h; cases h
    | txt b cur =>
      simp only [stepS] at h
      split at h
      · split at h <;> cases h; exact ⟨hs, Or.inr rfl⟩
      · split at h
        · cases h
        · split at h <;> cases h; exact ⟨Nat.le_refl _, Or.inl rfl⟩
    | esc b cur => simp only [stepS] at h; split at h <;> cases h; exact ⟨Nat.le_refl _, Or.inl rfl⟩
theorem tokA_bad : ∀ (r : Bs) (s : St) (i : Nat) (k a : Nat), stLe i s → tokA s i r = .bad k a → a ≤ i + r.length ∧ (k = 1 ∨ k = 2)
  | [], s, i, k, a, hs, h => by
    cases s with
    | top => cases h
    | com => cases h
    | wrd b cur =>
      simp only [tokA, endS] at h
      split at h <;> cases h
      exact ⟨hs, Or.inr rfl⟩
    | txt b cur => cases h; exact ⟨Nat.le_refl _, Or.inl rfl⟩
    | esc b cur => cases h; exact ⟨Nat.le_refl _, Or.inl rfl⟩
  | c :: r, s, i, k, a, hs, h => by
    rw [tokA] at h
    obtain ⟨q1, q2⟩ := stepS_le (c := c) hs
    cases hx : stepS s c i with
    | inr x => obtain ⟨k', a'⟩ := x; rw [hx] at h; cases h; have := q2 _ _ hx; exact ⟨by simp; omega, this.2⟩
    | inl x =>
      obtain ⟨s', ts⟩ := x
      rw [hx] at h
      simp only at h
      cases hy : tokA s' (i + 1) r with
      | ok M => rw [hy] at h; cases h
      | bad k' a' =>
        rw [hy] at h; cases h
        have := tokA_bad r s' (i + 1) k a (q1 _ _ hx) hy
        exact ⟨by simp; omega, this.2⟩
theorem tokV_bad {l : Bs} {k a : Nat} (h : tokV l = .bad k a) : a ≤ l.length ∧ (k = 1 ∨ k = 2) := by
  have := tokA_bad l .top 0 k a trivial h
  exact ⟨by omega, this.2⟩
end Go.Proofs.YtfmanmidihofgaaDoor
