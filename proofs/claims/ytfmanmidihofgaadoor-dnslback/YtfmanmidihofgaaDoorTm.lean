/- Signs of a text, as mathematics on lists of bytes: one byte after the other. -/
import Derived.Test.YtfmanmidihofgaaDoorKb
namespace Go.Proofs.YtfmanmidihofgaaDoor

/-- A sign: its kind, its text, its place. -/
abbrev Tk := Nat × Bs × Nat
/-- Signs, or what is wrong: its kind and its place. -/
inductive TR where
  | ok (l : List Tk)
  | bad (k a : Nat)
def TR.pre (ts : List Tk) : TR → TR
  | .ok l => .ok (ts ++ l)
  | .bad k a => .bad k a
theorem TR.pre_nil (r : TR) : r.pre [] = r := by cases r <;> rfl
theorem TR.pre_pre (a b : List Tk) (r : TR) : (r.pre b).pre a = r.pre (a ++ b) := by cases r <;> simp [TR.pre]
def wordB (c : UInt8) : Bool := (97 ≤ c && c ≤ 122) || (65 ≤ c && c ≤ 90) || (48 ≤ c && c ≤ 57) || c == 46 || c == 58 || c == 45 || c == 95 || c == 47
def blankB (c : UInt8) : Bool := c == 32 || c == 9 || c == 10 || c == 13
def signB (c : UInt8) : Bool := c == 123 || c == 125 || c == 59 || c == 44
/-- Where one stands: between signs, in a comment, in a word, in a text, behind its reverse stroke. -/
inductive St where
  | top
  | com
  | wrd (a : Nat) (cur : Bs)
  | txt (a : Nat) (cur : Bs)
  | esc (a : Nat) (cur : Bs)
/-- A byte between signs. -/
def startS (c : UInt8) (i : Nat) : Option (St × List Tk) :=
  if blankB c then some (.top, []) else if c = 35 then some (.com, []) else if signB c then some (.top, [(4, [c], i)]) else if c = 34 then some (.txt i [], []) else if wordB c then some (.wrd i [c], []) else none
/-- One byte. -/
def stepS (s : St) (c : UInt8) (i : Nat) : (St × List Tk) ⊕ (Nat × Nat) :=
  match s with
  | .top => match startS c i with | some x => .inl x | none => .inr (1, i)
  | .com => if c = 10 then .inl (.top, []) else .inl (.com, [])
  | .wrd a cur => if wordB c then .inl (.wrd a (cur ++ [c]), []) else if 255 < cur.length then .inr (2, a) else match startS c i with | some x => .inl (x.1, (2, cur, a) :: x.2) | none => .inr (1, i)
  | .txt a cur => if c = 34 then (if 255 < cur.length then .inr (2, a) else .inl (.top, [(3, cur, a)])) else if c = 92 then .inl (.esc a cur, []) else if c < 32 ∨ 126 < c then .inr (1, i) else .inl (.txt a (cur ++ [c]), [])
  | .esc a cur => if c = 34 ∨ c = 92 then .inl (.txt a (cur ++ [c]), []) else .inr (1, i)
def endS (s : St) (i : Nat) : TR :=
  match s with
  | .top => .ok []
  | .com => .ok []
  | .wrd a cur => if 255 < cur.length then .bad 2 a else .ok [(2, cur, a)]
  | .txt _ _ => .bad 1 i
  | .esc _ _ => .bad 1 i
def tokA : St → Nat → Bs → TR
  | s, i, [] => endS s i
  | s, i, c :: r => match stepS s c i with
    | .inl (s', ts) => (tokA s' (i + 1) r).pre ts
    | .inr (k, a) => .bad k a
def tokV (l : Bs) : TR := tokA .top 0 l
theorem tokA_inl {s s' : St} {c : UInt8} {i : Nat} {ts : List Tk} (h : stepS s c i = .inl (s', ts)) (r : Bs) : tokA s i (c :: r) = (tokA s' (i + 1) r).pre ts := by rw [tokA, h]
theorem tokA_inr {s : St} {c : UInt8} {i : Nat} {k a : Nat} (h : stepS s c i = .inr (k, a)) (r : Bs) : tokA s i (c :: r) = .bad k a := by rw [tokA, h]
/-- Blanks turn nothing. -/
theorem tok_blank {c : UInt8} (h : blankB c = true) (i : Nat) (r : Bs) : tokA .top i (c :: r) = tokA .top (i + 1) r := by
  rw [tokA_inl (s' := .top) (ts := []) (by simp [stepS, startS, h]), TR.pre_nil]
/-- A word to its end. -/
theorem tok_word : ∀ (p : Bs) (a : Nat) (cur : Bs) (i : Nat) (r : Bs), (∀ c ∈ p, wordB c = true) → tokA (.wrd a cur) i (p ++ r) = tokA (.wrd a (cur ++ p)) (i + p.length) r
  | [], a, cur, i, r, _ => by simp
  | c :: q, a, cur, i, r, h => by
    rw [List.cons_append, tokA_inl (s' := .wrd a (cur ++ [c])) (ts := []) (by simp [stepS, h c (by simp)]), TR.pre_nil, tok_word q a (cur ++ [c]) (i + 1) r (fun x hx => h x (by simp [hx]))]
    simp only [List.append_assoc, List.cons_append, List.nil_append, List.length_cons, show i + 1 + q.length = i + (q.length + 1) by omega]
/-- No byte is both a word's and something else. -/
theorem word_not {c : UInt8} (h : wordB c = true) : blankB c = false ∧ signB c = false ∧ c ≠ 35 ∧ c ≠ 34 ∧ 32 ≤ c ∧ c ≤ 126 ∧ c ≠ 92 := by
  have : ∀ n, n < 256 → wordB (UInt8.ofNat n) = true → blankB (UInt8.ofNat n) = false ∧ signB (UInt8.ofNat n) = false ∧ UInt8.ofNat n ≠ 35 ∧ UInt8.ofNat n ≠ 34 ∧ 32 ≤ UInt8.ofNat n ∧ UInt8.ofNat n ≤ 126 ∧ UInt8.ofNat n ≠ 92 := by decide +kernel
  have e : UInt8.ofNat c.toNat = c := by simp
  have := this c.toNat c.toNat_lt
  rw [e] at this
  exact this h
theorem top_word {c : UInt8} (h : wordB c = true) (i : Nat) (r : Bs) : tokA .top i (c :: r) = tokA (.wrd i [c]) (i + 1) r := by
  obtain ⟨h1, h2, h3, h4, _⟩ := word_not h
  rw [tokA_inl (s' := .wrd i [c]) (ts := []) (by simp [stepS, startS, h, h1, h2, h3, h4]), TR.pre_nil]
/-- Behind a word, at a byte that is none of its own, one stands between signs. -/
theorem word_end {a : Nat} {cur : Bs} {i : Nat} {r : Bs} (h : ∀ c q, r = c :: q → wordB c = false) : tokA (.wrd a cur) i r = if 255 < cur.length then .bad 2 a else (tokA .top i r).pre [(2, cur, a)] := by
  cases r with
  | nil => simp only [tokA, endS]; split <;> rfl
  | cons c q =>
    have hw := h c q rfl
    rw [tokA, tokA]
    simp only [stepS, hw]
    by_cases hl : 255 < cur.length
    · simp [hl]
    · simp only [hl, Bool.false_eq_true, if_false]
      cases startS c i with
      | none => rfl
      | some x => obtain ⟨s', ts⟩ := x; simp only [TR.pre_pre]; rfl
/-- A word on the way. -/
theorem top_words {p : Bs} (hp : p ≠ []) (h : ∀ c ∈ p, wordB c = true) (i : Nat) (r : Bs) (hr : ∀ c q, r = c :: q → wordB c = false) :
    tokA .top i (p ++ r) = if 255 < p.length then .bad 2 i else (tokA .top (i + p.length) r).pre [(2, p, i)] := by
  cases p with
  | nil => exact absurd rfl hp
  | cons c q =>
    rw [List.cons_append, top_word (h c (by simp)), tok_word q i [c] (i + 1) r (fun x hx => h x (by simp [hx])), word_end hr]
    simp only [List.cons_append, List.nil_append, List.length_cons, show i + 1 + q.length = i + (q.length + 1) by omega]
/-- A comment to the line's end. -/
theorem tok_com : ∀ (p : Bs) (i : Nat) (r : Bs), 10 ∉ p → tokA .com i (p ++ r) = tokA .com (i + p.length) r
  | [], i, r, _ => by simp
  | c :: q, i, r, h => by
    simp at h
    rw [List.cons_append, tokA_inl (s' := .com) (ts := []) (by simp [stepS, Ne.symm h.1]), TR.pre_nil, tok_com q (i + 1) r h.2]
    simp only [List.length_cons, show i + 1 + q.length = i + (q.length + 1) by omega]
theorem com_end (i : Nat) (r : Bs) (h : ∀ c q, r = c :: q → c = 10) : tokA .com i r = tokA .top i r := by
  cases r with
  | nil => rfl
  | cons c q =>
    obtain rfl := h c q rfl
    rw [tok_blank (by decide), tokA_inl (s' := .top) (ts := []) (by simp [stepS]), TR.pre_nil]
theorem top_com (i : Nat) (r : Bs) : tokA .top i (35 :: r) = tokA .com (i + 1) r := by
  rw [tokA_inl (s' := .com) (ts := []) (by simp [stepS, startS, blankB]), TR.pre_nil]
theorem top_sign {c : UInt8} (h : signB c = true) (i : Nat) (r : Bs) : tokA .top i (c :: r) = (tokA .top (i + 1) r).pre [(4, [c], i)] := by
  have hb : blankB c = false ∧ c ≠ 35 := by
    simp only [signB, Bool.or_eq_true, beq_iff_eq] at h
    rcases h with ((h | h) | h) | h <;> subst h <;> decide
  rw [tokA_inl (s' := .top) (ts := [(4, [c], i)]) (by simp [stepS, startS, h, hb.1, hb.2])]
theorem top_txt (i : Nat) (r : Bs) : tokA .top i (34 :: r) = tokA (.txt i []) (i + 1) r := by
  rw [tokA_inl (s' := .txt i []) (ts := []) (by simp [stepS, startS, blankB, signB]), TR.pre_nil]
theorem top_bad {c : UInt8} (h1 : blankB c = false) (h2 : signB c = false) (h3 : c ≠ 35) (h4 : c ≠ 34) (h5 : wordB c = false) (i : Nat) (r : Bs) : tokA .top i (c :: r) = .bad 1 i := by
  rw [tokA_inr (k := 1) (a := i)]; simp [stepS, startS, h1, h2, h3, h4, h5]
/-- A text from behind its quote on: what it stands for and where it ends, or where it is wrong. -/
def txtG : Bs → Bs → Nat → (Bs × Nat) ⊕ Nat
  | _, [], i => .inr i
  | acc, c :: r, i => if c = 34 then .inl (acc, i + 1) else if c = 92 then (match r with | [] => .inr (i + 1) | d :: r' => if d = 34 ∨ d = 92 then txtG (acc ++ [d]) r' (i + 2) else .inr (i + 1)) else if c < 32 ∨ 126 < c then .inr i else txtG (acc ++ [c]) r (i + 1)
theorem txtG_le : ∀ (r : Bs) (acc : Bs) (i : Nat) (s : Bs) (k : Nat), txtG acc r i = .inl (s, k) → i < k ∧ k ≤ i + r.length
  | [], _, i, s, k, h => by simp [txtG] at h
  | [c], _, i, s, k, h => by
    unfold txtG at h
    split at h
    · cases h; simp
    · split at h
      · simp at h
      · split at h
        · cases h
        · have := txtG_le [] _ _ _ _ h; simp at this; omega
  | c :: d :: r', acc, i, s, k, h => by
    unfold txtG at h
    split at h
    · cases h; simp
    · split at h
      · simp only at h
        split at h
        · have := txtG_le r' _ _ _ _ h; simp; omega
        · cases h
      · split at h
        · cases h
        · have := txtG_le (d :: r') _ _ _ _ h; simp at this ⊢; omega
theorem tok_txt : ∀ (r : Bs) (a : Nat) (acc : Bs) (i : Nat), tokA (.txt a acc) i r = match txtG acc r i with
    | .inr x => .bad 1 x
    | .inl (s, k) => if 255 < s.length then .bad 2 a else (tokA .top k (r.drop (k - i))).pre [(3, s, a)]
  | [], a, acc, i => by simp [txtG, tokA, endS]
  | [c], a, acc, i => by
    unfold txtG
    by_cases h1 : c = 34
    · subst h1
      by_cases hl : 255 < acc.length <;> simp [tokA, stepS, hl]
    · by_cases h2 : c = 92
      · subst h2; simp [tokA, stepS, endS, TR.pre]
      · by_cases h3 : c < 32 ∨ 126 < c
        · simp [tokA, stepS, h1, h2, h3]
        · simp only [tokA, stepS, h1, h2, h3, if_false, endS, TR.pre, txtG]
  | c :: d :: r', a, acc, i => by
    rw [tokA]
    unfold txtG
    by_cases h1 : c = 34
    · subst h1
      by_cases hl : 255 < acc.length <;> simp [stepS, hl]
    · by_cases h2 : c = 92
      · subst h2
        have e : stepS (.txt a acc) 92 i = .inl (.esc a acc, []) := by simp [stepS]
        rw [e]
        simp only [TR.pre_nil, h1, if_false, if_true]
        rw [tokA]
        by_cases h3 : d = 34 ∨ d = 92
        · have e : stepS (.esc a acc) d (i + 1) = .inl (.txt a (acc ++ [d]), []) := by simp [stepS, h3]
          rw [e]
          simp only [TR.pre_nil, h3, if_true]
          rw [tok_txt r' a (acc ++ [d]) (i + 2)]
          cases hx : txtG (acc ++ [d]) r' (i + 2) with
          | inr x => rfl
          | inl x =>
            obtain ⟨s, k⟩ := x
            have := txtG_le _ _ _ _ _ hx
            simp only
            rw [show k - i = (k - (i + 2)) + 1 + 1 by omega]
            rfl
        · have e : stepS (.esc a acc) d (i + 1) = .inr (1, i + 1) := by simp [stepS, h3]
          rw [e]
          simp [h3]
      · by_cases h3 : c < 32 ∨ 126 < c
        · simp [stepS, h1, h2, h3]
        · have e : stepS (.txt a acc) c i = .inl (.txt a (acc ++ [c]), []) := by simp [stepS, h1, h2, h3]
          rw [e]
          simp only [TR.pre_nil, h1, h2, h3, if_false]
          rw [tok_txt (d :: r') a (acc ++ [c]) (i + 1)]
          cases hx : txtG (acc ++ [c]) (d :: r') (i + 1) with
          | inr x => rfl
          | inl x =>
            obtain ⟨s, k⟩ := x
            have := txtG_le _ _ _ _ _ hx
            simp only
            rw [show k - i = (k - (i + 1)) + 1 by omega]
            rfl
end Go.Proofs.YtfmanmidihofgaaDoor
