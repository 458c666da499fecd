/- Records of a text, as mathematics on lists of bytes: one byte after the other. -/
import Derived.Test.YtfmanmidihofgaaDoorTn
namespace Go.Proofs.YtfmanmidihofgaaDoor

/-- Records, or what is wrong: its kind and its place. -/
inductive RR where
  | ok (l : List (List Tk))
  | bad (k a : Nat)
def RR.pre (ts : List (List Tk)) : RR → RR
  | .ok l => .ok (ts ++ l)
  | .bad k a => .bad k a
theorem RR.pre_nil (r : RR) : r.pre [] = r := by cases r <;> rfl
theorem RR.pre_pre (a b : List (List Tk)) (r : RR) : (r.pre b).pre a = r.pre (a ++ b) := by cases r <;> simp [RR.pre]
/-- A byte of a field that is not in quotes; one of a field in quotes; one that ends a field. -/
def plainB (c : UInt8) : Bool := prtB c && c != 34 && c != 44
def qokB (c : UInt8) : Bool := prtB c || c == 10 || c == 13
def stopB (c : UInt8) : Bool := c == 44 || c == 10 || c == 13
/-- Where one stands: ahead of a field (behind those of its record), in one, in one in quotes, behind a quote in it, behind a field, behind a 13. -/
inductive SC where
  | beg (row : List Tk)
  | pln (row : List Tk) (a : Nat) (cur : Bs)
  | quo (row : List Tk) (a : Nat) (cur : Bs)
  | qnd (row : List Tk) (a : Nat) (cur : Bs)
  | aft (row : List Tk)
  | cr
def aftS (row : List Tk) (c : UInt8) (i : Nat) : (SC × List (List Tk)) ⊕ (Nat × Nat) :=
  if c = 44 then .inl (.beg row, []) else if c = 10 then .inl (.beg [], [row]) else if c = 13 then .inl (.cr, [row]) else .inr (1, i)
/-- One byte. -/
def stepC (s : SC) (c : UInt8) (i : Nat) : (SC × List (List Tk)) ⊕ (Nat × Nat) :=
  match s with
  | .beg row => if c = 34 then .inl (.quo row i [], []) else if plainB c then .inl (.pln row i [c], []) else aftS (row ++ [(5, [], i)]) c i
  | .pln row a cur => if plainB c then .inl (.pln row a (cur ++ [c]), []) else if stopB c then (if 255 < cur.length then .inr (2, a) else aftS (row ++ [(5, cur, a)]) c i) else .inr (1, i)
  | .quo row a cur => if c = 34 then .inl (.qnd row a cur, []) else if qokB c then .inl (.quo row a (cur ++ [c]), []) else .inr (1, i)
  | .qnd row a cur => if c = 34 then .inl (.quo row a (cur ++ [34]), []) else if 255 < cur.length then .inr (2, a) else aftS (row ++ [(5, cur, a)]) c i
  | .aft row => aftS row c i
  | .cr => if c = 10 then .inl (.beg [], []) else .inr (1, i)
def endC (s : SC) (i : Nat) : RR :=
  match s with
  | .beg row => if row = [] then .ok [] else .ok [row ++ [(5, [], i)]]
  | .pln row a cur => if 255 < cur.length then .bad 2 a else .ok [row ++ [(5, cur, a)]]
  | .quo _ _ _ => .bad 1 i
  | .qnd row a cur => if 255 < cur.length then .bad 2 a else .ok [row ++ [(5, cur, a)]]
  | .aft row => .ok [row]
  | .cr => .bad 1 i
def recA : SC → Nat → Bs → RR
  | s, i, [] => endC s i
  | s, i, c :: r => match stepC s c i with
    | .inl (s', ts) => (recA s' (i + 1) r).pre ts
    | .inr (k, a) => .bad k a
def recV (l : Bs) : RR := recA (.beg []) 0 l
theorem recA_inl {s s' : SC} {c : UInt8} {i : Nat} {ts : List (List Tk)} (h : stepC s c i = .inl (s', ts)) (r : Bs) : recA s i (c :: r) = (recA s' (i + 1) r).pre ts := by rw [recA, h]
theorem recA_inr {s : SC} {c : UInt8} {i : Nat} {k a : Nat} (h : stepC s c i = .inr (k, a)) (r : Bs) : recA s i (c :: r) = .bad k a := by rw [recA, h]
theorem recA_step {s t : SC} {c : UInt8} {i : Nat} (h : stepC s c i = stepC t c i) (r : Bs) : recA s i (c :: r) = recA t i (c :: r) := by rw [recA, recA, h]
theorem plain_not {c : UInt8} (h : plainB c = true) : c ≠ 34 ∧ c ≠ 44 ∧ c ≠ 10 ∧ c ≠ 13 ∧ stopB c = false ∧ qokB c = true := by
  have : ∀ n, n < 256 → plainB (UInt8.ofNat n) = true → UInt8.ofNat n ≠ 34 ∧ UInt8.ofNat n ≠ 44 ∧ UInt8.ofNat n ≠ 10 ∧ UInt8.ofNat n ≠ 13 ∧ stopB (UInt8.ofNat n) = false ∧ qokB (UInt8.ofNat n) = true := by decide +kernel
  have e : UInt8.ofNat c.toNat = c := by simp
  have := this c.toNat c.toNat_lt
  rw [e] at this
  exact this h
theorem stop_is {c : UInt8} (h : stopB c = true) : c = 44 ∨ c = 10 ∨ c = 13 := by simpa [stopB, or_assoc] using h
theorem stop_not {c : UInt8} (h : stopB c = true) : plainB c = false ∧ c ≠ 34 := by rcases stop_is h with rfl | rfl | rfl <;> decide
theorem aftS_bad {c : UInt8} (h : stopB c = false) (row : List Tk) (i : Nat) : aftS row c i = .inr (1, i) := by
  simp [stopB] at h; simp [aftS, h]
/-- Behind a field. -/
theorem aft_comma (row : List Tk) (i : Nat) (r : Bs) : recA (.aft row) i (44 :: r) = recA (.beg row) (i + 1) r := by
  rw [recA_inl (s' := .beg row) (ts := []) (by simp [stepC, aftS]), RR.pre_nil]
theorem aft_lf (row : List Tk) (i : Nat) (r : Bs) : recA (.aft row) i (10 :: r) = (recA (.beg []) (i + 1) r).pre [row] := by
  rw [recA_inl (s' := .beg []) (ts := [row]) (by simp [stepC, aftS])]
theorem aft_crlf (row : List Tk) (i : Nat) (r : Bs) : recA (.aft row) i (13 :: 10 :: r) = (recA (.beg []) (i + 2) r).pre [row] := by
  rw [recA_inl (s' := .cr) (ts := [row]) (by simp [stepC, aftS]), recA_inl (s' := .beg []) (ts := []) (by simp [stepC]), RR.pre_nil]
theorem aft_cr (row : List Tk) (i : Nat) (r : Bs) (h : ∀ c q, r = c :: q → c ≠ 10) : recA (.aft row) i (13 :: r) = .bad 1 (i + 1) := by
  rw [recA_inl (s' := .cr) (ts := [row]) (by simp [stepC, aftS])]
  cases r with
  | nil => rfl
  | cons c q => rw [recA_inr (k := 1) (a := i + 1) (by simp [stepC, h c q rfl])]; rfl
theorem aft_end (row : List Tk) (i : Nat) : recA (.aft row) i [] = .ok [row] := rfl
/-- A field that is not in quotes. -/
theorem pln_run : ∀ (p : Bs) (row : List Tk) (a : Nat) (cur : Bs) (i : Nat) (r : Bs), (∀ c ∈ p, plainB c = true) → recA (.pln row a cur) i (p ++ r) = recA (.pln row a (cur ++ p)) (i + p.length) r
  | [], row, a, cur, i, r, _ => by simp
  | c :: q, row, a, cur, i, r, h => by
    rw [List.cons_append, recA_inl (s' := .pln row a (cur ++ [c])) (ts := []) (by simp [stepC, h c (by simp)]), RR.pre_nil, pln_run q row a (cur ++ [c]) (i + 1) r (fun x hx => h x (by simp [hx]))]
    simp only [List.append_assoc, List.cons_append, List.nil_append, List.length_cons, show i + 1 + q.length = i + (q.length + 1) by omega]
theorem beg_pln (row : List Tk) (i : Nat) (r : Bs) (h : ∀ c q, r = c :: q → c ≠ 34) (hne : r ≠ [] ∨ row ≠ []) : recA (.beg row) i r = recA (.pln row i []) i r := by
  cases r with
  | nil =>
    have : row ≠ [] := by rcases hne with h | h; exact absurd rfl h; exact h
    simp [recA, endC, this]
  | cons c q =>
    apply recA_step
    have hc := h c q rfl
    by_cases hp : plainB c = true
    · simp [stepC, hc, hp]
    · by_cases hs : stopB c = true
      · simp [stepC, hc, hp, hs]
      · have hs' : stopB c = false := by simpa using hs
        have e : stepC (.beg row) c i = aftS (row ++ [(5, [], i)]) c i := by simp [stepC, hc, hp]
        have e2 : stepC (.pln row i []) c i = .inr (1, i) := by simp [stepC, hp, hs']
        rw [e, e2]
        exact aftS_bad hs' _ _
/-- Its end: at a byte that ends it, or at the text's end; or at one that can't stand there. -/
theorem pln_end (row : List Tk) (a : Nat) (cur : Bs) (i : Nat) (r : Bs) (h : ∀ c q, r = c :: q → stopB c = true) : recA (.pln row a cur) i r = if 255 < cur.length then .bad 2 a else recA (.aft (row ++ [(5, cur, a)])) i r := by
  cases r with
  | nil => rfl
  | cons c q =>
    have hs := h c q rfl
    obtain ⟨hp, _⟩ := stop_not hs
    by_cases hl : 255 < cur.length
    · rw [if_pos hl, recA_inr (k := 2) (a := a) (by simp [stepC, hp, hs, hl])]
    · rw [if_neg hl]
      apply recA_step
      simp [stepC, hp, hs, hl]
theorem pln_bad (row : List Tk) (a : Nat) (cur : Bs) (i : Nat) (c : UInt8) (q : Bs) (hp : plainB c = false) (hs : stopB c = false) : recA (.pln row a cur) i (c :: q) = .bad 1 i := by
  rw [recA_inr (k := 1) (a := i) (by simp [stepC, hp, hs])]
/-- A field in quotes, from behind its quote on: what it stands for and where it ends, or where it is wrong. -/
def qG : Bs → Bs → Nat → (Bs × Nat) ⊕ Nat
  | _, [], i => .inr i
  | acc, c :: r, i => if c = 34 then (match r with | [] => .inl (acc, i + 1) | d :: r' => if d = 34 then qG (acc ++ [34]) r' (i + 2) else .inl (acc, i + 1)) else if qokB c then qG (acc ++ [c]) r (i + 1) else .inr i
theorem qG_le : ∀ (r : Bs) (acc : Bs) (i : Nat) (s : Bs) (k : Nat), qG acc r i = .inl (s, k) → i < k ∧ k ≤ i + r.length ∧ s.length ≤ acc.length + r.length
  | [], _, i, s, k, h => by simp [qG] at h
  | [c], acc, i, s, k, h => by
    unfold qG at h
    split at h
    · cases h; simp
    · split at h
      · have := qG_le [] _ _ _ _ h; simp at this ⊢; omega
      · cases h
  | c :: d :: r', acc, i, s, k, h => by
    unfold qG at h
    split at h
    · simp only at h
      split at h
      · have := qG_le r' _ _ _ _ h; simp at this ⊢; omega
      · cases h; simp
    · split at h
      · have := qG_le (d :: r') _ _ _ _ h; simp at this ⊢; omega
      · cases h
theorem qnd_end (row : List Tk) (a : Nat) (cur : Bs) (i : Nat) (r : Bs) (h : ∀ c q, r = c :: q → c ≠ 34) : recA (.qnd row a cur) i r = if 255 < cur.length then .bad 2 a else recA (.aft (row ++ [(5, cur, a)])) i r := by
  cases r with
  | nil => rfl
  | cons c q =>
    have hc := h c q rfl
    by_cases hl : 255 < cur.length
    · rw [if_pos hl, recA_inr (k := 2) (a := a) (by simp [stepC, hc, hl])]
    · rw [if_neg hl]
      apply recA_step
      simp [stepC, hc, hl]
theorem quo_q : ∀ (r : Bs) (row : List Tk) (a : Nat) (acc : Bs) (i : Nat), recA (.quo row a acc) i r = match qG acc r i with
    | .inr x => .bad 1 x
    | .inl (s, k) => if 255 < s.length then .bad 2 a else recA (.aft (row ++ [(5, s, a)])) k (r.drop (k - i))
  | [], row, a, acc, i => by simp [qG, recA, endC]
  | [c], row, a, acc, i => by
    unfold qG
    by_cases h1 : c = 34
    · subst h1
      rw [recA_inl (s' := .qnd row a acc) (ts := []) (by simp [stepC]), RR.pre_nil, qnd_end _ _ _ _ _ (fun c q e => by cases e)]
      simp
    · by_cases h3 : qokB c = true
      · rw [recA_inl (s' := .quo row a (acc ++ [c])) (ts := []) (by simp [stepC, h1, h3]), RR.pre_nil]
        simp [h1, h3, qG, recA, endC]
      · rw [recA_inr (k := 1) (a := i) (by simp [stepC, h1, h3])]
        simp [h1, h3]
  | c :: d :: r', row, a, acc, i => by
    unfold qG
    by_cases h1 : c = 34
    · subst h1
      rw [recA_inl (s' := .qnd row a acc) (ts := []) (by simp [stepC]), RR.pre_nil]
      by_cases h2 : d = 34
      · subst h2
        rw [recA_inl (s' := .quo row a (acc ++ [34])) (ts := []) (by simp [stepC]), RR.pre_nil, quo_q r' row a (acc ++ [34]) (i + 1 + 1)]
        simp only [if_true]
        cases hx : qG (acc ++ [34]) r' (i + 2) with
        | inr x => rfl
        | inl x =>
          obtain ⟨s, k⟩ := x
          have := qG_le _ _ _ _ _ hx
          simp only
          rw [show k - i = (k - (i + 2)) + 1 + 1 by omega]
          rfl
      · rw [qnd_end _ _ _ _ _ (fun c q e => by cases e; exact h2)]
        simp [h2]
    · by_cases h3 : qokB c = true
      · rw [recA_inl (s' := .quo row a (acc ++ [c])) (ts := []) (by simp [stepC, h1, h3]), RR.pre_nil, quo_q (d :: r') row a (acc ++ [c]) (i + 1)]
        simp only [h1, h3, if_true, if_false]
        cases hx : qG (acc ++ [c]) (d :: r') (i + 1) with
        | inr x => rfl
        | inl x =>
          obtain ⟨s, k⟩ := x
          have := qG_le _ _ _ _ _ hx
          simp only
          rw [show k - i = (k - (i + 1)) + 1 by omega]
          rfl
      · rw [recA_inr (k := 1) (a := i) (by simp [stepC, h1, h3])]
        simp [h1, h3]
theorem beg_quo (row : List Tk) (i : Nat) (r : Bs) : recA (.beg row) i (34 :: r) = recA (.quo row i []) (i + 1) r := by
  rw [recA_inl (s' := .quo row i []) (ts := []) (by simp [stepC]), RR.pre_nil]
end Go.Proofs.YtfmanmidihofgaaDoor
