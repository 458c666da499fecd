/- Lines of the third tongue, as mathematics: rows of a text, how they are told, and that what is told is read as it was. -/
import Derived.Test.YtfmanmidihofgaaDoorVn
import Derived.Test.YtfmanmidihofgaaDoorSm
namespace Go.Proofs.YtfmanmidihofgaaDoor

def keyB (c : UInt8) : Bool := (97 ≤ c && c ≤ 122) || c == 45
/-- A byte of a part. -/
def partB (c : UInt8) : Bool := prtB c && c != 44
/-- Parts, from a place on: the part's first byte, what of it is read, where one stands. -/
def partsA : Nat → Bs → Nat → Bs → List Tk ⊕ (Nat × Nat)
  | a, cur, _, [] => if 255 < cur.length then .inr (2, a) else .inl [(6, cur, a)]
  | a, cur, k, c :: r => if c = 44 then (if 255 < cur.length then .inr (2, a) else match partsA (k + 1) [] (k + 1) r with | .inl ts => .inl ((6, cur, a) :: ts) | .inr e => .inr e) else if prtB c then partsA a (cur ++ [c]) (k + 1) r else .inr (1, k)
/-- A row: its key, its parts, its place. -/
abbrev Rw := Bs × List Tk × Nat
def keyN (s : Bs) : Nat := (s.takeWhile keyB).length
def rowV (s : Bs) (a : Nat) : Rw ⊕ (Nat × Nat) :=
  if keyN s = 0 ∨ s[keyN s]? ≠ some 61 then .inr (1, a + keyN s) else match partsA (a + keyN s + 1) [] (a + keyN s + 1) (s.drop (keyN s + 1)) with | .inl ts => .inl (s.take (keyN s), ts, a) | .inr e => .inr e
/-- A line that does not count. -/
def skipB (s : Bs) : Bool := s.isEmpty || s.head? == some 35
inductive DR where
  | ok (l : List Rw)
  | bad (k a : Nat)
def DR.pre (ts : List Rw) : DR → DR
  | .ok l => .ok (ts ++ l)
  | .bad k a => .bad k a
theorem DR.pre_nil (r : DR) : r.pre [] = r := by cases r <;> rfl
theorem DR.pre_pre (a b : List Rw) (r : DR) : (r.pre b).pre a = r.pre (a ++ b) := by cases r <;> simp [DR.pre]
def rowsG : List (Bs × Nat) → DR
  | [] => .ok []
  | (s, a) :: q => if skipB s then rowsG q else match rowV s a with | .inr (k, x) => .bad k x | .inl r => (rowsG q).pre [r]
def rowsV (l : Bs) : DR := rowsG (linesV l)
/-- How rows are told. -/
def rowT (r : Rw) : Bs := r.1 ++ 61 :: joinP (fun s => s) (r.2.1.map fun t => t.2.1)
def printD (rows : List Rw) : Bs := rows.flatMap (fun r => rowT r ++ [10])
def okPart (t : Tk) : Prop := t.1 = 6 ∧ t.2.1.length ≤ 255 ∧ ∀ c ∈ t.2.1, partB c = true
def okRw (r : Rw) : Prop := r.1 ≠ [] ∧ (∀ c ∈ r.1, keyB c = true) ∧ r.2.1 ≠ [] ∧ ∀ t ∈ r.2.1, okPart t
theorem part_is {c : UInt8} (h : partB c = true) : prtB c = true ∧ c ≠ 44 ∧ c ≠ 10 ∧ c ≠ 13 := by
  have : ∀ n, n < 256 → partB (UInt8.ofNat n) = true → prtB (UInt8.ofNat n) = true ∧ UInt8.ofNat n ≠ 44 ∧ UInt8.ofNat n ≠ 10 ∧ UInt8.ofNat n ≠ 13 := by decide +kernel
  have e : UInt8.ofNat c.toNat = c := by simp
  have := this c.toNat c.toNat_lt
  rw [e] at this
  exact this h
theorem key_is {c : UInt8} (h : keyB c = true) : prtB c = true ∧ c ≠ 61 ∧ c ≠ 10 ∧ c ≠ 13 ∧ c ≠ 35 := by
  have : ∀ n, n < 256 → keyB (UInt8.ofNat n) = true → prtB (UInt8.ofNat n) = true ∧ UInt8.ofNat n ≠ 61 ∧ UInt8.ofNat n ≠ 10 ∧ UInt8.ofNat n ≠ 13 ∧ UInt8.ofNat n ≠ 35 := by decide +kernel
  have e : UInt8.ofNat c.toNat = c := by simp
  have := this c.toNat c.toNat_lt
  rw [e] at this
  exact this h
/-- Parts that are read are of the sixth kind, each not too long, and there is one at least. -/
theorem partsA_ok : ∀ (r : Bs) (a : Nat) (cur : Bs) (k : Nat) (ts : List Tk), (∀ c ∈ cur, partB c = true) → partsA a cur k r = .inl ts → ts ≠ [] ∧ ∀ t ∈ ts, okPart t
  | [], a, cur, k, ts, hc, h => by
    unfold partsA at h
    split at h
    · cases h
    · rename_i hl; cases h; exact ⟨by simp, fun t ht => by simp at ht; subst ht; exact ⟨rfl, Nat.le_of_not_lt hl, hc⟩⟩
  | c :: r, a, cur, k, ts, hc, h => by
    unfold partsA at h
    split at h
    · split at h
      · cases h
      · rename_i hl
        cases hx : partsA (k + 1) [] (k + 1) r with
        | inr e => rw [hx] at h; cases h
        | inl us =>
          rw [hx] at h; cases h
          obtain ⟨_, h2⟩ := partsA_ok r _ _ _ _ (by simp) hx
          exact ⟨by simp, fun t ht => by
            rcases List.mem_cons.1 ht with h3 | h3
            · subst h3; exact ⟨rfl, Nat.le_of_not_lt hl, hc⟩
            · exact h2 t h3⟩
    · rename_i h44
      split at h
      · rename_i hp
        exact partsA_ok r a (cur ++ [c]) (k + 1) ts (fun x hx => by
          rcases List.mem_append.1 hx with h3 | h3
          · exact hc x h3
          · simp at h3; subst h3; simp [partB, hp, h44]) h
      · cases h
theorem partsA_bad : ∀ (r : Bs) (a : Nat) (cur : Bs) (k : Nat) (q x : Nat), a + cur.length ≤ k → partsA a cur k r = .inr (q, x) → x ≤ k + r.length ∧ (q = 1 ∨ q = 2)
  | [], a, cur, k, q, x, hk, h => by
    unfold partsA at h
    split at h
    · cases h; exact ⟨by omega, Or.inr rfl⟩
    · cases h
  | c :: r, a, cur, k, q, x, hk, h => by
    unfold partsA at h
    split at h
    · split at h
      · cases h; exact ⟨by omega, Or.inr rfl⟩
      · cases hx : partsA (k + 1) [] (k + 1) r with
        | inl us => rw [hx] at h; cases h
        | inr e =>
          rw [hx] at h; cases h
          have := partsA_bad r (k + 1) [] (k + 1) q x (by simp) hx
          exact ⟨by simp; omega, this.2⟩
    · split at h
      · have := partsA_bad r a (cur ++ [c]) (k + 1) q x (by simp; omega) h
        exact ⟨by simp; omega, this.2⟩
      · cases h; exact ⟨by omega, Or.inl rfl⟩
theorem keyN_le (s : Bs) : keyN s ≤ s.length := (List.takeWhile_sublist _).length_le
theorem keyN_take (s : Bs) : s.take (keyN s) = s.takeWhile keyB := by
  unfold keyN
  have e : s.takeWhile keyB ++ s.dropWhile keyB = s := List.takeWhile_append_dropWhile
  conv => lhs; arg 2; rw [← e]
  rw [List.take_left]
theorem key_all : ∀ (s : Bs), ∀ c ∈ s.takeWhile keyB, keyB c = true
  | [], c, h => by simp at h
  | b :: s, c, h => by
    rw [List.takeWhile_cons] at h
    split at h
    · rename_i hb
      rcases List.mem_cons.1 h with h1 | h1
      · subst h1; exact hb
      · exact key_all s c h1
    · simp at h
theorem rowV_ok {s : Bs} {a : Nat} {r : Rw} (h : rowV s a = .inl r) : okRw r := by
  unfold rowV at h
  split at h
  · cases h
  · rename_i hc
    cases hx : partsA (a + keyN s + 1) [] (a + keyN s + 1) (s.drop (keyN s + 1)) with
    | inr e => rw [hx] at h; cases h
    | inl ts =>
      rw [hx] at h; cases h
      obtain ⟨h1, h2⟩ := partsA_ok _ _ _ _ _ (by simp) hx
      refine ⟨fun e => hc (Or.inl ?_), ?_, h1, h2⟩
      · have := congrArg List.length e
        rw [keyN_take] at this
        simpa [keyN] using this
      · show ∀ c ∈ s.take (keyN s), keyB c = true
        rw [keyN_take]; exact key_all s
theorem rowV_bad {s : Bs} {a k x : Nat} (h : rowV s a = .inr (k, x)) : x ≤ a + s.length ∧ (k = 1 ∨ k = 2) := by
  have hk := keyN_le s
  unfold rowV at h
  split at h
  · cases h; exact ⟨by omega, Or.inl rfl⟩
  · rename_i hc
    have hlt : keyN s < s.length := by
      rcases Nat.lt_or_ge (keyN s) s.length with h1 | h1
      · exact h1
      · exact absurd (Or.inr (by rw [List.getElem?_eq_none h1]; simp)) hc
    cases hx : partsA (a + keyN s + 1) [] (a + keyN s + 1) (s.drop (keyN s + 1)) with
    | inl ts => rw [hx] at h; cases h
    | inr e =>
      rw [hx] at h; cases h
      have := partsA_bad _ _ _ _ _ _ (by simp) hx
      rw [List.length_drop] at this
      exact ⟨by omega, this.2⟩
theorem linesG_at : ∀ (l cur : Bs) (a : Nat) (t : Bs) (n : Nat), (t, n) ∈ linesG cur a l → n + t.length ≤ a + cur.length + l.length
  | [], cur, a, t, n, h => by
    unfold linesG at h
    split at h
    · simp at h
    · simp at h; obtain ⟨rfl, rfl⟩ := h; simp
  | c :: r, cur, a, t, n, h => by
    unfold linesG at h
    split at h
    · rcases List.mem_cons.1 h with h1 | h1
      · cases h1; have := trimV_len cur; simp; omega
      · have := linesG_at r [] _ t n h1; simp at this ⊢; omega
    · have := linesG_at r _ _ t n h; simp at this ⊢; omega
theorem rowsG_ok : ∀ (q : List (Bs × Nat)) (L : List Rw), rowsG q = .ok L → ∀ r ∈ L, okRw r
  | [], L, h => by cases h; simp
  | (s, a) :: q, L, h => by
    unfold rowsG at h
    split at h
    · exact rowsG_ok q L h
    · cases hx : rowV s a with
      | inr e => obtain ⟨k, x⟩ := e; rw [hx] at h; cases h
      | inl r =>
        rw [hx] at h
        simp only at h
        cases hy : rowsG q with
        | bad k x => rw [hy] at h; cases h
        | ok M =>
          rw [hy] at h; cases h
          intro r' hr'
          rcases List.mem_append.1 hr' with h3 | h3
          · simp at h3; subst h3; exact rowV_ok hx
          · exact rowsG_ok q M hy r' h3
theorem rowsG_bad : ∀ (q : List (Bs × Nat)) (k x n : Nat), (∀ p ∈ q, p.2 + p.1.length ≤ n) → rowsG q = .bad k x → x ≤ n ∧ (k = 1 ∨ k = 2)
  | [], k, x, n, _, h => by cases h
  | (s, a) :: q, k, x, n, hn, h => by
    unfold rowsG at h
    split at h
    · exact rowsG_bad q k x n (fun p hp => hn p (by simp [hp])) h
    · cases hx : rowV s a with
      | inr e =>
        obtain ⟨k', x'⟩ := e; rw [hx] at h; cases h
        have := rowV_bad hx
        have h2 := hn (s, a) (by simp)
        exact ⟨by simp at h2; omega, this.2⟩
      | inl r =>
        rw [hx] at h
        simp only at h
        cases hy : rowsG q with
        | ok M => rw [hy] at h; cases h
        | bad k' x' => rw [hy] at h; cases h; exact rowsG_bad q k x n (fun p hp => hn p (by simp [hp])) hy
theorem rowsV_ok {l : Bs} {L : List Rw} (h : rowsV l = .ok L) : ∀ r ∈ L, okRw r := rowsG_ok _ L h
theorem rowsV_bad {l : Bs} {k x : Nat} (h : rowsV l = .bad k x) : x ≤ l.length ∧ (k = 1 ∨ k = 2) :=
  rowsG_bad (linesV l) k x l.length (fun p hp => by have := linesG_at l [] 0 p.1 p.2 hp; simpa using this) h
/-- One part on the way. -/
theorem parts_run : ∀ (p : Bs) (a : Nat) (cur : Bs) (k : Nat) (r : Bs), (∀ c ∈ p, partB c = true) → partsA a cur k (p ++ r) = partsA a (cur ++ p) (k + p.length) r
  | [], a, cur, k, r, _ => by simp
  | c :: q, a, cur, k, r, h => by
    obtain ⟨h1, h2, _⟩ := part_is (h c (by simp))
    rw [List.cons_append]
    conv => lhs; unfold partsA
    rw [if_neg h2, if_pos h1, parts_run q a (cur ++ [c]) (k + 1) r (fun x hx => h x (by simp [hx]))]
    simp only [List.append_assoc, List.cons_append, List.nil_append, List.length_cons, show k + 1 + q.length = k + (q.length + 1) by omega]
theorem parts_back : ∀ (q : List Bs) (a : Nat), q ≠ [] → (∀ s ∈ q, s.length ≤ 255 ∧ ∀ c ∈ s, partB c = true) → ∃ ts, partsA a [] a (joinP (fun s => s) q) = .inl ts ∧ ts.map (fun t => t.2.1) = q
  | [], _, h, _ => absurd rfl h
  | [s], a, _, h => by
    obtain ⟨h1, h2⟩ := h s (by simp)
    rw [joinP_one]
    have := parts_run s a [] a [] h2
    rw [List.append_nil, List.nil_append] at this
    rw [this]
    exact ⟨[(6, s, a)], by simp [partsA, h1], rfl⟩
  | s :: t :: q, a, _, h => by
    obtain ⟨h1, h2⟩ := h s (by simp)
    obtain ⟨ts, h3, h4⟩ := parts_back (t :: q) (a + s.length + 1) (by simp) (fun x hx => h x (by simp at hx; simp [hx]))
    rw [joinP_cons, parts_run s a [] a _ h2, List.nil_append]
    refine ⟨(6, s, a) :: ts, ?_, by simp [h4]⟩
    conv => lhs; unfold partsA
    rw [if_pos rfl, if_neg (by omega), h3]
theorem key_run : ∀ (k : Bs) (r : Bs), (∀ c ∈ k, keyB c = true) → (k ++ 61 :: r).takeWhile keyB = k
  | [], r, _ => by rw [List.nil_append, List.takeWhile_cons, if_neg (by decide)]
  | c :: k, r, h => by rw [List.cons_append, List.takeWhile_cons, if_pos (h c (by simp)), key_run k r (fun x hx => h x (by simp [hx]))]
/-- Rows that say the same, but for places. -/
def SameRw (r s : Rw) : Prop := r.1 = s.1 ∧ r.2.1.map (fun t => t.2.1) = s.2.1.map (fun t => t.2.1)
theorem row_back {r : Rw} (h : okRw r) (a : Nat) : ∃ s, rowV (rowT r) a = .inl s ∧ SameRw r s := by
  obtain ⟨h1, h2, h3, h4⟩ := h
  have hk : keyN (rowT r) = r.1.length := by unfold keyN rowT; rw [key_run _ _ h2]
  have hg : (rowT r)[r.1.length]? = some 61 := by unfold rowT; simp
  obtain ⟨ts, h5, h6⟩ := parts_back (r.2.1.map fun t => t.2.1) (a + r.1.length + 1) (by simpa using h3) (fun s hs => by
    obtain ⟨t, ht, rfl⟩ := List.mem_map.1 hs
    exact (h4 t ht).2)
  refine ⟨(r.1, ts, a), ?_, rfl, h6.symm⟩
  unfold rowV
  rw [hk, if_neg (fun e => by
    rcases e with e | e
    · exact h1 (List.length_eq_zero_iff.1 e)
    · exact e hg)]
  have hd : (rowT r).drop (r.1.length + 1) = joinP (fun s => s) (r.2.1.map fun t => t.2.1) := by
    unfold rowT
    rw [show r.1 ++ 61 :: joinP (fun s => s) (r.2.1.map fun t => t.2.1) = (r.1 ++ [61]) ++ joinP (fun s => s) (r.2.1.map fun t => t.2.1) by simp, show r.1.length + 1 = (r.1 ++ [61]).length by simp, List.drop_left]
  have ht : (rowT r).take r.1.length = r.1 := by unfold rowT; rw [List.take_left]
  rw [hd, h5, ht]
theorem join_mem {f : Bs → Bs} {q : List Bs} {c : UInt8} (h : c ∈ joinP f q) : c = 44 ∨ ∃ s ∈ q, c ∈ f s := by
  have := List.mem_of_mem_drop h
  simp only [List.mem_flatMap, List.mem_cons] at this
  obtain ⟨s, hs, h1⟩ := this
  rcases h1 with h1 | h1
  · exact Or.inl h1
  · exact Or.inr ⟨s, hs, h1⟩
theorem rowT_line {r : Rw} (h : okRw r) : 10 ∉ rowT r ∧ trimV (rowT r) = rowT r ∧ skipB (rowT r) = false := by
  obtain ⟨h1, h2, h3, h4⟩ := h
  have hc : ∀ c ∈ rowT r, c ≠ 10 ∧ c ≠ 13 := fun c hc => by
    unfold rowT at hc
    rcases List.mem_append.1 hc with h5 | h5
    · have := key_is (h2 c h5); exact ⟨this.2.2.1, this.2.2.2.1⟩
    · rcases List.mem_cons.1 h5 with h6 | h6
      · subst h6; decide
      · rcases join_mem h6 with h7 | ⟨s, hs, h7⟩
        · subst h7; decide
        · obtain ⟨t, ht, rfl⟩ := List.mem_map.1 hs
          exact (part_is ((h4 t ht).2.2 c h7)).2.2
  refine ⟨fun e => (hc 10 e).1 rfl, ?_, ?_⟩
  · rcases trimV_cases (rowT r) with h5 | h5
    · exact h5.1
    · exact absurd rfl (hc 13 (by rw [h5]; simp)).2
  · cases hk : r.1 with
    | nil => exact absurd hk h1
    | cons a q =>
      have := (key_is (h2 a (by rw [hk]; simp))).2.2.2.2
      unfold skipB rowT
      rw [hk]
      simp [this]
/-- Rows told, behind them anything. -/
theorem rows_print : ∀ (rows : List Rw) (i : Nat) (rest : Bs), (∀ r ∈ rows, okRw r) → ∃ L, L.length = rows.length ∧ (∀ (j : Nat) (r : Rw), rows[j]? = some r → ∃ s, L[j]? = some s ∧ SameRw r s) ∧ rowsG (linesG [] i (printD rows ++ rest)) = (rowsG (linesG [] (i + (printD rows).length) rest)).pre L
  | [], i, rest, _ => ⟨[], rfl, fun j r h => by simp at h, by rw [DR.pre_nil]; simp [printD]⟩
  | r :: q, i, rest, h => by
    have hr := h r (by simp)
    obtain ⟨h1, h2, h3⟩ := rowT_line hr
    obtain ⟨s, h4, h5⟩ := row_back hr i
    obtain ⟨L, h6, h7, h8⟩ := rows_print q (i + (rowT r).length + 1) rest (fun x hx => h x (by simp [hx]))
    refine ⟨s :: L, by simp [h6], fun j x hj => ?_, ?_⟩
    · cases j with
      | zero => simp at hj; subst hj; exact ⟨s, rfl, h5⟩
      | succ j => simpa using h7 j x (by simpa using hj)
    · have e : printD (r :: q) ++ rest = rowT r ++ 10 :: (printD q ++ rest) := by simp [printD]
      rw [e, linesG_cut _ [] i _ h1, List.nil_append, h2]
      conv => lhs; unfold rowsG
      rw [if_neg (by simp [h3]), h4]
      simp only
      rw [h8, DR.pre_pre]
      have e2 : (printD (r :: q)).length = (rowT r).length + 1 + (printD q).length := by
        unfold printD; rw [List.flatMap_cons, List.length_append, List.length_append]; rfl
      rw [e2, show i + (rowT r).length + 1 + (printD q).length = i + ((rowT r).length + 1 + (printD q).length) by omega]
      rfl
/-- Empty lines and a comment between rows turn nothing. -/
theorem lines_mid (i : Nat) (rest : Bs) : rowsG (linesG [] i ([10, 35, 32, 97, 61, 98, 10, 10] ++ rest)) = rowsG (linesG [] (i + 8) rest) := by
  have e : [10, 35, 32, 97, 61, 98, 10, 10] ++ rest = [] ++ 10 :: ([35, 32, 97, 61, 98] ++ 10 :: ([] ++ 10 :: rest)) := rfl
  rw [e, linesG_cut [] [] i _ (by simp), linesG_cut [35, 32, 97, 61, 98] [] _ _ (by decide), linesG_cut [] [] _ _ (by simp)]
  simp only [rowsG, List.append_nil, List.length_nil, List.nil_append, List.length_cons]
  rw [if_pos (by decide), if_pos (by decide), if_pos (by decide)]
/-- Rows told in two pieces, with empty lines and a comment between, are read as they were. -/
theorem back_all (x : List Rw) (k : Nat) (h : ∀ r ∈ x, okRw r) : ∃ L, rowsV (printD (x.take k) ++ [10, 35, 32, 97, 61, 98, 10, 10] ++ printD (x.drop k)) = .ok L ∧ L.length = x.length ∧ ∀ (j : Nat) (r : Rw), x[j]? = some r → ∃ s, L[j]? = some s ∧ SameRw r s := by
  obtain ⟨L1, a1, a2, a3⟩ := rows_print (x.take k) 0 ([10, 35, 32, 97, 61, 98, 10, 10] ++ (printD (x.drop k) ++ [])) (fun r hr => h r (List.mem_of_mem_take hr))
  obtain ⟨L2, b1, b2, b3⟩ := rows_print (x.drop k) (0 + (printD (x.take k)).length + 8) [] (fun r hr => h r (List.mem_of_mem_drop hr))
  refine ⟨L1 ++ L2, ?_, by rw [List.length_append, a1, b1, List.length_take, List.length_drop]; omega, fun j r hj => ?_⟩
  · unfold rowsV linesV
    rw [show printD (x.take k) ++ [10, 35, 32, 97, 61, 98, 10, 10] ++ printD (x.drop k) = printD (x.take k) ++ ([10, 35, 32, 97, 61, 98, 10, 10] ++ (printD (x.drop k) ++ [])) by simp, a3, lines_mid, b3]
    simp [linesG, rowsG, DR.pre]
  · have hlt := (List.getElem?_eq_some_iff.1 hj).1
    by_cases hjk : j < k
    · obtain ⟨s, h1, h2⟩ := a2 j r (by rw [List.getElem?_take_of_lt hjk]; exact hj)
      exact ⟨s, by rw [List.getElem?_append_left (by rw [a1, List.length_take]; omega)]; exact h1, h2⟩
    · obtain ⟨s, h1, h2⟩ := b2 (j - k) r (by rw [List.getElem?_drop, show k + (j - k) = j by omega]; exact hj)
      exact ⟨s, by rw [List.getElem?_append_right (by rw [a1, List.length_take]; omega), a1, List.length_take, show min k x.length = k by omega]; exact h1, h2⟩
end Go.Proofs.YtfmanmidihofgaaDoor
