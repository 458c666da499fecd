/- Records, as mathematics: how they are told, and that what is told is read as it was. -/
import Derived.Test.YtfmanmidihofgaaDoorVm
namespace Go.Proofs.YtfmanmidihofgaaDoor

def dblU (c : UInt8) : Bs := if c = 34 then [34, 34] else [c]
def dblQ (s : Bs) : Bs := s.flatMap dblU
/-- Whether a byte wants quotes around its field. -/
def markB (c : UInt8) : Bool := c == 34 || c == 44 || c == 10 || c == 13
def needB (single : Bool) (s : Bs) : Bool := (s.isEmpty && single) || s.any markB
def fieldP (single : Bool) (s : Bs) : Bs := if needB single s then 34 :: (dblQ s ++ [34]) else s
def joinP (f : Bs → Bs) (row : List Bs) : Bs := (row.flatMap (fun s => 44 :: f s)).drop 1
def rowP (row : List Bs) : Bs := joinP (fieldP (row.length == 1)) row ++ [10]
def printV (rows : List (List Bs)) : Bs := rows.flatMap rowP
theorem joinP_nil (f : Bs → Bs) : joinP f [] = [] := rfl
theorem joinP_one (f : Bs → Bs) (s : Bs) : joinP f [s] = f s := by simp [joinP]
theorem joinP_cons (f : Bs → Bs) (s t : Bs) (q : List Bs) : joinP f (s :: t :: q) = f s ++ 44 :: joinP f (t :: q) := by simp [joinP]
theorem joinP_snoc (f : Bs → Bs) (row : List Bs) (s : Bs) : joinP f (row ++ [s]) = joinP f row ++ (if row = [] then [] else [44]) ++ f s := by
  cases row with
  | nil => simp [joinP]
  | cons a q => simp [joinP]
theorem printV_snoc (rows : List (List Bs)) (row : List Bs) : printV (rows ++ [row]) = printV rows ++ rowP row := by simp [printV]
theorem dblQ_snoc (s : Bs) (c : UInt8) : dblQ (s ++ [c]) = dblQ s ++ dblU c := by simp [dblQ]
/-- What is quoted is read as it was. -/
theorem qG_dbl : ∀ (s acc r : Bs) (i : Nat), (∀ c ∈ s, qokB c = true) → (∀ c q, r = c :: q → c ≠ 34) → qG acc (dblQ s ++ 34 :: r) i = .inl (acc ++ s, i + (dblQ s).length + 1)
  | [], acc, r, i, _, hr => by
    show qG acc (34 :: r) i = _
    unfold qG
    cases r with
    | nil => simp [dblQ]
    | cons d q => simp [hr d q rfl, dblQ]
  | c :: s, acc, r, i, h, hr => by
    have ih := fun acc i => qG_dbl s acc r i (fun x hx => h x (by simp [hx])) hr
    by_cases hc : c = 34
    · subst hc
      have e : dblQ (34 :: s) ++ 34 :: r = 34 :: 34 :: (dblQ s ++ 34 :: r) := by simp [dblQ, dblU]
      rw [e]
      conv => lhs; unfold qG
      simp only [if_true]
      rw [ih]
      simp [dblQ, dblU]; omega
    · have e : dblQ (c :: s) ++ 34 :: r = c :: (dblQ s ++ 34 :: r) := by simp [dblQ, dblU, hc]
      rw [e]
      conv => lhs; unfold qG
      rw [if_neg hc, if_pos (h c (by simp)), ih]
      simp [dblQ, dblU, hc]; omega
/-- A field that is read as it was told, whatever stands behind it. -/
def FieldOk (f : Bs → Bs) (s : Bs) : Prop := ∀ (row : List Tk) (i : Nat) (r : Bs), (∀ c q, r = c :: q → stopB c = true) → (f s ++ r ≠ [] ∨ row ≠ []) → recA (.beg row) i (f s ++ r) = recA (.aft (row ++ [(5, s, i)])) (i + (f s).length) r
theorem plain_ok {s : Bs} (h : ∀ c ∈ s, plainB c = true) (hl : s.length ≤ 255) : FieldOk (fun s => s) s := fun row i r hr hne => by
  show recA (.beg row) i (s ++ r) = _
  rw [beg_pln row i (s ++ r) (fun c q e => ?_) hne, pln_run s row i [] i r h, List.nil_append, pln_end _ _ _ _ _ hr, if_neg (Nat.not_lt.2 hl)]
  cases s with
  | nil => exact (stop_not (hr c q e)).2
  | cons a s => cases e; exact (plain_not (h c (by simp))).1
theorem field_ok {s : Bs} (single : Bool) (h : ∀ c ∈ s, qokB c = true) (hl : s.length ≤ 255) : FieldOk (fieldP single) s := fun row i r hr hne => by
  unfold fieldP at hne ⊢
  by_cases hn : needB single s = true
  · rw [if_pos hn]
    have e : 34 :: (dblQ s ++ [34]) ++ r = 34 :: (dblQ s ++ 34 :: r) := by simp
    rw [e, beg_quo, quo_q, qG_dbl s [] r (i + 1) h (fun c q e => (stop_not (hr c q e)).2)]
    simp only [List.nil_append, if_neg (Nat.not_lt.2 hl)]
    rw [show i + 1 + (dblQ s).length + 1 - (i + 1) = (dblQ s ++ [34]).length by simp; omega, show dblQ s ++ 34 :: r = (dblQ s ++ [34]) ++ r by simp, List.drop_left]
    simp only [List.length_cons, List.length_append, List.length_nil, show i + 1 + (dblQ s).length + 1 = i + ((dblQ s).length + (0 + 1) + 1) by omega]
  · rw [if_neg hn] at hne ⊢
    have hm : ∀ c ∈ s, plainB c = true := fun c hc => by
      have h1 : markB c = false := by
        have : s.any markB = false := by
          have hn' : needB single s = false := by simpa using hn
          unfold needB at hn'
          rw [Bool.or_eq_false_iff] at hn'
          exact hn'.2
        simpa using List.any_eq_false.1 this c hc
      have h2 := h c hc
      have : ∀ n, n < 256 → markB (UInt8.ofNat n) = false → qokB (UInt8.ofNat n) = true → plainB (UInt8.ofNat n) = true := by decide +kernel
      have e : UInt8.ofNat c.toNat = c := by simp
      have := this c.toNat c.toNat_lt
      rw [e] at this
      exact this h1 h2
    exact plain_ok hm hl row i r hr hne
/-- The signs of a row, where they stand. -/
def placesR (f : Bs → Bs) : Nat → List Bs → List Tk
  | _, [] => []
  | i, s :: q => (5, s, i) :: placesR f (i + (f s).length + 1) q
theorem placesR_len (f : Bs → Bs) : ∀ (i : Nat) (q : List Bs), (placesR f i q).length = q.length
  | _, [] => rfl
  | i, s :: q => by simp [placesR, placesR_len f _ q]
theorem placesR_get (f : Bs → Bs) : ∀ (q : List Bs) (i k : Nat) (s : Bs), q[k]? = some s → ∃ a, (placesR f i q)[k]? = some (5, s, a)
  | [], i, k, s, h => by simp at h
  | t :: q, i, 0, s, h => by simp at h; subst h; exact ⟨i, rfl⟩
  | t :: q, i, k + 1, s, h => by simpa [placesR] using placesR_get f q _ k s (by simpa using h)
theorem row_ok (f : Bs → Bs) : ∀ (q : List Bs) (row : List Tk) (i : Nat) (r : Bs), q ≠ [] → (∀ s ∈ q, FieldOk f s) → (∀ c t, r = c :: t → stopB c = true) → (joinP f q ++ r ≠ [] ∨ row ≠ []) → recA (.beg row) i (joinP f q ++ r) = recA (.aft (row ++ placesR f i q)) (i + (joinP f q).length) r
  | [], _, _, _, h, _, _, _ => absurd rfl h
  | [s], row, i, r, _, hf, hr, hne => by
    rw [joinP_one] at hne ⊢
    exact hf s (by simp) row i r hr hne
  | s :: t :: q, row, i, r, _, hf, hr, _ => by
    rw [joinP_cons]
    have e : f s ++ 44 :: joinP f (t :: q) ++ r = f s ++ (44 :: (joinP f (t :: q) ++ r)) := by simp
    rw [e, hf s (by simp) row i (44 :: (joinP f (t :: q) ++ r)) (fun c p h => by cases h; decide) (Or.inl (by simp)), aft_comma, row_ok f (t :: q) (row ++ [(5, s, i)]) _ r (by simp) (fun x hx => hf x (by simp at hx; simp [hx])) hr (Or.inr (by simp))]
    simp only [placesR, List.append_assoc, List.cons_append, List.nil_append, List.length_append, List.length_cons, show i + (f s).length + 1 + (joinP f (t :: q)).length = i + ((f s).length + ((joinP f (t :: q)).length + 1)) by omega]
/-- Rows, each with its own way of telling a field, and its own end. -/
def rendV (g : List Bs → Bs → Bs) (rows : List (List Bs × Bs)) : Bs := rows.flatMap (fun p => joinP (g p.1) p.1 ++ p.2)
def placesV (g : List Bs → Bs → Bs) : Nat → List (List Bs × Bs) → List (List Tk)
  | _, [] => []
  | i, p :: q => placesR (g p.1) i p.1 :: placesV g (i + (joinP (g p.1) p.1).length + p.2.length) q
def EndsOk : List (List Bs × Bs) → Prop
  | [] => True
  | p :: q => (p.2 = [10] ∨ p.2 = [13, 10] ∨ (q = [] ∧ p.2 = [])) ∧ EndsOk q
theorem rows_ok (g : List Bs → Bs → Bs) : ∀ (rows : List (List Bs × Bs)) (i : Nat), (∀ p ∈ rows, p.1 ≠ [] ∧ (joinP (g p.1) p.1 ++ p.2 ≠ []) ∧ ∀ s ∈ p.1, FieldOk (g p.1) s) → EndsOk rows → recA (.beg []) i (rendV g rows) = .ok (placesV g i rows)
  | [], i, _, _ => rfl
  | p :: q, i, h, he => by
    obtain ⟨h1, h2, h3⟩ := h p (by simp)
    have ih := fun j => rows_ok g q j (fun x hx => h x (by simp [hx])) he.2
    have e : rendV g (p :: q) = joinP (g p.1) p.1 ++ (p.2 ++ rendV g q) := by simp [rendV]
    rw [e]
    rcases he.1 with h5 | h5 | ⟨hq, h5⟩
    · rw [h5, row_ok (g p.1) p.1 [] i _ h1 h3 (fun c t e => by cases e; decide) (Or.inl (by simp)), List.cons_append, aft_lf, List.nil_append, List.nil_append, ih]
      simp only [placesV, h5, RR.pre, List.nil_append, List.cons_append, List.length_cons, List.length_nil]
    · rw [h5, row_ok (g p.1) p.1 [] i _ h1 h3 (fun c t e => by cases e; decide) (Or.inl (by simp)), List.cons_append, List.cons_append, aft_crlf, List.nil_append, List.nil_append, ih]
      simp only [placesV, h5, RR.pre, List.nil_append, List.cons_append, List.length_cons, List.length_nil]
    · subst hq
      have hj : joinP (g p.1) p.1 ≠ [] := by rw [h5, List.append_nil] at h2; exact h2
      rw [h5, row_ok (g p.1) p.1 [] i _ h1 h3 (fun c t e => by cases e) (Or.inl (by simp [hj])), List.nil_append]
      simp [placesV, rendV, aft_end]
theorem placesV_len (g : List Bs → Bs → Bs) : ∀ (i : Nat) (q : List (List Bs × Bs)), (placesV g i q).length = q.length
  | _, [] => rfl
  | i, p :: q => by simp [placesV, placesV_len g _ q]
theorem placesV_get (g : List Bs → Bs → Bs) : ∀ (q : List (List Bs × Bs)) (i j : Nat) (p : List Bs × Bs), q[j]? = some p → ∃ a, (placesV g i q)[j]? = some (placesR (g p.1) a p.1)
  | [], i, j, p, h => by simp at h
  | t :: q, i, 0, p, h => by simp at h; subst h; exact ⟨i, rfl⟩
  | t :: q, i, j + 1, p, h => by simpa [placesV] using placesV_get g q _ j p (by simpa using h)
/-- Records of bytes that may stand in them, told and read again. -/
theorem print_back (rows : List (List Bs)) (h : ∀ row ∈ rows, row ≠ [] ∧ ∀ s ∈ row, s.length ≤ 255 ∧ ∀ c ∈ s, qokB c = true) :
    ∃ L, recV (printV rows) = .ok L ∧ L.length = rows.length ∧ ∀ (j : Nat) (row : List Bs), rows[j]? = some row → ∃ o : List Tk, L[j]? = some o ∧ o.length = row.length ∧ ∀ (k : Nat) (s : Bs), row[k]? = some s → ∃ a, o[k]? = some (5, s, a) := by
  have hr : ∀ rows : List (List Bs), printV rows = rendV (fun row => fieldP (row.length == 1)) (rows.map fun row => (row, [10])) := by
    intro rows
    induction rows with
    | nil => rfl
    | cons a q ih =>
      have e1 : printV (a :: q) = rowP a ++ printV q := by simp [printV]
      rw [e1, ih]
      simp [rendV, rowP]
  have he : ∀ rows : List (List Bs), EndsOk (rows.map fun row => (row, [10])) := by
    intro rows
    induction rows with
    | nil => trivial
    | cons a q ih => exact ⟨Or.inl rfl, ih⟩
  have hk := rows_ok (fun row => fieldP (row.length == 1)) (rows.map fun row => (row, [10])) 0 (fun p hp => by
    obtain ⟨row, hrow, rfl⟩ := List.mem_map.1 hp
    obtain ⟨a, b⟩ := h row hrow
    exact ⟨a, by simp, fun s hs => field_ok _ (b s hs).2 (b s hs).1⟩) (he rows)
  refine ⟨_, by unfold recV; rw [hr]; exact hk, by rw [placesV_len]; simp, fun j row hj => ?_⟩
  obtain ⟨a, ha⟩ := placesV_get (fun row => fieldP (row.length == 1)) (rows.map fun row => (row, [10])) 0 j (row, [10]) (by rw [List.getElem?_map, hj]; rfl)
  exact ⟨_, ha, placesR_len _ _ _, fun k s hs => placesR_get _ _ _ _ _ hs⟩
end Go.Proofs.YtfmanmidihofgaaDoor
