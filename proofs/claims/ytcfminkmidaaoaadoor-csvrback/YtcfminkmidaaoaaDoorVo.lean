/- Records, as mathematics: long fields, and where fields of records with either end stand. -/
import Derived.Test.YtcfminkmidaaoaaDoorVn
namespace Go.Proofs.YtcfminkmidaaoaaDoor

def longA (n : Nat) : Bs := List.replicate n 97
theorem longA_len (n : Nat) : (longA n).length = n := by simp [longA]
theorem longA_snoc (n : Nat) : longA (n + 1) = longA n ++ [97] := by simp [longA, List.replicate_succ']
theorem longA_mem {n : Nat} {c : UInt8} (h : c ∈ longA n) : c = 97 := by simp [longA] at h; exact h.2
theorem longA_plain (n : Nat) : ∀ c ∈ longA n, plainB c = true := fun c h => by rw [longA_mem h]; decide
theorem longA_qok (n : Nat) : ∀ c ∈ longA n, qokB c = true := fun c h => by rw [longA_mem h]; decide
theorem longA_dbl (n : Nat) : dblQ (longA n) = longA n := by
  induction n with
  | zero => rfl
  | succ n ih => rw [longA_snoc, dblQ_snoc, ih]; rfl
theorem head_x (r : Bs) : recV (120 :: 44 :: r) = recA (.beg [(5, [120], 0)]) 2 r := by
  unfold recV
  have h := plain_ok (s := [120]) (by decide) (by decide) [] 0 (44 :: r) (fun c q e => by cases e; decide) (Or.inl (by simp))
  have h' : recA (.beg []) 0 (120 :: 44 :: r) = recA (.aft ([] ++ [(5, [120], 0)])) (0 + 1) (44 :: r) := h
  rw [h', aft_comma]; rfl
theorem long_pln (n : Nat) : recV ([120, 44] ++ longA n ++ [10]) = if 255 < n then .bad 2 2 else .ok [[(5, [120], 0), (5, longA n, 2)]] := by
  show recV (120 :: 44 :: (longA n ++ [10])) = _
  rw [head_x, beg_pln _ _ _ (fun c q e => ?_) (Or.inl (by simp)), pln_run _ _ _ _ _ _ (longA_plain n), List.nil_append, pln_end _ _ _ _ _ (fun c q e => by cases e; decide), longA_len]
  · by_cases hn : 255 < n
    · rw [if_pos hn, if_pos hn]
    · rw [if_neg hn, if_neg hn, aft_lf]; rfl
  · cases n with
    | zero => cases e; decide
    | succ n => simp [longA, List.replicate_succ] at e; rw [← e.1]; decide
theorem long_quo (n : Nat) : recV ([120, 44] ++ (34 :: (longA n ++ [34])) ++ [10]) = if 255 < n then .bad 2 2 else .ok [[(5, [120], 0), (5, longA n, 2)]] := by
  have e : [120, 44] ++ (34 :: (longA n ++ [34])) ++ [10] = 120 :: 44 :: 34 :: (dblQ (longA n) ++ 34 :: [10]) := by rw [longA_dbl]; simp
  rw [e, head_x, beg_quo, quo_q, qG_dbl _ _ _ _ (longA_qok n) (fun c q e => by cases e; decide)]
  simp only [List.nil_append, longA_dbl, longA_len]
  by_cases hn : 255 < n
  · rw [if_pos hn, if_pos hn]
  · rw [if_neg hn, if_neg hn, show 2 + 1 + n + 1 - (2 + 1) = (longA n ++ [34]).length by simp [longA]; omega, show longA n ++ 34 :: [10] = (longA n ++ [34]) ++ [10] by simp, List.drop_left, aft_lf]; rfl
theorem sits_row (full : Bs) : ∀ (q : List Bs) (i : Nat) (r : Bs), full.drop i = joinP (fun s => s) q ++ r → i ≤ full.length → ∀ (k : Nat) (s : Bs), q[k]? = some s → ∃ a, (placesR (fun s => s) i q)[k]? = some (5, s, a) ∧ a + s.length ≤ full.length ∧ (full.drop a).take s.length = s
  | [], i, r, _, _, k, s, h => by simp at h
  | [t], i, r, hf, hi, 0, s, h => by
    simp at h; subst h
    rw [joinP_one] at hf
    have hl := congrArg List.length hf
    rw [List.length_drop, List.length_append] at hl
    exact ⟨i, rfl, by omega, by rw [hf, List.take_left]⟩
  | [t], i, r, hf, hi, k + 1, s, h => by simp at h
  | t :: u :: q, i, r, hf, hi, 0, s, h => by
    simp at h; subst h
    rw [joinP_cons] at hf
    have hl := congrArg List.length hf
    simp only [List.length_drop, List.length_append, List.length_cons] at hl
    exact ⟨i, rfl, by omega, by rw [hf, List.append_assoc, List.take_left]⟩
  | t :: u :: q, i, r, hf, hi, k + 1, s, h => by
    rw [joinP_cons] at hf
    have hl := congrArg List.length hf
    simp only [List.length_drop, List.length_append, List.length_cons] at hl
    have hd : full.drop (i + t.length + 1) = joinP (fun s => s) (u :: q) ++ r := by
      rw [show i + t.length + 1 = i + (t.length + 1) by omega, ← List.drop_drop, hf]
      have e : t ++ 44 :: joinP (fun s => s) (u :: q) ++ r = (t ++ [44]) ++ (joinP (fun s => s) (u :: q) ++ r) := by simp
      rw [e, show t.length + 1 = (t ++ [44]).length by simp, List.drop_left]
    exact sits_row full (u :: q) (i + t.length + 1) r hd (by omega) k s (by simpa using h)
theorem sits_rows (full : Bs) (g : List Bs → Bs → Bs) : ∀ (rows : List (List Bs × Bs)) (i : Nat), full.drop i = rendV g rows → i ≤ full.length → ∀ (j : Nat) (p : List Bs × Bs), rows[j]? = some p → ∃ a r, (placesV g i rows)[j]? = some (placesR (g p.1) a p.1) ∧ full.drop a = joinP (g p.1) p.1 ++ r ∧ a ≤ full.length
  | [], i, _, _, j, p, h => by simp at h
  | t :: q, i, hf, hi, 0, p, h => by
    simp at h; subst h
    exact ⟨i, t.2 ++ rendV g q, rfl, by rw [hf]; simp [rendV], hi⟩
  | t :: q, i, hf, hi, j + 1, p, h => by
    have e : rendV g (t :: q) = (joinP (g t.1) t.1 ++ t.2) ++ rendV g q := by simp [rendV]
    rw [e] at hf
    have hl := congrArg List.length hf
    simp only [List.length_drop, List.length_append] at hl
    have hd : full.drop (i + (joinP (g t.1) t.1).length + t.2.length) = rendV g q := by
      rw [show i + (joinP (g t.1) t.1).length + t.2.length = i + (joinP (g t.1) t.1 ++ t.2).length by simp; omega, ← List.drop_drop, hf, List.drop_left]
    exact sits_rows full g q _ hd (by omega) j p (by simpa using h)
/-- Records of plain fields, with either end: what they are, and where they stand. -/
theorem ends_back (rows : List (List Bs × Bs)) (he : EndsOk rows) (h : ∀ p ∈ rows, p.1 ≠ [] ∧ ∀ s ∈ p.1, s ≠ [] ∧ s.length ≤ 255 ∧ ∀ c ∈ s, plainB c = true) :
    ∃ L, recV (rendV (fun _ s => s) rows) = .ok L ∧ L.length = rows.length ∧ ∀ (j : Nat) (p : List Bs × Bs), rows[j]? = some p → ∃ o : List Tk, L[j]? = some o ∧ o.length = p.1.length ∧ ∀ (k : Nat) (s : Bs), p.1[k]? = some s → ∃ a, o[k]? = some (5, s, a) ∧ a + s.length ≤ (rendV (fun _ s => s) rows).length ∧ ((rendV (fun _ s => s) rows).drop a).take s.length = s := by
  have hne : ∀ p ∈ rows, joinP (fun s => s) p.1 ≠ [] := fun p hp => by
    obtain ⟨h1, h2⟩ := h p hp
    cases hx : p.1 with
    | nil => exact absurd hx h1
    | cons s q =>
      have := (h2 s (by rw [hx]; simp)).1
      cases q with
      | nil => rw [joinP_one]; exact this
      | cons t q => rw [joinP_cons]; simp
  have hk := rows_ok (fun _ s => s) rows 0 (fun p hp => ⟨(h p hp).1, by simp [hne p hp], fun s hs => plain_ok ((h p hp).2 s hs).2.2 ((h p hp).2 s hs).2.1⟩) he
  refine ⟨_, hk, placesV_len _ _ _, fun j p hj => ?_⟩
  obtain ⟨a, r, h1, h2, h3⟩ := sits_rows (rendV (fun _ s => s) rows) (fun _ s => s) rows 0 rfl (Nat.zero_le _) j p hj
  exact ⟨_, h1, placesR_len _ _ _, sits_row _ p.1 a r h2 h3⟩
end Go.Proofs.YtcfminkmidaaoaaDoor
