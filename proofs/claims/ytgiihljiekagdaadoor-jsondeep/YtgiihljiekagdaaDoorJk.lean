/- Blanks and comments as package json passes them by, as mathematics. -/
import Derived.Test.YtgiihljiekagdaaDoorJm
import Derived.Lib.Index
import Derived.Lib.IndexLaws
namespace Go.Proofs.YtgiihljiekagdaaDoor
/-- How long a line is. -/
def lineJ (s : Bs) : Nat := (s.takeWhile (fun c => c != 10)).length
theorem lineJ_le (s : Bs) : lineJ s ≤ s.length := (List.takeWhile_sublist _).length_le
theorem lineJ_cons {c : UInt8} (h : c ≠ 10) (r : Bs) : lineJ (c :: r) = lineJ r + 1 := by simp [lineJ, h]
theorem line_index : ∀ s : Bs, (if Lib.index s [10] = -1 then s.length else (Lib.index s [10]).toNat) = lineJ s
  | [] => by simp [Lib.index, lineJ]
  | c :: r => by
    have ih := line_index r
    have hg := Lib.index_ge r [10]
    by_cases h : c = 10
    · subst h; simp [Lib.index, lineJ, List.isPrefixOf]
    · have hp : List.isPrefixOf [10] (c :: r) = false := by simp [List.isPrefixOf]; exact fun e => h e.symm
      have hx : Lib.index (c :: r) [10] = if Lib.index r [10] = -1 then -1 else Lib.index r [10] + 1 := by
        show (if List.isPrefixOf [10] (c :: r) then (0 : Int) else if Lib.index r [10] == -1 then -1 else Lib.index r [10] + 1) = _
        rw [hp]; simp
      rw [lineJ_cons h, ← ih, hx]
      by_cases hm : Lib.index r [10] = -1
      · simp [hm]
      · rw [if_neg hm, if_neg hm, if_neg (by omega)]
        omega
theorem skip_rest : ∀ (s : Bs) (f i : Nat), skipJ 1 f i s = skipJ 0 f (i + lineJ s) (s.drop (lineJ s))
  | [], f, i => by simp [skipJ, lineJ]
  | c :: r, f, i => by
    by_cases h : c = 10
    · subst h
      have : lineJ (10 :: r) = 0 := by simp [lineJ]
      rw [this]
      simp [skipJ, blankJ]
    · rw [lineJ_cons h, skipJ, if_pos rfl, if_neg h, skip_rest r]
      congr 1; omega
theorem skip_star : ∀ (s : Bs) (f i : Nat), skipJ 2 f i s = if Lib.index s [42, 47] = -1 then .bad 1 f else skipJ 0 f (i + (Lib.index s [42, 47]).toNat + 2) (s.drop ((Lib.index s [42, 47]).toNat + 2))
  | [], f, i => by simp [skipJ, Lib.index]
  | c :: r, f, i => by
    have ih := skip_star r f (i + 1)
    have hg := Lib.index_ge r [42, 47]
    rw [skipJ, if_neg (by decide), if_pos rfl]
    by_cases h : c = 42 ∧ r.head? = some 47
    · obtain ⟨rfl, h2⟩ := h
      cases r with
      | nil => simp at h2
      | cons d q =>
        simp at h2; subst h2
        have hp : Lib.index (42 :: 47 :: q) [42, 47] = 0 := by
          show (if List.isPrefixOf [42, 47] (42 :: 47 :: q) then (0 : Int) else _) = 0
          rw [if_pos (by simp [List.isPrefixOf])]
        rw [hp, if_pos (by simp), if_neg (by decide), skipJ, if_neg (by decide), if_neg (by decide), if_neg (by decide), if_pos rfl]
        rfl
    · have hp : List.isPrefixOf [42, 47] (c :: r) = false := by
        cases r with
        | nil => simp [List.isPrefixOf]
        | cons d q => simp [List.isPrefixOf] at h ⊢; exact fun e => fun e2 => h e.symm e2.symm
      have hx : Lib.index (c :: r) [42, 47] = if Lib.index r [42, 47] = -1 then -1 else Lib.index r [42, 47] + 1 := by
        show (if List.isPrefixOf [42, 47] (c :: r) then (0 : Int) else if Lib.index r [42, 47] == -1 then -1 else Lib.index r [42, 47] + 1) = _
        rw [hp]; simp
      rw [if_neg h, ih, hx]
      by_cases hm : Lib.index r [42, 47] = -1
      · simp [hm]
      · rw [if_neg hm, if_neg hm, if_neg (by omega)]
        have : (Lib.index r [42, 47] + 1).toNat = (Lib.index r [42, 47]).toNat + 1 := by omega
        rw [this, show (Lib.index r [42, 47]).toNat + 1 + 2 = (Lib.index r [42, 47]).toNat + 2 + 1 by omega, List.drop_succ_cons]
        congr 1; omega
/-- A comment's size, and whether it is one. -/
def cmtJ (x : Bs) : Nat × Bool :=
  if List.isPrefixOf [47, 42] x then (if Lib.index (x.drop 2) [42, 47] = -1 then ((x.drop 2).length + 4, false) else ((Lib.index (x.drop 2) [42, 47]).toNat + 4, true))
  else (lineJ x, x.head? == some 35 || List.isPrefixOf [47, 47] x)
theorem index_room (s sub : Bs) (h : 0 ≤ Lib.index s sub) : Lib.index s sub + sub.length ≤ s.length := by
  induction s with
  | nil =>
    unfold Lib.index at h ⊢
    cases sub with
    | nil => simp
    | cons a r => simp at h
  | cons b l ih =>
    unfold Lib.index at h ⊢
    split
    · rename_i hp
      have := (List.isPrefixOf_iff_prefix.1 hp).length_le
      simp at this ⊢; omega
    · rename_i hp
      rw [if_neg hp] at h
      by_cases hm : Lib.index l sub = -1
      · simp [hm] at h
      · have hg := Lib.index_ge l sub
        have := ih (by omega)
        simp only [beq_iff_eq, hm, if_false]
        simp; omega
theorem skip_cmt {x : Bs} {c : UInt8} {r : Bs} (hx : x = c :: r) (hc : c = 35 ∨ c = 47) (f i : Nat) :
    if (cmtJ x).2 then 0 < (cmtJ x).1 ∧ (cmtJ x).1 ≤ x.length ∧ ∃ f2, skipJ 0 f i x = skipJ 0 f2 (i + (cmtJ x).1) (x.drop (cmtJ x).1) else skipJ 0 f i x = .bad 1 i := by
  subst hx
  rcases hc with rfl | rfl
  · have h1 : cmtJ (35 :: r) = (lineJ r + 1, true) := by simp [cmtJ, List.isPrefixOf, lineJ_cons]
    rw [h1]
    refine ⟨by simp, by have := lineJ_le r; simp; omega, f, ?_⟩
    rw [skipJ]
    simp [blankJ]
    rw [skip_rest]
    congr 1; omega
  · cases r with
    | nil =>
      have h1 : cmtJ [47] = (1, false) := by simp [cmtJ, List.isPrefixOf, lineJ]
      rw [h1]
      simp [skipJ, blankJ]
    | cons d q =>
      by_cases h42 : d = 42
      · subst h42
        have h1 : cmtJ (47 :: 42 :: q) = if Lib.index q [42, 47] = -1 then (q.length + 4, false) else ((Lib.index q [42, 47]).toNat + 4, true) := by simp [cmtJ, List.isPrefixOf]
        have h2 : skipJ 0 f i (47 :: 42 :: q) = skipJ 2 i (i + 1 + 1) q := by
          rw [skipJ]
          simp [blankJ]
          rw [skipJ]
          simp
        rw [h1, h2, skip_star]
        have hg := Lib.index_ge q [42, 47]
        by_cases hm : Lib.index q [42, 47] = -1
        · simp [hm]
        · rw [if_neg hm, if_neg hm]
          have hr := index_room q [42, 47] (by omega)
          simp at hr
          refine ⟨by simp, by simp; omega, i, ?_⟩
          show _ = skipJ 0 i (i + ((Lib.index q [42, 47]).toNat + 4)) ((47 :: 42 :: q).drop ((Lib.index q [42, 47]).toNat + 4))
          rw [show (Lib.index q [42, 47]).toNat + 4 = (Lib.index q [42, 47]).toNat + 2 + 1 + 1 by omega, List.drop_succ_cons, List.drop_succ_cons]
          congr 1; omega
      · by_cases h47 : d = 47
        · subst h47
          have h1 : cmtJ (47 :: 47 :: q) = (lineJ (47 :: 47 :: q), true) := by simp [cmtJ, List.isPrefixOf]
          rw [h1]
          refine ⟨by simp [lineJ_cons], lineJ_le _, f, ?_⟩
          rw [skipJ]
          simp [blankJ]
          rw [skip_rest, lineJ_cons (c := 47) (by decide) (47 :: q), List.drop_succ_cons]
          congr 1; omega
        · have h1 : (cmtJ (47 :: d :: q)).2 = false := by
            have e1 : ¬ ((42 : UInt8) = d) := fun e => h42 e.symm
            have e2 : ¬ ((47 : UInt8) = d) := fun e => h47 e.symm
            simp [cmtJ, List.isPrefixOf, e1, e2]
          rw [h1]
          simp [skipJ, blankJ, h42, h47]
theorem skip_blank0 {c : UInt8} (h : c = 32 ∨ c = 9 ∨ c = 10 ∨ c = 13) (f i : Nat) (r : Bs) : skipJ 0 f i (c :: r) = skipJ 0 f (i + 1) r := by
  rw [skipJ]
  rcases h with rfl | rfl | rfl | rfl <;> simp [blankJ]
theorem skip_stop0 {c : UInt8} (h : ¬ (c = 32 ∨ c = 9 ∨ c = 10 ∨ c = 13)) (h2 : ¬ (c = 35 ∨ c = 47)) (f i : Nat) (r : Bs) : skipJ 0 f i (c :: r) = .ok () i (c :: r) := by
  simp at h h2
  rw [skipJ]
  simp [blankJ, h, h2]
theorem skip_end (f i : Nat) : skipJ 0 f i [] = .ok () i [] := by simp [skipJ]
end Go.Proofs.YtgiihljiekagdaaDoor
