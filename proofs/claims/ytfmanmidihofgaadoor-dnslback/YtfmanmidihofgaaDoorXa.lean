/- A text parted at its commas, as mathematics; the parts of a row out of that. -/
import Derived.Test.YtfmanmidihofgaaDoorWm
import Derived.Test.YtfmanmidihofgaaDoorBas
import Derived.Lib.SmallJoins
namespace Go.Proofs.YtfmanmidihofgaaDoor

/-- A text parted at its commas, the first part begun. -/
def splitC : Bs → Bs → List Bs
  | cur, [] => [cur]
  | cur, c :: r => if c = 44 then cur :: splitC [] r else splitC (cur ++ [c]) r
theorem splitC_ne : ∀ (r cur : Bs), splitC cur r ≠ []
  | [], cur => by simp [splitC]
  | c :: r, cur => by
    unfold splitC
    split
    · simp
    · exact splitC_ne r _
theorem splitC_len : ∀ (r cur : Bs), (splitC cur r).length ≤ r.length + 1
  | [], cur => by simp [splitC]
  | c :: r, cur => by
    unfold splitC
    split
    · have := splitC_len r []; simp; omega
    · have := splitC_len r (cur ++ [c]); simp; omega
theorem splitC_run : ∀ (p cur r : Bs), 44 ∉ p → splitC cur (p ++ r) = splitC (cur ++ p) r
  | [], cur, r, _ => by simp
  | c :: p, cur, r, h => by
    simp only [List.mem_cons, not_or] at h
    rw [List.cons_append]
    conv => lhs; unfold splitC
    rw [if_neg (fun e => h.1 e.symm), splitC_run p _ r h.2]
    simp
theorem splitC_none {l : Bs} (h : 44 ∉ l) : splitC [] l = [l] := by
  have := splitC_run l [] [] h
  rw [List.append_nil] at this
  rw [this]; simp [splitC]
theorem splitC_cut {p r : Bs} (h : 44 ∉ p) : splitC [] (p ++ 44 :: r) = p :: splitC [] r := by
  rw [splitC_run p [] _ h]
  conv => lhs; unfold splitC
  simp
/-- The first byte of a part that may not stand in one. -/
def oddI : Bs → Option Nat
  | [] => none
  | c :: r => if prtB c then (oddI r).map (· + 1) else some 0
theorem oddI_none {l : Bs} (h : oddI l = none) : ∀ c ∈ l, prtB c = true := by
  induction l with
  | nil => simp
  | cons c r ih =>
    unfold oddI at h
    split at h
    · rename_i hc
      intro x hx
      rcases List.mem_cons.1 hx with h1 | h1
      · subst h1; exact hc
      · exact ih (by simpa using h) x h1
    · cases h
theorem oddI_all {l : Bs} (h : ∀ c ∈ l, prtB c = true) : oddI l = none := by
  induction l with
  | nil => rfl
  | cons c r ih => unfold oddI; rw [if_pos (h c (by simp)), ih (fun x hx => h x (by simp [hx]))]; rfl
theorem oddI_at {cur : Bs} {c : UInt8} {r : Bs} (h : ∀ x ∈ cur, prtB x = true) (hc : prtB c = false) : oddI (cur ++ c :: r) = some cur.length := by
  induction cur with
  | nil => unfold oddI; simp [hc]
  | cons x cur ih =>
    rw [List.cons_append]; unfold oddI
    rw [if_pos (h x (by simp)), ih (fun y hy => h y (by simp [hy]))]; simp
theorem oddI_lt : ∀ {l : Bs} {i : Nat}, oddI l = some i → i < l.length
  | [], i, h => by cases h
  | c :: r, i, h => by
    unfold oddI at h
    split at h
    · cases hx : oddI r with
      | none => rw [hx] at h; cases h
      | some k => rw [hx] at h; cases h; have := oddI_lt hx; simp; omega
    · cases h; simp
/-- Parts as signs, from a place on. -/
def partsL : Nat → List Bs → List Tk ⊕ (Nat × Nat)
  | _, [] => .inl []
  | a, p :: q => match oddI p with
    | some i => .inr (1, a + i)
    | none => if 255 < p.length then .inr (2, a) else match partsL (a + p.length + 1) q with | .inl ts => .inl ((6, p, a) :: ts) | .inr e => .inr e
theorem parts_split : ∀ (r : Bs) (a : Nat) (cur : Bs), (∀ c ∈ cur, prtB c = true) → partsA a cur (a + cur.length) r = partsL a (splitC cur r)
  | [], a, cur, h => by
    unfold partsA splitC partsL
    rw [oddI_all h]
    simp only
    by_cases hl : 255 < cur.length
    · rw [if_pos hl, if_pos hl]
    · rw [if_neg hl, if_neg hl]; rfl
  | c :: r, a, cur, h => by
    unfold partsA
    by_cases h44 : c = 44
    · rw [if_pos h44]
      conv => rhs; unfold splitC
      rw [if_pos h44]
      conv => rhs; unfold partsL
      rw [oddI_all h]
      simp only
      by_cases hl : 255 < cur.length
      · rw [if_pos hl, if_pos hl]
      · rw [if_neg hl, if_neg hl]
        have := parts_split r (a + cur.length + 1) [] (by simp)
        rw [List.length_nil, Nat.add_zero] at this
        rw [this]
        cases partsL (a + cur.length + 1) (splitC [] r) <;> rfl
    · rw [if_neg h44]
      conv => rhs; unfold splitC
      rw [if_neg h44]
      by_cases hp : prtB c = true
      · rw [if_pos hp]
        have := parts_split r a (cur ++ [c]) (fun x hx => by
          rcases List.mem_append.1 hx with h1 | h1
          · exact h x h1
          · simp at h1; subst h1; exact hp)
        rw [← this]; simp [Nat.add_assoc]
      · rw [if_neg hp]
        have hp' : prtB c = false := by simpa using hp
        have hf : ∀ (q : Bs) (cu : Bs), ∃ x y, splitC (cu ++ q) r = (cu ++ q ++ x) :: y := by
          have : ∀ (r cu : Bs), ∃ x y, splitC cu r = (cu ++ x) :: y := by
            intro r
            induction r with
            | nil => intro cu; exact ⟨[], [], by simp [splitC]⟩
            | cons d r ih =>
              intro cu
              unfold splitC
              split
              · exact ⟨[], splitC [] r, by simp⟩
              · obtain ⟨x, y, e⟩ := ih (cu ++ [d]); exact ⟨d :: x, y, by rw [e]; simp⟩
          intro q cu
          exact this r (cu ++ q)
        obtain ⟨x, y, e⟩ := hf [c] cur
        rw [e]
        unfold partsL
        have : oddI (cur ++ [c] ++ x) = some cur.length := by
          rw [show cur ++ [c] ++ x = cur ++ c :: x by simp]; exact oddI_at h hp'
        rw [this]
theorem parts_is (a : Nat) (r : Bs) : partsA a [] a r = partsL a (splitC [] r) := parts_split r a [] (by simp)
/-- Where the part of a number begins. -/
def atK (a : Nat) (L : List Bs) (k : Nat) : Nat := a + ((L.take k).map fun p => p.length + 1).sum
theorem atK_zero (a : Nat) (L : List Bs) : atK a L 0 = a := by simp [atK]
theorem atK_succ {a : Nat} {L : List Bs} {k : Nat} {p : Bs} (h : L[k]? = some p) : atK a L (k + 1) = atK a L k + (p.length + 1) := by
  unfold atK; rw [List.take_add_one, h]; simp [Nat.add_assoc]
/-- The signs of the first parts. -/
def toksK : Nat → List Bs → Nat → List Tk
  | _, _, 0 => []
  | _, [], _ + 1 => []
  | a, p :: q, k + 1 => (6, p, a) :: toksK (a + p.length + 1) q k
theorem toksK_len : ∀ (k a : Nat) (L : List Bs), k ≤ L.length → (toksK a L k).length = k
  | 0, a, L, _ => by cases L <;> rfl
  | k + 1, a, [], h => by simp at h
  | k + 1, a, p :: q, h => by simp [toksK, toksK_len k _ q (by simpa using h)]
theorem toksK_succ : ∀ (k a : Nat) (L : List Bs) (p : Bs), L[k]? = some p → toksK a L (k + 1) = toksK a L k ++ [(6, p, atK a L k)]
  | 0, a, [], p, h => by simp at h
  | 0, a, x :: q, p, h => by
    simp at h; subst h
    cases q <;> simp [toksK, atK]
  | k + 1, a, [], p, h => by simp at h
  | k + 1, a, x :: q, p, h => by
    have := toksK_succ k (a + x.length + 1) q p (by simpa using h)
    show (6, x, a) :: toksK (a + x.length + 1) q (k + 1) = ((6, x, a) :: toksK (a + x.length + 1) q k) ++ [(6, p, atK a (x :: q) (k + 1))]
    rw [this]
    have e : atK (a + x.length + 1) q k = atK a (x :: q) (k + 1) := by simp [atK]; omega
    rw [e]; rfl
/-- The first parts may stand. -/
def goodK (L : List Bs) (k : Nat) : Prop := ∀ (j : Nat) (p : Bs), j < k → L[j]? = some p → oddI p = none ∧ ¬ 255 < p.length
theorem goodK_succ {L : List Bs} {k : Nat} {p : Bs} (h : goodK L k) (hp : L[k]? = some p) (h1 : oddI p = none) (h2 : ¬ 255 < p.length) : goodK L (k + 1) := fun j q hj hq => by
  rcases Nat.lt_or_ge j k with h3 | h3
  · exact h j q h3 hq
  · obtain rfl : j = k := by omega
    rw [hp] at hq; cases hq; exact ⟨h1, h2⟩
theorem good_all : ∀ (L : List Bs) (a : Nat), goodK L L.length → partsL a L = .inl (toksK a L L.length)
  | [], a, _ => rfl
  | p :: q, a, h => by
    obtain ⟨h1, h2⟩ := h 0 p (by simp) rfl
    have := good_all q (a + p.length + 1) (fun j x hj hx => h (j + 1) x (by simpa using hj) (by simpa using hx))
    unfold partsL
    rw [h1]; simp only; rw [if_neg h2, this]; rfl
theorem good_odd : ∀ (L : List Bs) (a k : Nat) (p : Bs) (i : Nat), goodK L k → L[k]? = some p → oddI p = some i → partsL a L = .inr (1, atK a L k + i)
  | [], a, k, p, i, _, h, _ => by simp at h
  | x :: q, a, 0, p, i, _, h, ho => by
    simp at h; subst h
    unfold partsL; rw [ho, atK_zero]
  | x :: q, a, k + 1, p, i, hg, h, ho => by
    obtain ⟨h1, h2⟩ := hg 0 x (by omega) rfl
    have := good_odd q (a + x.length + 1) k p i (fun j y hj hy => hg (j + 1) y (by omega) (by simpa using hy)) (by simpa using h) ho
    unfold partsL
    rw [h1]; simp only; rw [if_neg h2, this]
    simp [atK]; omega
theorem good_long : ∀ (L : List Bs) (a k : Nat) (p : Bs), goodK L k → L[k]? = some p → oddI p = none → 255 < p.length → partsL a L = .inr (2, atK a L k)
  | [], a, k, p, _, h, _, _ => by simp at h
  | x :: q, a, 0, p, _, h, ho, hl => by
    simp at h; subst h
    unfold partsL; rw [ho, atK_zero]; simp only; rw [if_pos hl]
  | x :: q, a, k + 1, p, hg, h, ho, hl => by
    obtain ⟨h1, h2⟩ := hg 0 x (by omega) rfl
    have := good_long q (a + x.length + 1) k p (fun j y hj hy => hg (j + 1) y (by omega) (by simpa using hy)) (by simpa using h) ho hl
    unfold partsL
    rw [h1]; simp only; rw [if_neg h2, this]
    simp [atK]; omega
/-- Where the parts stand, none beyond the text. -/
theorem atK_le : ∀ (L : List Bs) (a k : Nat), atK a L k ≤ a + (L.map fun p => p.length + 1).sum
  | [], a, k => by simp [atK]
  | x :: q, a, 0 => by simp [atK]
  | x :: q, a, k + 1 => by
    have := atK_le q (a + x.length + 1) k
    simp [atK] at this ⊢; omega
theorem splitC_sum : ∀ (r cur : Bs), ((splitC cur r).map fun p => p.length + 1).sum = cur.length + r.length + 1
  | [], cur => by simp [splitC]
  | c :: r, cur => by
    unfold splitC
    split
    · have := splitC_sum r []; simp at this ⊢; omega
    · have := splitC_sum r (cur ++ [c]); simp at this ⊢; omega
theorem split_at_le (l : Bs) (a k : Nat) : atK a (splitC [] l) k ≤ a + l.length + 1 := by
  have := atK_le (splitC [] l) a k
  rw [splitC_sum] at this; simp at this; omega
theorem split_part_le {l p : Bs} {a k : Nat} (h : (splitC [] l)[k]? = some p) : atK a (splitC [] l) k + p.length ≤ a + l.length := by
  have := split_at_le l a (k + 1)
  rw [atK_succ h] at this; omega
end Go.Proofs.YtfmanmidihofgaaDoor
