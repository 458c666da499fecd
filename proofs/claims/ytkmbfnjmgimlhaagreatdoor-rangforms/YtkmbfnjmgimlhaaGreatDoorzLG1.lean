/- The rows of texts of RangForms, as they lie in memory. -/
import Derived.Laws.Cover3
import Derived.Test.YtkmbfnjmgimlhaaGreatDoorzAw4
import Derived.Test.YtkmbfnjmgimlhaaGreatDoorzRr
namespace Go.Proofs.YtkmbfnjmgimlhaaGreatDoor
open Go.ChangeShapes Go.WideShapes Go.RowKit Go.Sort

/-- The rows, by hand: a text; its prefixes (none: thirty-two; one that is empty: it is no range). -/
def rows4 : List (Bs × Option (List Bs)) := [([49, 48, 46, 48, 46, 48, 46, 48, 45, 49, 48, 46, 48, 46, 48, 46, 50, 53, 53], some [[49, 48, 46, 48, 46, 48, 46, 48, 47, 50, 52]]), ([49, 48, 46, 48, 46, 48, 46, 49, 45, 49, 48, 46, 48, 46, 48, 46, 49], some [[49, 48, 46, 48, 46, 48, 46, 49, 47, 51, 50]]), ([49, 48, 46, 48, 46, 48, 46, 49, 45, 49, 48, 46, 48, 46, 48, 46, 50], some [[49, 48, 46, 48, 46, 48, 46, 49, 47, 51, 50], [49, 48, 46, 48, 46, 48, 46, 50, 47, 51, 50]]), ([49, 48, 46, 48, 46, 48, 46, 51, 45, 49, 48, 46, 48, 46, 48, 46, 56], some [[49, 48, 46, 48, 46, 48, 46, 51, 47, 51, 50], [49, 48, 46, 48, 46, 48, 46, 52, 47, 51, 48], [49, 48, 46, 48, 46, 48, 46, 56, 47, 51, 50]]), ([48, 46, 48, 46, 48, 46, 48, 45, 50, 53, 53, 46, 50, 53, 53, 46, 50, 53, 53, 46, 50, 53, 53], some [[48, 46, 48, 46, 48, 46, 48, 47, 48]]), ([48, 46, 48, 46, 48, 46, 49, 45, 50, 53, 53, 46, 50, 53, 53, 46, 50, 53, 53, 46, 50, 53, 53], none), ([58, 58, 45, 102, 102, 102, 102, 58, 102, 102, 102, 102, 58, 102, 102, 102, 102, 58, 102, 102, 102, 102, 58, 102, 102, 102, 102, 58, 102, 102, 102, 102, 58, 102, 102, 102, 102, 58, 102, 102, 102, 102], some [[58, 58, 47, 48]]), ([50, 48, 48, 49, 58, 100, 98, 56, 58, 58, 45, 50, 48, 48, 49, 58, 100, 98, 56, 58, 58, 49, 58, 48], some [[50, 48, 48, 49, 58, 100, 98, 56, 58, 58, 47, 49, 49, 50], [50, 48, 48, 49, 58, 100, 98, 56, 58, 58, 49, 58, 48, 47, 49, 50, 56]]), ([49, 48, 46, 48, 46, 48, 46, 50, 45, 49, 48, 46, 48, 46, 48, 46, 49], some [[]]), ([49, 48, 46, 48, 46, 48, 46, 49, 45, 58, 58, 49], some [[]]), ([49, 48, 46, 48, 46, 48, 46, 49], some [[]]), ([49, 48, 46, 48, 46, 48, 46, 49, 45, 49, 48, 46, 48, 46, 48, 46, 50, 45, 49, 48, 46, 48, 46, 48, 46, 51], some [[]]), ([49, 48, 46, 48, 46, 48, 46, 49, 32, 45, 32, 49, 48, 46, 48, 46, 48, 46, 50], some [[]]), ([45], some [[]]), ([50, 53, 53, 46, 50, 53, 53, 46, 50, 53, 53, 46, 50, 53, 52, 45, 50, 53, 53, 46, 50, 53, 53, 46, 50, 53, 53, 46, 50, 53, 53], some [[50, 53, 53, 46, 50, 53, 53, 46, 50, 53, 53, 46, 50, 53, 52, 47, 51, 49]])]
def tellC (v : Int) (l : List (Nat × Nat)) : List Bs := l.map (fun p => tellP v p.1 ((bitsV v : Int) - p.2))
def okRow4 (p : Bs × Option (List Bs)) : Bool := decide (p.1.length < 100) && match rangV p.1 with
  | none => decide (p.2 = some [[]])
  | some (v, x, y) => okR v x v y && (decide (x < 340282366920938463463374607431768211456) && (decide (y < 340282366920938463463374607431768211456) && match coverF y 300 x with
    | none => false
    | some l => match p.2 with
      | none => decide (l.length = 32)
      | some ws => decide (tellR v x v y = p.1) && (decide (tellC v l = ws) && (decide (ws ≠ []) && decide (ws.head? ≠ some [])))))
theorem rows4_all : rows4.all okRow4 = true := by decide +kernel
theorem rows4_ok (p : Bs × Option (List Bs)) (h : p ∈ rows4) : okRow4 p = true := List.all_eq_true.1 rows4_all p h
/-- What is known of a row. -/
def FormRow (w : World) (s : Bs) (sv : Value) : Prop := s.length < 100 ∧
  ((sv = .slice none 0 0 ∧ ∃ v x y : Nat, rangV s = some (v, x, y) ∧ x < 340282366920938463463374607431768211456 ∧ y < 340282366920938463463374607431768211456 ∧ (coverR v x v y).length = 32)
  ∨ (∃ g, sv = .slice (some ⟨g, 0, none⟩) 1 1 ∧ g < w.heap.size ∧ w.cell? ⟨g, 0, none⟩ = some (.string ⟨#[]⟩) ∧ rangV s = none)
  ∨ (∃ (g : Nat) (ws : List Bs) (v x y : Nat), sv = .slice (some ⟨g, 0, none⟩) ws.length ws.length ∧ g < w.heap.size ∧ (∀ (j : Nat) (t : Bs), ws[j]? = some t → w.cell? ⟨g, j, none⟩ = some (.string (baS t))) ∧ ws ≠ [] ∧ ws.head? ≠ some [] ∧ rangV s = some (v, x, y) ∧ x < 340282366920938463463374607431768211456 ∧ y < 340282366920938463463374607431768211456 ∧ tellC v (coverR v x v y) = ws ∧ tellR v x v y = s))
theorem FormRow.below {w w' : World} {s : Bs} {sv : Value} (h : FormRow w s sv) (hb : Below w.heap.size w w') : FormRow w' s sv := by
  obtain ⟨h0, h1 | ⟨g, h1, h2, h3, h4⟩ | ⟨g, ws, v, x, y, h1, h2, h3, h4⟩⟩ := h
  · exact ⟨h0, Or.inl h1⟩
  · exact ⟨h0, Or.inr (Or.inl ⟨g, h1, Nat.lt_of_lt_of_le h2 hb.size, (olds hb g 0 h2).trans h3, h4⟩)⟩
  · exact ⟨h0, Or.inr (Or.inr ⟨g, ws, v, x, y, h1, Nat.lt_of_lt_of_le h2 hb.size, fun j t hj => (olds hb g j h2).trans (h3 j t hj), h4⟩)⟩
theorem rowA {s : Bs} (w : World) (h : okRow4 (s, none) = true) : FormRow w s (.slice none 0 0) := by
  unfold okRow4 at h
  simp only [Bool.and_eq_true, decide_eq_true_eq] at h
  obtain ⟨h0, h⟩ := h
  refine ⟨h0, Or.inl ⟨rfl, ?_⟩⟩
  cases hr : rangV s with
  | none => rw [hr] at h; simp at h
  | some p =>
    obtain ⟨v, x, y⟩ := p
    rw [hr] at h
    simp only [Bool.and_eq_true, decide_eq_true_eq] at h
    obtain ⟨h1, h2, h3, h4⟩ := h
    cases hc : coverF y 300 x with
    | none => rw [hc] at h4; cases h4
    | some l =>
      rw [hc] at h4
      simp only [decide_eq_true_eq] at h4
      exact ⟨v, x, y, rfl, h2, h3, by rw [coverR_yes h1, coverX_F y 300 x l hc]; exact h4⟩
theorem rowB {w : World} {s : Bs} {g : Nat} (hg : g < w.heap.size) (hc : w.cell? ⟨g, 0, none⟩ = some (.string ⟨#[]⟩)) (h : okRow4 (s, some [[]]) = true) : FormRow w s (.slice (some ⟨g, 0, none⟩) 1 1) := by
  unfold okRow4 at h
  simp only [Bool.and_eq_true, decide_eq_true_eq] at h
  obtain ⟨h0, h⟩ := h
  refine ⟨h0, Or.inr (Or.inl ⟨g, rfl, hg, hc, ?_⟩)⟩
  cases hr : rangV s with
  | none => rfl
  | some p =>
    obtain ⟨v, x, y⟩ := p
    rw [hr] at h
    simp only [Bool.and_eq_true, decide_eq_true_eq] at h
    obtain ⟨h1, h2, h3, h4⟩ := h
    cases hc : coverF y 300 x with
    | none => rw [hc] at h4; cases h4
    | some l => rw [hc] at h4; simp at h4
theorem rowC {w : World} {s : Bs} {g : Nat} {ws : List Bs} (hg : g < w.heap.size) (hc : ∀ (j : Nat) (t : Bs), ws[j]? = some t → w.cell? ⟨g, j, none⟩ = some (.string (baS t))) (h : okRow4 (s, some ws) = true) (hn : ws.head? ≠ some [] := by decide) : FormRow w s (.slice (some ⟨g, 0, none⟩) ws.length ws.length) := by
  unfold okRow4 at h
  simp only [Bool.and_eq_true, decide_eq_true_eq] at h
  obtain ⟨h0, h⟩ := h
  refine ⟨h0, Or.inr (Or.inr ⟨g, ws, ?_⟩)⟩
  cases hr : rangV s with
  | none => rw [hr] at h; simp at h; subst h; exact absurd rfl hn
  | some p =>
    obtain ⟨v, x, y⟩ := p
    rw [hr] at h
    simp only [Bool.and_eq_true, decide_eq_true_eq] at h
    obtain ⟨h1, h2, h3, h4⟩ := h
    cases hcv : coverF y 300 x with
    | none => rw [hcv] at h4; cases h4
    | some l =>
      rw [hcv] at h4
      simp only [Bool.and_eq_true, decide_eq_true_eq] at h4
      obtain ⟨h5, h6, h7, h8⟩ := h4
      exact ⟨v, x, y, rfl, hg, hc, h7, h8, rfl, h2, h3, by rw [coverR_yes h1, coverX_F y 300 x l hcv]; exact h6, h5⟩
theorem at1 {w : World} {g : Nat} {a : Bs} (h : w.cell? ⟨g, 0, none⟩ = some (.string (baS a))) : ∀ (j : Nat) (t : Bs), [a][j]? = some t → w.cell? ⟨g, j, none⟩ = some (.string (baS t))
  | 0, t, e => by simp at e; subst e; exact h
theorem at2 {w : World} {g : Nat} {a b : Bs} (h : w.cell? ⟨g, 0, none⟩ = some (.string (baS a)) ∧ w.cell? ⟨g, 1, none⟩ = some (.string (baS b))) : ∀ (j : Nat) (t : Bs), [a, b][j]? = some t → w.cell? ⟨g, j, none⟩ = some (.string (baS t))
  | 0, t, e => by simp at e; subst e; exact h.1
  | 1, t, e => by simp at e; subst e; exact h.2
theorem at3 {w : World} {g : Nat} {a b c : Bs} (h : w.cell? ⟨g, 0, none⟩ = some (.string (baS a)) ∧ w.cell? ⟨g, 1, none⟩ = some (.string (baS b)) ∧ w.cell? ⟨g, 2, none⟩ = some (.string (baS c))) : ∀ (j : Nat) (t : Bs), [a, b, c][j]? = some t → w.cell? ⟨g, j, none⟩ = some (.string (baS t))
  | 0, t, e => by simp at e; subst e; exact h.1
  | 1, t, e => by simp at e; subst e; exact h.2.1
  | 2, t, e => by simp at e; subst e; exact h.2.2
/-- Several blocks, one behind the other. -/
def allocs (w : World) : List (List Value × TypeId) → World
  | [] => w
  | o :: r => allocs (w.alloc (.cells o.1.toArray o.2)) r
theorem allocs_below : ∀ (os : List (List Value × TypeId)) (w : World), Below w.heap.size w (allocs w os)
  | [], _ => Below.refl _ _
  | o :: r, w => below_next (ball (Below.refl _ _)) (allocs_below r (w.alloc (.cells o.1.toArray o.2)))
theorem allocs_size : ∀ (os : List (List Value × TypeId)) (w : World), (allocs w os).heap.size = w.heap.size + os.length
  | [], _ => rfl
  | o :: r, w => by unfold allocs; rw [allocs_size r, World.size_alloc, List.length_cons]; omega
theorem allocs_cell : ∀ (os : List (List Value × TypeId)) (w : World) (i j : Nat) (cs : List Value) (t : TypeId) (v : Value), os[i]? = some (cs, t) → cs[j]? = some v → (allocs w os).cell? ⟨w.heap.size + i, j, none⟩ = some v
  | [], w, i, j, cs, t, v, h, _ => by simp at h
  | o :: r, w, 0, j, cs, t, v, h, hv => by
    simp at h; subst h
    unfold allocs
    rw [Nat.add_zero, olds (allocs_below r _) w.heap.size j (by simp), World.cell?_alloc_new]
    simpa using hv
  | o :: r, w, i + 1, j, cs, t, v, h, hv => by
    unfold allocs
    have := allocs_cell r (w.alloc (.cells o.1.toArray o.2)) i j cs t v (by simpa using h) hv
    rw [World.size_alloc] at this
    rw [show w.heap.size + (i + 1) = w.heap.size + 1 + i by omega]; exact this
def os4 (H : Nat) : List (List Value × TypeId) := [([.string ⟨#[49, 48, 46, 48, 46, 48, 46, 48, 47, 50, 52]⟩], 9), ([.string ⟨#[49, 48, 46, 48, 46, 48, 46, 49, 47, 51, 50]⟩], 9), ([.string ⟨#[49, 48, 46, 48, 46, 48, 46, 49, 47, 51, 50]⟩, .string ⟨#[49, 48, 46, 48, 46, 48, 46, 50, 47, 51, 50]⟩], 9), ([.string ⟨#[49, 48, 46, 48, 46, 48, 46, 51, 47, 51, 50]⟩, .string ⟨#[49, 48, 46, 48, 46, 48, 46, 52, 47, 51, 48]⟩, .string ⟨#[49, 48, 46, 48, 46, 48, 46, 56, 47, 51, 50]⟩], 9), ([.string ⟨#[48, 46, 48, 46, 48, 46, 48, 47, 48]⟩], 9), ([.string ⟨#[58, 58, 47, 48]⟩], 9), ([.string ⟨#[50, 48, 48, 49, 58, 100, 98, 56, 58, 58, 47, 49, 49, 50]⟩, .string ⟨#[50, 48, 48, 49, 58, 100, 98, 56, 58, 58, 49, 58, 48, 47, 49, 50, 56]⟩], 9), ([.string ⟨#[]⟩], 9), ([.string ⟨#[]⟩], 9), ([.string ⟨#[]⟩], 9), ([.string ⟨#[]⟩], 9), ([.string ⟨#[]⟩], 9), ([.string ⟨#[]⟩], 9), ([.string ⟨#[50, 53, 53, 46, 50, 53, 53, 46, 50, 53, 53, 46, 50, 53, 52, 47, 51, 49]⟩], 9), ([.string ⟨#[49, 48, 46, 48, 46, 48, 46, 48, 45, 49, 48, 46, 48, 46, 48, 46, 50, 53, 53]⟩, .slice (some ⟨H + 0, 0, none⟩) 1 1, .string ⟨#[49, 48, 46, 48, 46, 48, 46, 49, 45, 49, 48, 46, 48, 46, 48, 46, 49]⟩, .slice (some ⟨H + 1, 0, none⟩) 1 1, .string ⟨#[49, 48, 46, 48, 46, 48, 46, 49, 45, 49, 48, 46, 48, 46, 48, 46, 50]⟩, .slice (some ⟨H + 2, 0, none⟩) 2 2, .string ⟨#[49, 48, 46, 48, 46, 48, 46, 51, 45, 49, 48, 46, 48, 46, 48, 46, 56]⟩, .slice (some ⟨H + 3, 0, none⟩) 3 3, .string ⟨#[48, 46, 48, 46, 48, 46, 48, 45, 50, 53, 53, 46, 50, 53, 53, 46, 50, 53, 53, 46, 50, 53, 53]⟩, .slice (some ⟨H + 4, 0, none⟩) 1 1, .string ⟨#[48, 46, 48, 46, 48, 46, 49, 45, 50, 53, 53, 46, 50, 53, 53, 46, 50, 53, 53, 46, 50, 53, 53]⟩, .slice none 0 0, .string ⟨#[58, 58, 45, 102, 102, 102, 102, 58, 102, 102, 102, 102, 58, 102, 102, 102, 102, 58, 102, 102, 102, 102, 58, 102, 102, 102, 102, 58, 102, 102, 102, 102, 58, 102, 102, 102, 102, 58, 102, 102, 102, 102]⟩, .slice (some ⟨H + 5, 0, none⟩) 1 1, .string ⟨#[50, 48, 48, 49, 58, 100, 98, 56, 58, 58, 45, 50, 48, 48, 49, 58, 100, 98, 56, 58, 58, 49, 58, 48]⟩, .slice (some ⟨H + 6, 0, none⟩) 2 2, .string ⟨#[49, 48, 46, 48, 46, 48, 46, 50, 45, 49, 48, 46, 48, 46, 48, 46, 49]⟩, .slice (some ⟨H + 7, 0, none⟩) 1 1, .string ⟨#[49, 48, 46, 48, 46, 48, 46, 49, 45, 58, 58, 49]⟩, .slice (some ⟨H + 8, 0, none⟩) 1 1, .string ⟨#[49, 48, 46, 48, 46, 48, 46, 49]⟩, .slice (some ⟨H + 9, 0, none⟩) 1 1, .string ⟨#[49, 48, 46, 48, 46, 48, 46, 49, 45, 49, 48, 46, 48, 46, 48, 46, 50, 45, 49, 48, 46, 48, 46, 48, 46, 51]⟩, .slice (some ⟨H + 10, 0, none⟩) 1 1, .string ⟨#[49, 48, 46, 48, 46, 48, 46, 49, 32, 45, 32, 49, 48, 46, 48, 46, 48, 46, 50]⟩, .slice (some ⟨H + 11, 0, none⟩) 1 1, .string ⟨#[45]⟩, .slice (some ⟨H + 12, 0, none⟩) 1 1, .string ⟨#[50, 53, 53, 46, 50, 53, 53, 46, 50, 53, 53, 46, 50, 53, 52, 45, 50, 53, 53, 46, 50, 53, 53, 46, 50, 53, 53, 46, 50, 53, 53]⟩, .slice (some ⟨H + 13, 0, none⟩) 1 1], 49)]
set_option maxRecDepth 100000 in
theorem forms_rel (w : World) : ∀ k, k < 15 → ∃ s sv, (allocs w (os4 w.heap.size)).cell? ⟨w.heap.size + 14, k * 2, none⟩ = some (.string (baS s)) ∧ (allocs w (os4 w.heap.size)).cell? ⟨w.heap.size + 14, k * 2 + 1, none⟩ = some sv ∧ FormRow (allocs w (os4 w.heap.size)) s sv := by
  intro k hk
  rcases (show k = 0 ∨ k = 1 ∨ k = 2 ∨ k = 3 ∨ k = 4 ∨ k = 5 ∨ k = 6 ∨ k = 7 ∨ k = 8 ∨ k = 9 ∨ k = 10 ∨ k = 11 ∨ k = 12 ∨ k = 13 ∨ k = 14 by omega) with rfl | rfl | rfl | rfl | rfl | rfl | rfl | rfl | rfl | rfl | rfl | rfl | rfl | rfl | rfl
  · exact ⟨[49, 48, 46, 48, 46, 48, 46, 48, 45, 49, 48, 46, 48, 46, 48, 46, 50, 53, 53], .slice (some ⟨w.heap.size + 0, 0, none⟩) 1 1, allocs_cell _ w 14 0 _ _ _ rfl rfl, allocs_cell _ w 14 1 _ _ _ rfl rfl, rowC (ws := [[49, 48, 46, 48, 46, 48, 46, 48, 47, 50, 52]]) (by rw [allocs_size]; exact Nat.add_lt_add_left (show 0 < (os4 w.heap.size).length from (by decide : 0 < 15)) _) (at1 (allocs_cell _ w 0 0 _ _ _ rfl rfl)) (rows4_ok _ (List.mem_of_getElem? (i := 0) rfl))⟩
  · exact ⟨[49, 48, 46, 48, 46, 48, 46, 49, 45, 49, 48, 46, 48, 46, 48, 46, 49], .slice (some ⟨w.heap.size + 1, 0, none⟩) 1 1, allocs_cell _ w 14 2 _ _ _ rfl rfl, allocs_cell _ w 14 3 _ _ _ rfl rfl, rowC (ws := [[49, 48, 46, 48, 46, 48, 46, 49, 47, 51, 50]]) (by rw [allocs_size]; exact Nat.add_lt_add_left (show 1 < (os4 w.heap.size).length from (by decide : 1 < 15)) _) (at1 (allocs_cell _ w 1 0 _ _ _ rfl rfl)) (rows4_ok _ (List.mem_of_getElem? (i := 1) rfl))⟩
  · exact ⟨[49, 48, 46, 48, 46, 48, 46, 49, 45, 49, 48, 46, 48, 46, 48, 46, 50], .slice (some ⟨w.heap.size + 2, 0, none⟩) 2 2, allocs_cell _ w 14 4 _ _ _ rfl rfl, allocs_cell _ w 14 5 _ _ _ rfl rfl, rowC (ws := [[49, 48, 46, 48, 46, 48, 46, 49, 47, 51, 50], [49, 48, 46, 48, 46, 48, 46, 50, 47, 51, 50]]) (by rw [allocs_size]; exact Nat.add_lt_add_left (show 2 < (os4 w.heap.size).length from (by decide : 2 < 15)) _) (at2 ⟨(allocs_cell _ w 2 0 _ _ _ rfl rfl), (allocs_cell _ w 2 1 _ _ _ rfl rfl)⟩) (rows4_ok _ (List.mem_of_getElem? (i := 2) rfl))⟩
  · exact ⟨[49, 48, 46, 48, 46, 48, 46, 51, 45, 49, 48, 46, 48, 46, 48, 46, 56], .slice (some ⟨w.heap.size + 3, 0, none⟩) 3 3, allocs_cell _ w 14 6 _ _ _ rfl rfl, allocs_cell _ w 14 7 _ _ _ rfl rfl, rowC (ws := [[49, 48, 46, 48, 46, 48, 46, 51, 47, 51, 50], [49, 48, 46, 48, 46, 48, 46, 52, 47, 51, 48], [49, 48, 46, 48, 46, 48, 46, 56, 47, 51, 50]]) (by rw [allocs_size]; exact Nat.add_lt_add_left (show 3 < (os4 w.heap.size).length from (by decide : 3 < 15)) _) (at3 ⟨(allocs_cell _ w 3 0 _ _ _ rfl rfl), (allocs_cell _ w 3 1 _ _ _ rfl rfl), (allocs_cell _ w 3 2 _ _ _ rfl rfl)⟩) (rows4_ok _ (List.mem_of_getElem? (i := 3) rfl))⟩
  · exact ⟨[48, 46, 48, 46, 48, 46, 48, 45, 50, 53, 53, 46, 50, 53, 53, 46, 50, 53, 53, 46, 50, 53, 53], .slice (some ⟨w.heap.size + 4, 0, none⟩) 1 1, allocs_cell _ w 14 8 _ _ _ rfl rfl, allocs_cell _ w 14 9 _ _ _ rfl rfl, rowC (ws := [[48, 46, 48, 46, 48, 46, 48, 47, 48]]) (by rw [allocs_size]; exact Nat.add_lt_add_left (show 4 < (os4 w.heap.size).length from (by decide : 4 < 15)) _) (at1 (allocs_cell _ w 4 0 _ _ _ rfl rfl)) (rows4_ok _ (List.mem_of_getElem? (i := 4) rfl))⟩
  · exact ⟨[48, 46, 48, 46, 48, 46, 49, 45, 50, 53, 53, 46, 50, 53, 53, 46, 50, 53, 53, 46, 50, 53, 53], .slice none 0 0, allocs_cell _ w 14 10 _ _ _ rfl rfl, allocs_cell _ w 14 11 _ _ _ rfl rfl, rowA _ (rows4_ok _ (List.mem_of_getElem? (i := 5) rfl))⟩
  · exact ⟨[58, 58, 45, 102, 102, 102, 102, 58, 102, 102, 102, 102, 58, 102, 102, 102, 102, 58, 102, 102, 102, 102, 58, 102, 102, 102, 102, 58, 102, 102, 102, 102, 58, 102, 102, 102, 102, 58, 102, 102, 102, 102], .slice (some ⟨w.heap.size + 5, 0, none⟩) 1 1, allocs_cell _ w 14 12 _ _ _ rfl rfl, allocs_cell _ w 14 13 _ _ _ rfl rfl, rowC (ws := [[58, 58, 47, 48]]) (by rw [allocs_size]; exact Nat.add_lt_add_left (show 5 < (os4 w.heap.size).length from (by decide : 5 < 15)) _) (at1 (allocs_cell _ w 5 0 _ _ _ rfl rfl)) (rows4_ok _ (List.mem_of_getElem? (i := 6) rfl))⟩
  · exact ⟨[50, 48, 48, 49, 58, 100, 98, 56, 58, 58, 45, 50, 48, 48, 49, 58, 100, 98, 56, 58, 58, 49, 58, 48], .slice (some ⟨w.heap.size + 6, 0, none⟩) 2 2, allocs_cell _ w 14 14 _ _ _ rfl rfl, allocs_cell _ w 14 15 _ _ _ rfl rfl, rowC (ws := [[50, 48, 48, 49, 58, 100, 98, 56, 58, 58, 47, 49, 49, 50], [50, 48, 48, 49, 58, 100, 98, 56, 58, 58, 49, 58, 48, 47, 49, 50, 56]]) (by rw [allocs_size]; exact Nat.add_lt_add_left (show 6 < (os4 w.heap.size).length from (by decide : 6 < 15)) _) (at2 ⟨(allocs_cell _ w 6 0 _ _ _ rfl rfl), (allocs_cell _ w 6 1 _ _ _ rfl rfl)⟩) (rows4_ok _ (List.mem_of_getElem? (i := 7) rfl))⟩
  · exact ⟨[49, 48, 46, 48, 46, 48, 46, 50, 45, 49, 48, 46, 48, 46, 48, 46, 49], .slice (some ⟨w.heap.size + 7, 0, none⟩) 1 1, allocs_cell _ w 14 16 _ _ _ rfl rfl, allocs_cell _ w 14 17 _ _ _ rfl rfl, rowB (by rw [allocs_size]; exact Nat.add_lt_add_left (show 7 < (os4 w.heap.size).length from (by decide : 7 < 15)) _) (allocs_cell _ w 7 0 _ _ _ rfl rfl) (rows4_ok _ (List.mem_of_getElem? (i := 8) rfl))⟩
  · exact ⟨[49, 48, 46, 48, 46, 48, 46, 49, 45, 58, 58, 49], .slice (some ⟨w.heap.size + 8, 0, none⟩) 1 1, allocs_cell _ w 14 18 _ _ _ rfl rfl, allocs_cell _ w 14 19 _ _ _ rfl rfl, rowB (by rw [allocs_size]; exact Nat.add_lt_add_left (show 8 < (os4 w.heap.size).length from (by decide : 8 < 15)) _) (allocs_cell _ w 8 0 _ _ _ rfl rfl) (rows4_ok _ (List.mem_of_getElem? (i := 9) rfl))⟩
  · exact ⟨[49, 48, 46, 48, 46, 48, 46, 49], .slice (some ⟨w.heap.size + 9, 0, none⟩) 1 1, allocs_cell _ w 14 20 _ _ _ rfl rfl, allocs_cell _ w 14 21 _ _ _ rfl rfl, rowB (by rw [allocs_size]; exact Nat.add_lt_add_left (show 9 < (os4 w.heap.size).length from (by decide : 9 < 15)) _) (allocs_cell _ w 9 0 _ _ _ rfl rfl) (rows4_ok _ (List.mem_of_getElem? (i := 10) rfl))⟩
  · exact ⟨[49, 48, 46, 48, 46, 48, 46, 49, 45, 49, 48, 46, 48, 46, 48, 46, 50, 45, 49, 48, 46, 48, 46, 48, 46, 51], .slice (some ⟨w.heap.size + 10, 0, none⟩) 1 1, allocs_cell _ w 14 22 _ _ _ rfl rfl, allocs_cell _ w 14 23 _ _ _ rfl rfl, rowB (by rw [allocs_size]; exact Nat.add_lt_add_left (show 10 < (os4 w.heap.size).length from (by decide : 10 < 15)) _) (allocs_cell _ w 10 0 _ _ _ rfl rfl) (rows4_ok _ (List.mem_of_getElem? (i := 11) rfl))⟩
  · exact ⟨[49, 48, 46, 48, 46, 48, 46, 49, 32, 45, 32, 49, 48, 46, 48, 46, 48, 46, 50], .slice (some ⟨w.heap.size + 11, 0, none⟩) 1 1, allocs_cell _ w 14 24 _ _ _ rfl rfl, allocs_cell _ w 14 25 _ _ _ rfl rfl, rowB (by rw [allocs_size]; exact Nat.add_lt_add_left (show 11 < (os4 w.heap.size).length from (by decide : 11 < 15)) _) (allocs_cell _ w 11 0 _ _ _ rfl rfl) (rows4_ok _ (List.mem_of_getElem? (i := 12) rfl))⟩
  · exact ⟨[45], .slice (some ⟨w.heap.size + 12, 0, none⟩) 1 1, allocs_cell _ w 14 26 _ _ _ rfl rfl, allocs_cell _ w 14 27 _ _ _ rfl rfl, rowB (by rw [allocs_size]; exact Nat.add_lt_add_left (show 12 < (os4 w.heap.size).length from (by decide : 12 < 15)) _) (allocs_cell _ w 12 0 _ _ _ rfl rfl) (rows4_ok _ (List.mem_of_getElem? (i := 13) rfl))⟩
  · exact ⟨[50, 53, 53, 46, 50, 53, 53, 46, 50, 53, 53, 46, 50, 53, 52, 45, 50, 53, 53, 46, 50, 53, 53, 46, 50, 53, 53, 46, 50, 53, 53], .slice (some ⟨w.heap.size + 13, 0, none⟩) 1 1, allocs_cell _ w 14 28 _ _ _ rfl rfl, allocs_cell _ w 14 29 _ _ _ rfl rfl, rowC (ws := [[50, 53, 53, 46, 50, 53, 53, 46, 50, 53, 53, 46, 50, 53, 52, 47, 51, 49]]) (by rw [allocs_size]; exact Nat.add_lt_add_left (show 13 < (os4 w.heap.size).length from (by decide : 13 < 15)) _) (at1 (allocs_cell _ w 13 0 _ _ _ rfl rfl)) (rows4_ok _ (List.mem_of_getElem? (i := 14) rfl))⟩
end Go.Proofs.YtkmbfnjmgimlhaaGreatDoor

/- RangForms: whichever row of texts is asked for, the law answers true. -/
namespace Go.Proofs.YtkmbfnjmgimlhaaGreatDoor
open Go.ChangeShapes Go.WideShapes Go.RowKit Go.Sort

theorem eql_nil (a : Option Addr) (l c : Nat) (V : World) : (binOp .eql 36 (.slice a l c) (.slice none 0 0)).run Tryz.prog V = .ok (.bool a.isNone) V := by
  simp only [binOp]
  simp [run_equal_slice_nil V 36 9 a l c Tryz.underlying36]
set_option maxHeartbeats 16000000 in
set_option maxRecDepth 100000 in
theorem gforms_walk (n : Int) (w : World) (hg : Gl w) :
    Calls Tryz.prog 4 #[.int .i64 n] w fun e w' => e = .returned (.bool true) ∧ Below w.heap.size w w' := by
  have HG := Lib.hid hg
  obtain ⟨k, hk, hkk⟩ : ∃ k : Nat, k < 15 ∧ (bits BinOp.and IntKind.i64 n 255).tmod 15 = (k : Int) := by
    obtain ⟨i, _, hi, _⟩ := and255_nat n
    refine ⟨i % 15, Nat.mod_lt _ (by decide), ?_⟩
    rw [hi]; exact tmod_nat i 14
  clear hg
  go_enter Tryz.func4, Tryz.ntmps4
  go_upto_region 1 with fail
  go_cut [3] (fun v wx => ∃ M, v = .slice (some ⟨M, 0, none⟩) 15 15 ∧ M < wx.heap.size ∧ (∀ k, k < 15 → ∃ s sv, wx.cell? ⟨M, k * 2, none⟩ = some (.string (baS s)) ∧ wx.cell? ⟨M, k * 2 + 1, none⟩ = some sv ∧ FormRow wx s sv) ∧ Below w.heap.size w wx)
  case first =>
    go_wp2_with fail
    go_meet
    exact ⟨w.heap.size + 14, rfl, (allocs_size (os4 w.heap.size) w ▸ Nat.add_lt_add_left (show 14 < (os4 w.heap.size).length from (by decide : 14 < 15)) _ : w.heap.size + 14 < (allocs w (os4 w.heap.size)).heap.size), forms_rel w, allocs_below (os4 w.heap.size) w⟩
  case rest =>
    obtain ⟨M, rfl, hM, hrows, BX⟩ := hcut
    obtain ⟨s, sv, h1, h2, hF⟩ := hrows k hk
    have GX := Lib.hid (HG.out.below BX)
    have hk0 : (0 : Int) ≤ k := by omega
    have hk1 : (k : Int) < 15 := by omega
    clear hrows HG
    obtain ⟨hs, ⟨rfl, v, x, y, hr, hx, hy, hl⟩ | ⟨g, rfl, hg, hc, hr⟩ | ⟨g, ws, v, x, y, rfl, hg, hc, hw0, hw1, hr, hx, hy, ht, htr⟩⟩ := hF
    · have HS : Hid ((baS s).size < 4294967281) := by show s.length < _; omega
      have HP := Lib.hid (fun w hg => parseG_some (baS s) v x y w hg HS.out hr)
      have HC := Lib.hid (fun w hg => cover_x v x v y w hg hx hy)
      have HL := Lib.hid hl
      clear hs hr hx hy hl hM
      go_wp2_with fail
      refine (HP.out _ (GX.out.alloc _)).mono ?_
      rintro e w1 ⟨rfl, hb1⟩
      have G1 := (GX.out.alloc (.cells #[.string (baS s), .slice none 0 0] 49)).below hb1
      have B1 := below_next (ball BX) hb1
      have q1 : w1.cell? ⟨wc.heap.size, 1, none⟩ = some (.slice none 0 0) := by rw [(keep hb1 wc.heap.size (by simp)).1]; simp [go_sem]
      have l1 := (keep hb1 wc.heap.size (by simp)).2
      clear h1 h2 hb1 BX GX hk0 hk1 hk hkk HP
      go_wp2_with fail
      refine (HC.out _ (G1.alloc _).tz).mono ?_
      rintro e w2 ⟨hb2, pc, c, rfl, hc, _⟩
      have G2 := Lib.hid ((G1.alloc (.cells #[.int .i64 v, .int .u64 (hiQ x), .int .u64 (loQ x), .int .i64 v, .int .u64 (hiQ y), .int .u64 (loQ y)] 52)).below hb2)
      have B2 := below_next (ball B1) hb2
      replace q1 := ((keep (below_next (ball (Below.refl w1.heap.size w1)) hb2) wc.heap.size l1).1 1).trans q1
      rw [HL.out]
      clear G1 B1 hb2 HC hc l1
      have hnil := eql_nil none 0 0
      go_wp2_with fail
      refine (awake4_x _ G2.out).mono ?_
      rintro e w3 ⟨rfl, hb3⟩
      have B3 := below_next B2 hb3
      go_wp2
      go_ret
      exact ⟨rfl, B3⟩
    · have HS : Hid ((baS s).size < 4294967281) := by show s.length < _; omega
      have HP := Lib.hid (fun w hg => parseG_none (baS s) w hg HS.out hr)
      have HC : Hid (∀ w, TabOk w → Calls Tryz.prog 33 #[.agg #[.int .i64 0, .int .u64 0, .int .u64 0, .int .i64 0, .int .u64 0, .int .u64 0]] w fun e w' => CoverE w 0 [] e w') := fun w ht => cover_x 0 0 0 0 w ht (by decide) (by decide)
      have HPr : Hid (∀ w, Gl w → Calls Tryz.prog 35 #[.agg #[.int .i64 0, .int .u64 0, .int .u64 0, .int .i64 0, .int .u64 0, .int .u64 0]] w fun e w' => e = .returned (.string ⟨#[]⟩) ∧ Below w.heap.size w w') := fun w hg => printG_is 0 0 0 0 w hg (by decide) (by decide) _ rfl
      clear hs hr hM
      go_wp2_with fail
      refine (HP.out _ (GX.out.alloc _)).mono ?_
      rintro e w1 ⟨rfl, hb1⟩
      have G1 := (GX.out.alloc (.cells #[.string (baS s), .slice (some ⟨g, 0, none⟩) 1 1] 49)).below hb1
      have B1 := below_next (ball BX) hb1
      have q1 : w1.cell? ⟨wc.heap.size, 1, none⟩ = some (.slice (some ⟨g, 0, none⟩) 1 1) := by rw [(keep hb1 wc.heap.size (by simp)).1]; simp [go_sem]
      have l1 := (keep hb1 wc.heap.size (by simp)).2
      have hc1 := ((keep (below_next (ball (Below.refl wc.heap.size wc)) hb1) g hg).1 0).trans hc
      have lg1 := (keep (below_next (ball (Below.refl wc.heap.size wc)) hb1) g hg).2
      clear h1 h2 hb1 BX GX hk0 hk1 hk hkk HP hc hg
      go_wp2_with fail
      refine (HC.out _ (G1.alloc _).tz).mono ?_
      rintro e w2 ⟨hb2, pc, c, rfl, hc, _⟩
      have G2 := (G1.alloc (.cells #[.int .i64 0, .int .u64 0, .int .u64 0, .int .i64 0, .int .u64 0, .int .u64 0] 52)).below hb2
      have B2 := below_next (ball B1) hb2
      replace q1 := ((keep (below_next (ball (Below.refl w1.heap.size w1)) hb2) wc.heap.size l1).1 1).trans q1
      replace hc1 := ((keep (below_next (ball (Below.refl w1.heap.size w1)) hb2) g lg1).1 0).trans hc1
      have R2 := (rl_new w1 0 0 0 0 0 0).below hb2
      obtain ⟨r0, r1, r2, r3, r4, r5, rl⟩ := R2
      clear G1 B1 hb2 HC hc l1 lg1
      simp only [List.length_nil]
      have hnil := eql_nil (some ⟨g, 0, none⟩) 1 1
      go_wp2_with fail
      refine (HPr.out _ G2).mono ?_
      rintro e w3 ⟨rfl, hb3⟩
      have B3 := below_next B2 hb3
      have G3 := Lib.hid (G2.below hb3)
      clear G2 B2 hb3 r0 r1 r2 r3 r4 r5 rl q1 hc1
      go_wp2_with fail
      refine (awake4_x _ G3.out).mono ?_
      rintro e w4 ⟨rfl, hb4⟩
      have B4 := below_next B3 hb4
      go_wp2
      go_ret
      exact ⟨rfl, B4⟩
    · have HS : Hid ((baS s).size < 4294967281) := by show s.length < _; omega
      have HP := Lib.hid (fun w hg => parseG_some (baS s) v x y w hg HS.out hr)
      have HC := Lib.hid (fun w hg => cover_x v x v y w hg hx hy)
      have HPr : Hid (∀ w, Gl w → Calls Tryz.prog 35 #[rgV v x v y] w fun e w' => e = .returned (.string (baS s)) ∧ Below w.heap.size w w') := fun w hg => printG_is v x v y w hg hx hy _ (by rw [htr])
      have hlen : (coverR v x v y).length = ws.length := by rw [← ht]; simp [tellC]
      have hcnt : ws.length ≤ 258 := hlen ▸ coverR_count (v := (v : Int)) (x := x) (u := (v : Int)) hy
      have hcov := fun p hp => (cover_in (hi := y) x p hp)
      have HLt : Hid (∀ p ∈ coverR v x v y, p.1 < 340282366920938463463374607431768211456) := fun p hp => by
        unfold coverR at hp
        split at hp
        · have := hcov p hp; have := two_pos p.2; omega
        · cases hp
      have HT := Lib.hid ht
      obtain ⟨t0, hh0, ht0⟩ : ∃ t0, ws[0]? = some t0 ∧ t0 ≠ [] := by
        cases ws with
        | nil => exact absurd rfl hw0
        | cons a b => exact ⟨a, rfl, fun e => hw1 (by rw [e]; rfl)⟩
      have hpos : 0 < ws.length := List.length_pos_iff.2 hw0
      have HW0 := Lib.hid (ne_listS ht0)
      have hc0 := hc 0 t0 hh0
      clear hs hr hx hy hM htr hcov ht hw0 hw1 hh0 ht0
      generalize coverR v x v y = cov at *
      go_wp2_with fail
      refine (HP.out _ (GX.out.alloc _)).mono ?_
      rintro e w1 ⟨rfl, hb1⟩
      have G1 := (GX.out.alloc (.cells #[.string (baS s), .slice (some ⟨g, 0, none⟩) ws.length ws.length] 49)).below hb1
      have B1 := below_next (ball BX) hb1
      have K1 := below_next (ball (Below.refl wc.heap.size wc)) hb1
      have q0 : w1.cell? ⟨wc.heap.size, 0, none⟩ = some (.string (baS s)) := by rw [(keep hb1 wc.heap.size (by simp)).1]; simp [go_sem]
      have q1 : w1.cell? ⟨wc.heap.size, 1, none⟩ = some (.slice (some ⟨g, 0, none⟩) ws.length ws.length) := by rw [(keep hb1 wc.heap.size (by simp)).1]; simp [go_sem]
      have l1 := (keep hb1 wc.heap.size (by simp)).2
      have hw1 : Hid (∀ (j : Nat) (t : Bs), ws[j]? = some t → w1.cell? ⟨g, j, none⟩ = some (.string (baS t))) := fun j t hj => ((keep K1 g hg).1 j).trans (hc j t hj)
      have hc1 := ((keep K1 g hg).1 0).trans hc0
      have lg1 := (keep K1 g hg).2
      clear h1 h2 hb1 BX GX hk0 hk1 hk hkk HP hc hg K1 hc0
      go_wp2_with fail
      refine (HC.out _ (G1.alloc _).tz).mono ?_
      rintro e w2 ⟨hb2, pc, c, rfl, hcc, hrow⟩
      obtain ⟨gc, rfl, hgc0, hgcl, hR⟩ := hrow.resolve_left (fun h => by rw [h.1] at hlen; simp at hlen; omega)
      have G2 := (G1.alloc (.cells #[.int .i64 v, .int .u64 (hiQ x), .int .u64 (loQ x), .int .i64 v, .int .u64 (hiQ y), .int .u64 (loQ y)] 52)).below hb2
      have B2 := below_next (ball B1) hb2
      have K2 := below_next (ball (Below.refl w1.heap.size w1)) hb2
      replace q0 := ((keep K2 wc.heap.size l1).1 0).trans q0
      replace q1 := ((keep K2 wc.heap.size l1).1 1).trans q1
      have l2 := (keep K2 wc.heap.size l1).2
      have hw2 : Hid (∀ (j : Nat) (t : Bs), ws[j]? = some t → w2.cell? ⟨g, j, none⟩ = some (.string (baS t))) := fun j t hj => ((keep K2 g lg1).1 j).trans (hw1.out j t hj)
      replace hc1 := ((keep K2 g lg1).1 0).trans hc1
      have lg2 := (keep K2 g lg1).2
      have R2 := (rl_new w1 v (hiQ x) (loQ x) v (hiQ y) (loQ y)).below hb2
      have HR := Lib.hid hR
      have hle : ws.length ≤ c := by omega
      rw [hlen]
      obtain ⟨L, hL⟩ : ∃ L, ws.length = L := ⟨_, rfl⟩
      have HLen := Lib.hid (And.intro hlen hL)
      rw [hL] at q1 hpos hle hcnt ⊢
      have hpos' : (0 : Int) < L := by omega
      have GV := Lib.hid G2
      clear G1 B1 hb2 HC hcc l1 lg1 hw1 hR hrow hlen hL K2 hgc0 G2
      have hnil := eql_nil (some ⟨g, 0, none⟩) L L
      have hne0 := HW0.out
      go_upto_region 9 with fail
      clear hnil hne0 HW0 hc1
      obtain ⟨r0, r1, r2, r3, r4, r5, rl⟩ := R2
      have e0 := cell_regrown q0; have e1 := cell_regrown q1
      have a0 := cell_regrown r0; have a1 := cell_regrown r1; have a2 := cell_regrown r2; have a3 := cell_regrown r3; have a4 := cell_regrown r4; have a5 := cell_regrown r5
      refine wp_region_quiet_below (by kernel_rfl) (by kernel_rfl) ?_
      repeat (go_big_quiet_step (first
        | (go_at_call 35; exact Calls.regrown_of (HPr.out _ (GV.out.below (below_regrown w2 _ _))))))
      refine wpQuiet_nil ?_
      intro _ hw'
      obtain ⟨⟨dq, osq⟩, hw''⟩ := hw'
      subst hw''
      have KV := below_regrown w2 dq osq
      have BV := below_next B2 KV
      have q1V := ((keep KV wc.heap.size l2).1 1).trans q1
      have lV := (keep KV wc.heap.size l2).2
      have hwV : Hid (∀ (j : Nat) (t : Bs), ws[j]? = some t → (grow (redrawn w2 dq) osq).cell? ⟨g, j, none⟩ = some (.string (baS t))) := fun j t hj => ((keep KV g lg2).1 j).trans (hw2.out j t hj)
      have lgV := (keep KV g lg2).2
      have HRV := Lib.hid (HR.out.below KV hgcl)
      have lcV := (keep KV gc hgcl).2
      have GVV := Lib.hid (GV.out.below KV)
      dsimp only at *
      generalize grow (redrawn w2 dq) osq = V at *
      clear KV B2 q0 q1 l2 hw2 lg2 HR hgcl GV e0 e1 a0 a1 a2 a3 a4 a5 r0 r1 r2 r3 r4 r5 rl HPr
      go_wp2_with fail
      go_loopw [106] (fun iv wr => ∃ i : Nat, iv = .int .i64 i ∧ i ≤ L ∧ Below V.heap.size V wr)
        (fun iv _ => L - (intOf iv).toNat)
      case atStart => exact ⟨0, rfl, by omega, Below.refl _ _⟩
      case round =>
        obtain ⟨i, rfl, hi, hb⟩ := hrel
        by_cases hiL : i < L
        · have hi0 : (0 : Int) ≤ i := by omega
          have hi1 : (i : Int) < L := by omega
          have hi2 : (i : Int) < c := by omega
          have hic : i < cov.length := by rw [HLen.out.1, HLen.out.2]; exact hiL
          have hget : cov[i]? = some (cov[i]'hic) := List.getElem?_eq_getElem hic
          have hmem := List.getElem_mem hic
          obtain ⟨⟨a, m⟩, ham⟩ : ∃ p, cov[i]'hic = p := ⟨_, rfl⟩
          rw [ham] at hget hmem
          have hws : ws[i]? = some (tellP v a ((bitsV v : Int) - m)) := by rw [← HT.out]; unfold tellC; rw [List.getElem?_map, hget]; rfl
          obtain ⟨p0, p1, p2, p3⟩ := HRV.out i a m hget
          have p4 := hwV.out i _ hws
          have HPP : Hid (∀ w, Calls Tryz.prog 11 #[.agg #[.int .i64 v, .int .u64 (hiQ a), .int .u64 (loQ a), .int .i64 ((bitsV v : Int) - m)]] w fun e w' => e = .returned (.string (baS (tellP v a ((bitsV v : Int) - m)))) ∧ Below w.heap.size w w') := fun w => refPrintP_x v a _ w (HLt.out _ hmem)
          generalize tellP v a ((bitsV v : Int) - m) = t at *
          generalize (bitsV v : Int) - m = z at *
          obtain ⟨kc, lc⟩ := keep hb gc lcV
          obtain ⟨kg, lg⟩ := keep hb g lgV
          have e0 := cell_regrown ((kc _).trans p0); have e1 := cell_regrown ((kc _).trans p1); have e2 := cell_regrown ((kc _).trans p2); have e3 := cell_regrown ((kc _).trans p3)
          have e4 := cell_regrown ((kg _).trans p4)
          have e5 := cell_regrown (((keep hb wc.heap.size lV).1 1).trans q1V)
          clear hget hmem ham hws p0 p1 p2 p3 p4 kc kg hic
          go_wp2_with fail
          refine wp_region_quiet_below (by kernel_rfl) (by kernel_rfl) ?_
          repeat (go_big_quiet_step (first
            | (go_at_call 11; exact Calls.regrown_of (HPP.out _))))
          refine wpQuiet_nil ?_
          intro _ hw'
          obtain ⟨⟨dq, osq⟩, hw''⟩ := hw'
          subst hw''
          have BR := below_next hb (below_regrown wr dq osq)
          dsimp only at *
          generalize grow (redrawn wr dq) osq = U at *
          clear e0 e1 e2 e3 e4 e5
          go_wp2
          go_roundw
          case rel => exact ⟨i + 1, by go_num, by omega, BR⟩
          case measure => simp [intOf]; omega
        · obtain rfl : i = L := by omega
          have hil : ¬ (i : Int) < i := by omega
          go_wp2_with fail
          refine (awake4_x _ (GVV.out.below hb)).mono ?_
          rintro e w3 ⟨rfl, hb3⟩
          have B3 := below_next (below_next BV hb) hb3
          go_wp2
          go_ret
          exact ⟨rfl, B3⟩
end Go.Proofs.YtkmbfnjmgimlhaaGreatDoor
