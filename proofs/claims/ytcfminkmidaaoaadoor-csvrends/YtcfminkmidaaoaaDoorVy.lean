/- Records of two signs each, with either end: as mathematics. -/
import Derived.Test.YtcfminkmidaaoaaDoorVu
import Derived.Test.YtcfminkmidaaoaaDoorVo
namespace Go.Proofs.YtcfminkmidaaoaaDoor
open Go.ChangeShapes Go.WideShapes Go.RowKit Go.Sort
def unitE (i j : Nat) : Bs := [UInt8.ofNat (97 + i), UInt8.ofNat (97 + j)]
def fieldsE (k i : Nat) : List Bs := (List.range k).map (unitE i)
def rowsE (k : Nat) (es : List Bs) : List (List Bs × Bs) := (List.range es.length).map fun i => (fieldsE k i, es.getD i [])
def textE (k : Nat) (es : List Bs) : Bs := rendV (fun _ s => s) (rowsE k es)
theorem fieldsE_get {k i j : Nat} (h : j < k) : (fieldsE k i)[j]? = some (unitE i j) := by simp [fieldsE, h]
theorem fieldsE_len (k i : Nat) : (fieldsE k i).length = k := by simp [fieldsE]
theorem rowsE_snoc (k : Nat) (es : List Bs) (e : Bs) : rowsE k (es ++ [e]) = rowsE k es ++ [(fieldsE k es.length, e)] := by
  unfold rowsE
  rw [List.length_append, List.length_singleton, List.range_succ, List.map_append]
  congr 1
  · apply List.map_congr_left
    intro i hi
    rw [List.mem_range] at hi
    simp [List.getD, List.getElem?_append_left hi]
  · simp [List.getD]
theorem textE_snoc (k : Nat) (es : List Bs) (e : Bs) : textE k (es ++ [e]) = textE k es ++ joinP (fun s => s) (fieldsE k es.length) ++ e := by
  unfold textE
  rw [rowsE_snoc]
  simp [rendV]
theorem joinE_len (k i j : Nat) : (joinP (fun s => s) ((fieldsE k i).take j)).length ≤ 3 * j := by
  have h3 : joinP (fun s => s) ((fieldsE k i).take j) = (((fieldsE k i).take j).flatMap (fun s => 44 :: s)).drop 1 := rfl
  rw [h3, List.length_drop]
  have : ∀ q : List Nat, ((q.map (unitE i)).flatMap (fun s => 44 :: s)).length ≤ 3 * q.length := by
    intro q
    induction q with
    | nil => simp
    | cons a r ih => rw [List.map_cons, List.flatMap_cons, List.length_append, List.length_cons, List.length_cons]; simp [unitE] at ih ⊢; omega
  have h2 : (fieldsE k i).take j = ((List.range k).take j).map (unitE i) := by unfold fieldsE; rw [List.map_take]
  rw [h2]
  have := this ((List.range k).take j)
  rw [List.length_take] at this
  omega
/-- Each end but the last one is one. -/
def GoodE (n : Nat) (es : List Bs) : Prop := ∀ (j : Nat) (e : Bs), es[j]? = some e → e = [10] ∨ e = [13, 10] ∨ (j + 1 = n ∧ e = [])
theorem GoodE.snoc {n : Nat} {es : List Bs} {e : Bs} (h : GoodE n es) (he : e = [10] ∨ e = [13, 10] ∨ (es.length + 1 = n ∧ e = [])) : GoodE n (es ++ [e]) := fun j x hj => by
  by_cases hl : j < es.length
  · rw [List.getElem?_append_left hl] at hj; exact h j x hj
  · rw [List.getElem?_append_right (by omega)] at hj
    have hj2 := (List.getElem?_eq_some_iff.1 hj).1
    simp at hj2
    obtain rfl : j = es.length := by omega
    simp at hj
    subst hj
    exact he
theorem ends_okE : ∀ (rows : List (List Bs × Bs)), (∀ (j : Nat) p, rows[j]? = some p → p.2 = [10] ∨ p.2 = [13, 10] ∨ (j + 1 = rows.length ∧ p.2 = [])) → EndsOk rows
  | [], _ => trivial
  | p :: q, h => ⟨by
      rcases h 0 p rfl with h1 | h1 | ⟨h1, h2⟩
      · exact Or.inl h1
      · exact Or.inr (Or.inl h1)
      · exact Or.inr (Or.inr ⟨by simp at h1; exact h1, h2⟩), ends_okE q (fun j x hj => by
      rcases h (j + 1) x (by simpa using hj) with h1 | h1 | ⟨h1, h2⟩
      · exact Or.inl h1
      · exact Or.inr (Or.inl h1)
      · exact Or.inr (Or.inr ⟨by simp at h1; omega, h2⟩))⟩
theorem unit_plain {i j : Nat} (hi : i < 8) (hj : j < 4) : ∀ c ∈ unitE i j, plainB c = true := by
  have : ∀ i, i < 8 → ∀ j, j < 4 → (unitE i j).all plainB = true := by decide +kernel
  exact List.all_eq_true.1 (this i hi j hj)
/-- What is read of such a text. -/
theorem text_back {n k : Nat} {es : List Bs} (hn : n ≤ 8) (hk : k ≤ 4) (hk1 : 1 ≤ k) (hl : es.length = n) (hg : GoodE n es) : ∃ L, recV (textE k es) = .ok L ∧ L.length = n ∧ ∀ i, i < n → ∃ o : List Tk, L[i]? = some o ∧ o.length = k ∧ ∀ j, j < k → ∃ a, o[j]? = some (5, unitE i j, a) ∧ a + 2 ≤ (textE k es).length ∧ ((textE k es).drop a).take 2 = unitE i j := by
  have hlen : (rowsE k es).length = n := by simp [rowsE, hl]
  have hget : ∀ i, i < n → (rowsE k es)[i]? = some (fieldsE k i, es.getD i []) := fun i hi => by simp [rowsE, hl, hi]
  have hmem : ∀ p ∈ rowsE k es, ∃ i, i < n ∧ p = (fieldsE k i, es.getD i []) := fun p hp => by
    obtain ⟨i, hi, rfl⟩ := List.mem_map.1 hp
    exact ⟨i, by rw [List.mem_range] at hi; omega, rfl⟩
  have he : EndsOk (rowsE k es) := ends_okE _ (fun j p hj => by
    have hj2 := (List.getElem?_eq_some_iff.1 hj).1
    rw [hlen] at hj2
    rw [hget j hj2] at hj
    cases hj
    rw [hlen]
    exact hg j (es.getD j []) (by simp [List.getD, List.getElem?_eq_getElem (show j < es.length by omega)]))
  obtain ⟨L, h1, h2, h3⟩ := ends_back (rowsE k es) he (fun p hp => by
    obtain ⟨i, hi, rfl⟩ := hmem p hp
    refine ⟨fun e => ?_, fun s hs => ?_⟩
    · have := congrArg List.length e
      simp [fieldsE] at this; omega
    · simp only [fieldsE, List.mem_map, List.mem_range] at hs
      obtain ⟨j, hj, rfl⟩ := hs
      exact ⟨by simp [unitE], by simp [unitE], unit_plain (by omega) (by omega)⟩)
  refine ⟨L, h1, by rw [h2, hlen], fun i hi => ?_⟩
  obtain ⟨o, a1, a2, a3⟩ := h3 i _ (hget i hi)
  refine ⟨o, a1, by rw [a2, fieldsE_len], fun j hj => ?_⟩
  obtain ⟨a, b1, b2, b3⟩ := a3 j _ (fieldsE_get hj)
  exact ⟨a, b1, b2, b3⟩
end Go.Proofs.YtcfminkmidaaoaaDoor
