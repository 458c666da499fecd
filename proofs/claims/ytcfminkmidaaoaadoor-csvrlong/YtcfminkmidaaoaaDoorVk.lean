/- Rows of rows in memory: each row in its own block, none of them in the block of the row of rows. No program stands in this text but for two kinds of rows. -/
import Derived.Test.YtcfminkmidaaoaaDoorTk
namespace Go.Proofs.YtcfminkmidaaoaaDoor
open Go.ChangeShapes Go.WideShapes Go.RowKit Go.Sort
/-- What is said of one row in memory, and stays true while its block is left alone. -/
structure RowP (α : Type) where
  lies : World → Option Addr → List α → Prop
  keep : ∀ w w' p l, lies w p l → (∀ g, p = some ⟨g, 0, none⟩ → g < w.heap.size → g < w'.heap.size ∧ ∀ o, w'.cell? ⟨g, o, none⟩ = w.cell? ⟨g, o, none⟩) → lies w' p l
  nil : ∀ w p, lies w p []
theorem RowP.below {α : Type} (R : RowP α) {w w' : World} {p : Option Addr} {l : List α} (h : R.lies w p l) (hb : Below w.heap.size w w') : R.lies w' p l :=
  R.keep w w' p l h fun g _ hg => ⟨Nat.lt_of_lt_of_le hg hb.size, fun o => olds hb g o hg⟩
/-- Rows of signs. -/
def tokP : RowP Tk := ⟨TokK, fun w w' p l h k j t hj => by
  obtain ⟨g, e, hg, h0, h1, h2⟩ := h j t hj
  obtain ⟨a, b⟩ := k g e hg
  exact ⟨g, e, a, (b _).trans h0, (b _).trans h1, (b _).trans h2⟩, fun w p j t hj => by simp at hj⟩
/-- Rows of texts. -/
def StrK (w : World) (p : Option Addr) (l : List Bs) : Prop := ∀ (j : Nat) (s : Bs), l[j]? = some s → ∃ g, p = some ⟨g, 0, none⟩ ∧ g < w.heap.size ∧ w.cell? ⟨g, j, none⟩ = some (.string (baS s))
def strP : RowP Bs := ⟨StrK, fun w w' p l h k j t hj => by
  obtain ⟨g, e, hg, h0⟩ := h j t hj
  obtain ⟨a, b⟩ := k g e hg
  exact ⟨g, e, a, (b _).trans h0⟩, fun w p j t hj => by simp at hj⟩
/-- A row of rows that a call has made: the outer row is its own, the inner ones lie elsewhere. -/
structure OutP {α : Type} (R : RowP α) (w : World) (e : TypeId) (base : Nat) (p : Option Addr) (c : Nat) (L : List (List α)) (vs : List Value) : Prop where
  own : w.ownsRow base e 1 (.slice p L.length c) L.length vs
  len : vs.length = L.length
  each : ∀ (j : Nat) (row : List α), L[j]? = some row → ∃ q cq, vs[j]? = some (.slice q row.length cq) ∧ R.lies w q row ∧ ∀ g, q = some ⟨g, 0, none⟩ → g < w.heap.size ∧ (Value.slice p L.length c).ownBlock ≠ some g
theorem OutP.nil {α : Type} (R : RowP α) (w : World) (e : TypeId) (base : Nat) : OutP R w e base none 0 ([] : List (List α)) [] := ⟨World.ownsRow_nil _ _ _ _, rfl, fun j row hj => by simp at hj⟩
theorem OutP.below {α : Type} {R : RowP α} {w w' : World} {e : TypeId} {base c : Nat} {p : Option Addr} {L : List (List α)} {vs : List Value} (h : OutP R w e base p c L vs) (hb : Below w.heap.size w w') : OutP R w' e base p c L vs :=
  ⟨own_next h.own hb, h.len, fun j row hj => by
    obtain ⟨q, cq, h1, h2, h3⟩ := h.each j row hj
    exact ⟨q, cq, h1, R.below h2 hb, fun g hq => ⟨Nat.lt_of_lt_of_le (h3 g hq).1 hb.size, (h3 g hq).2⟩⟩⟩
/-- The row of rows with one more row. -/
theorem OutP.snoc {α : Type} {R : RowP α} {w w' : World} {e : TypeId} {base c g3 cap cq : Nat} {p q : Option Addr} {L : List (List α)} {vs : List Value} {row : List α} (h : OutP R w e base p c L vs) (hr : R.lies w q row) (hq : ∀ g, q = some ⟨g, 0, none⟩ → g < w.heap.size ∧ (Value.slice p L.length c).ownBlock ≠ some g)
    (hown : w'.ownsRow base e 1 (.slice (some ⟨g3, 0, none⟩) (L ++ [row]).length cap) (L ++ [row]).length (vs ++ [.slice q row.length cq])) (hg : w.grownBy w' (Value.slice p L.length c).ownBlock) (hat : (Value.slice p L.length c).ownBlock = some g3 ∨ g3 = w.heap.size) :
    OutP R w' e base (some ⟨g3, 0, none⟩) cap (L ++ [row]) (vs ++ [.slice q row.length cq]) := by
  have hkeep : ∀ g, g < w.heap.size → (Value.slice p L.length c).ownBlock ≠ some g → g < w'.heap.size ∧ ∀ o, w'.cell? ⟨g, o, none⟩ = w.cell? ⟨g, o, none⟩ := fun g hg1 hg2 => by
    obtain ⟨a, _, b⟩ := grown_keep hg g hg1 (fun e => hg2 e.symm)
    exact ⟨b, a⟩
  have hnew : ∀ g, g < w.heap.size → (Value.slice p L.length c).ownBlock ≠ some g → (Value.slice (some ⟨g3, 0, none⟩) (L ++ [row]).length cap).ownBlock ≠ some g := fun g hg1 hg2 he => by
    have : g3 = g := by simpa [Value.ownBlock] using he
    rcases hat with h1 | h1
    · exact hg2 (by rw [h1, this])
    · omega
  have one : ∀ q (r : List α), R.lies w q r → (∀ g, q = some ⟨g, 0, none⟩ → g < w.heap.size ∧ (Value.slice p L.length c).ownBlock ≠ some g) → R.lies w' q r ∧ ∀ g, q = some ⟨g, 0, none⟩ → g < w'.heap.size ∧ (Value.slice (some ⟨g3, 0, none⟩) (L ++ [row]).length cap).ownBlock ≠ some g := fun q r h2 h3 =>
    ⟨R.keep w w' q r h2 (fun g hq' hg' => hkeep g hg' (h3 g hq').2), fun g hq' => ⟨(hkeep g (h3 g hq').1 (h3 g hq').2).1, hnew g (h3 g hq').1 (h3 g hq').2⟩⟩
  refine ⟨hown, by simp [h.len], fun j r hj => ?_⟩
  by_cases hjl : j < L.length
  · rw [List.getElem?_append_left hjl] at hj
    obtain ⟨q', cq', h1, h2, h3⟩ := h.each j r hj
    exact ⟨q', cq', by rw [List.getElem?_append_left (by rw [h.len]; exact hjl)]; exact h1, one q' r h2 h3⟩
  · have hj2 := (List.getElem?_eq_some_iff.1 hj).1
    simp at hj2
    obtain rfl : j = L.length := by omega
    rw [List.getElem?_append_right (Nat.le_refl _), Nat.sub_self] at hj
    simp at hj
    subst hj
    exact ⟨q, cq, by rw [List.getElem?_append_right (by rw [h.len]; exact Nat.le_refl _), h.len, Nat.sub_self]; rfl, one q row hr hq⟩
/-- A row of rows that can be read. -/
def RecP {α : Type} (R : RowP α) (w : World) (p : Option Addr) (L : List (List α)) : Prop := ∀ (j : Nat) (row : List α), L[j]? = some row → ∃ g q cq, p = some ⟨g, 0, none⟩ ∧ g < w.heap.size ∧ w.cell? ⟨g, j, none⟩ = some (.slice q row.length cq) ∧ R.lies w q row
theorem RecP.below {α : Type} {R : RowP α} {w w' : World} {p : Option Addr} {L : List (List α)} (h : RecP R w p L) (hb : Below w.heap.size w w') : RecP R w' p L := fun j row hj => by
  obtain ⟨g, q, cq, e, hg, hc, hr⟩ := h j row hj
  exact ⟨g, q, cq, e, Nat.lt_of_lt_of_le hg hb.size, (olds hb g _ hg).trans hc, R.below hr hb⟩
theorem OutP.read {α : Type} {R : RowP α} {w : World} {e : TypeId} {base c : Nat} {p : Option Addr} {L : List (List α)} {vs : List Value} (h : OutP R w e base p c L vs) : RecP R w p L := fun j row hj => by
  obtain ⟨q, cq, h1, h2, _⟩ := h.each j row hj
  have hjl : j < L.length := (List.getElem?_eq_some_iff.1 hj).1
  have h' := h.own
  rcases h.own.2 with ⟨_, h0⟩ | ⟨g, cap, cur, hv, _, hg2, hcap, _⟩
  · omega
  · obtain ⟨rfl, rfl⟩ : p = some ⟨g, 0, none⟩ ∧ c = cap := by injection hv with a _ b; exact ⟨a, b⟩
    refine ⟨g, q, cq, rfl, (Array.getElem?_eq_some_iff.1 hg2).1, ?_, h2⟩
    rw [h'.cellAt j (by omega)]
    exact h1
end Go.Proofs.YtcfminkmidaaoaaDoor
