/- The second writing's row: mathematics of its walk over the parts. -/
import Derived.Test.YtfmanmidihofgaaDoorXh
import Derived.Test.YtfmanmidihofgaaDoorWn
import Derived.Test.YtfmanmidihofgaaDoorTb
namespace Go.Proofs.YtfmanmidihofgaaDoor
open Go.ChangeShapes Go.WideShapes Go.RowKit Go.Sort

/-- What is left of the parts when the walk stands at a place, the part's first byte at another. -/
def restP (s : Bs) (a f k : Nat) : List Tk ⊕ (Nat × Nat) := if k ≤ s.length then partsA (a + f) (pieceV s f k) (a + k) (s.drop k) else .inl []
theorem preT_nil (r : List Tk ⊕ (Nat × Nat)) : preT [] r = r := by cases r <;> rfl
theorem preT_preT (x y : List Tk) (r : List Tk ⊕ (Nat × Nat)) : preT x (preT y r) = preT (x ++ y) r := by cases r <;> simp [preT]
theorem restP_start (s : Bs) (a f : Nat) (h : f ≤ s.length) : restP s a f f = partsA (a + f) [] (a + f) (s.drop f) := by
  unfold restP; rw [if_pos h, piece_nil]
theorem restP_go {s : Bs} {a f k : Nat} {c : UInt8} (h : s[k]? = some c) (hf : f ≤ k) (h1 : c ≠ 44) (h2 : prtB c = true) : restP s a f k = restP s a f (k + 1) := by
  have hk := (List.getElem?_eq_some_iff.1 h).1
  unfold restP
  rw [if_pos (by omega), if_pos (by omega), drop_cons8 h, ← piece_snoc h hf |>.symm]
  conv => lhs; unfold partsA
  rw [if_neg h1, if_pos h2]; rfl
theorem restP_bad {s : Bs} {a f k : Nat} {c : UInt8} (h : s[k]? = some c) (h1 : c ≠ 44) (h2 : prtB c = false) : restP s a f k = .inr (1, a + k) := by
  have hk := (List.getElem?_eq_some_iff.1 h).1
  unfold restP
  rw [if_pos (by omega), drop_cons8 h]
  unfold partsA
  rw [if_neg h1, if_neg (by simp [h2])]
theorem restP_off (s : Bs) (a f k : Nat) (h : s.length < k) : restP s a f k = .inl [] := if_neg (by omega)
theorem restP_cut {s : Bs} {a f k : Nat} (hk : k ≤ s.length) (h : k < s.length → s[k]? = some 44) : restP s a f k = if 255 < k - f then .inr (2, a + f) else preT [(6, pieceV s f k, a + f)] (restP s a (k + 1) (k + 1)) := by
  have hl := piece_len (l := s) (f := f) hk
  by_cases hlt : k < s.length
  · have h44 := h hlt
    have e : restP s a f k = partsA (a + f) (pieceV s f k) (a + k) (44 :: s.drop (k + 1)) := by unfold restP; rw [if_pos hk, drop_cons8 h44]
    rw [e]
    unfold partsA
    rw [if_pos rfl, hl, restP_start s a (k + 1) (by omega)]
    by_cases hx : 255 < k - f
    · rw [if_pos hx, if_pos hx]
    · rw [if_neg hx, if_neg hx]
      have e2 : a + k + 1 = a + (k + 1) := by omega
      rw [e2]
      cases partsA (a + (k + 1)) [] (a + (k + 1)) (s.drop (k + 1)) <;> rfl
  · obtain rfl : k = s.length := by omega
    have e : restP s a f s.length = partsA (a + f) (pieceV s f s.length) (a + s.length) [] := by unfold restP; rw [if_pos hk, List.drop_length]
    rw [e, restP_off s a _ _ (by omega)]
    unfold partsA
    rw [hl]
    by_cases hx : 255 < s.length - f
    · rw [if_pos hx, if_pos hx]
    · rw [if_neg hx, if_neg hx]; rfl
theorem prt_num (c : UInt8) : prtB c = (decide (32 ≤ (c.toNat : Int)) && decide ((c.toNat : Int) ≤ 126)) := by
  have : ∀ n, n < 256 → prtB (UInt8.ofNat n) = (decide (32 ≤ (n : Int)) && decide ((n : Int) ≤ 126)) := by decide +kernel
  have h := this c.toNat c.toNat_lt
  rwa [show UInt8.ofNat c.toNat = c by simp] at h
theorem is44 (c : UInt8) : c = 44 ↔ (c.toNat : Int) = 44 := ⟨fun e => by subst e; rfl, fun e => UInt8.toNat_inj.1 (by show c.toNat = 44; omega)⟩
/-- Both results written, in no drawn order. -/
theorem five_plain {z : Nat} {W X : World} {r0 r1 r2 k x : Value} (F : FrR z W) (hX : ((((W.setCell ⟨z + 1, 0, none⟩ r0).setCell ⟨z + 1, 1, none⟩ r1).setCell ⟨z + 1, 2, none⟩ r2).setCell ⟨z + 1 + 1, 0, none⟩ k).setCell ⟨z + 1 + 1, 1, none⟩ x = X) :
    (X.cell? ⟨z + 1, 0, none⟩ = some r0 ∧ X.cell? ⟨z + 1, 1, none⟩ = some r1 ∧ X.cell? ⟨z + 1, 2, none⟩ = some r2 ∧ X.cell? ⟨z + 1 + 1, 0, none⟩ = some k ∧ X.cell? ⟨z + 1 + 1, 1, none⟩ = some x) ∧ (∀ w, w.heap.size ≤ z → Below w.heap.size w W → Below w.heap.size w X) ∧ W.heap.size ≤ X.heap.size ∧ ∀ g, z + 3 ≤ g → ∀ o, X.cell? ⟨g, o, none⟩ = W.cell? ⟨g, o, none⟩ := by
  obtain ⟨h1, _, h3, h4⟩ := five_set (X := X.drew) F (by rw [hX])
  refine ⟨h1, fun w hw hb => ?_, h3, h4⟩
  subst hX
  exact ((((hb.setCell (by simp; omega) _).setCell (by simp; omega) _).setCell (by simp; omega) _).setCell (by simp; omega) _).setCell (by simp; omega) _
end Go.Proofs.YtfmanmidihofgaaDoor
