/- What Parse answers, of bytes that were just made of a text. -/
import Derived.Test.YtcfminkmidaaoaaDoorVw
namespace Go.Proofs.YtcfminkmidaaoaaDoor
open Go.ChangeShapes Go.WideShapes Go.RowKit Go.Sort
/-- What Parse answers, in one form. -/
def outC : RR → List (List Tk) × Nat × Nat
  | .ok L => (L, 0, 0)
  | .bad k a => ([], k, a)
theorem RecP.none {α : Type} (R : RowP α) (w : World) : RecP R w none [] := fun j row hj => by simp at hj
theorem RecsE.out {w w' : World} {l : Bs} {e : Ending} {L : List (List Tk)} {K A : Nat} (h : RecsE w l e w') (ho : outC (recV l) = (L, K, A)) : (∃ p c, e = .returned (.tuple #[.slice p L.length c, .agg #[.int .i64 (K : Int), .int .i64 (A : Int)]]) ∧ RecP tokP w' p L ∧ L.length ≤ l.length) ∧ Below w.heap.size w w' := by
  unfold RecsE at h
  cases ht : recV l with
  | ok M =>
    rw [ht] at h ho
    unfold outC at ho
    cases ho
    obtain ⟨⟨p, c, e1, e2, e3⟩, hb⟩ := h
    exact ⟨⟨p, c, e1, e2, e3⟩, hb⟩
  | bad k a =>
    rw [ht] at h ho
    unfold outC at ho
    cases ho
    exact ⟨⟨none, 0, h.1, RecP.none _ _, Nat.zero_le _⟩, h.2⟩
theorem parse_s (l : Bs) (V : World) (hl : l.length ≤ 1000000) :
    Calls Tryd.prog 8 #[.slice (some ⟨V.heap.size, 0, none⟩) (baS l).size (grownCap V (baS l).size 0 5)] (Lib.bytesWorld V 5 (baS l)) fun e w' => RecsE V l e w' := by
  rw [baS_size]
  refine (parse_x l _ _ _ (bytes_conv V l) (grownCap_ge _ _ _ _) hl).mono fun e w' h => ?_
  unfold RecsE at h ⊢
  exact ⟨h.1, below_next (conv_below V l) h.2⟩
end Go.Proofs.YtcfminkmidaaoaaDoor
