/- Drawn regions with guards and calls, with more code behind them: the frame that they leave, slot by slot. -/
import Derived.Test.YtfmanmidihofgaaDoorRg
namespace Go.Proofs.YtfmanmidihofgaaDoor
open Go.ChangeShapes Go.WideShapes Go.RowKit Go.Sort
/-- A frame whose slots from base on, up to top, hold what u says. -/
def updG (base top : Nat) (u : Nat → Value) : Nat → List Value → List Value
  | _, [] => []
  | i, v :: l => (if base ≤ i ∧ i < top then u i else v) :: updG base top u (i + 1) l
theorem updG_get (base top : Nat) (u : Nat → Value) : ∀ (l : List Value) (i j : Nat), (updG base top u i l)[j]? = if base ≤ i + j ∧ i + j < top then (l[j]?).map (fun _ => u (i + j)) else l[j]?
  | [], i, j => by simp [updG]
  | v :: l, i, 0 => by simp only [updG, List.getElem?_cons_zero, Nat.add_zero, Option.map_some]; split <;> rfl
  | v :: l, i, j + 1 => by
    simp only [updG, List.getElem?_cons_succ]
    rw [updG_get base top u l (i + 1) j, show i + 1 + j = i + (j + 1) by omega]
theorem region_go2 {P : Program} {ops : Array Oper} {Q : Exit → Act → World → Prop} {id : Nat} {a0 : Act} {w0 : World} (base top : Nat) (D : List Nat) (L : List SpG)
    (hm : P.follows .mixedOrders = true) (hok : okD D 0 ops.toList = true) (hlen : D.length = ops.size) (hnd : D.Nodup) (hsz : ∀ d ∈ D, d < a0.tmps.size) (hin : ∀ d ∈ D, base ≤ d ∧ d < top)
    (hst : EachOp (StepG P ops Q D L a0 w0) 0 ops.toList)
    (hend : ∀ (u : Nat → Value) (w : World), (∀ i, i < ops.size → spG L i (u (D.getD i 0)) w) → Below w0.heap.size w0 w → Q .normal ⟨(updG base top u 0 a0.tmps.toList).toArray, a0.defers⟩ w) :
    (Code.region id ops true).wp P Q a0 w0 := by
  refine region_go D L hm hok hlen hnd hsz hst ?_
  intro a w h1 h2 h3 h4 h5
  have hq := hend (fun s => a.tmps.getD s undef) w h4 h5
  have e : a = ⟨(updG base top (fun s => a.tmps.getD s undef) 0 a0.tmps.toList).toArray, a0.defers⟩ := by
    obtain ⟨T, Df⟩ := a
    simp only at h1 h2 h3 ⊢
    subst h1
    congr 1
    refine Array.ext_getElem? fun i => ?_
    have ht : ∀ m : List Value, m.toArray[i]? = m[i]? := fun m => by simp
    refine Eq.trans ?_ (ht _).symm
    rw [updG_get, Nat.zero_add, Array.getElem?_toList]
    by_cases hi : i < T.size
    · have hi0 : i < a0.tmps.size := by omega
      rw [Array.getElem?_eq_getElem hi, Array.getElem?_eq_getElem hi0]
      split
      · simp
      · rename_i hn
        have := h3 i (fun hd => hn (hin i hd))
        simp only [Array.getD, hi, hi0, dite_true] at this
        simpa using this
    · rw [Array.getElem?_eq_none (by omega), Array.getElem?_eq_none (by omega)]
      split <;> rfl
  rw [e]
  exact hq
end Go.Proofs.YtfmanmidihofgaaDoor
