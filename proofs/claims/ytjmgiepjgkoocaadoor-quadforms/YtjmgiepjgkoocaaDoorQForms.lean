/- QuadForms: whichever row is asked for, the law answers true. -/
import Derived.Test.YtjmgiepjgkoocaaDoorQForms012
import Derived.Test.YtjmgiepjgkoocaaDoorQForms345
import Derived.Test.YtjmgiepjgkoocaaDoorQForms678
namespace Go.Proofs.YtjmgiepjgkoocaaDoor
open Go.RowKit
theorem forms_walk (n : Int) (w : World) (ht : TabOk w) :
    Calls Tryd.prog 4 #[.int .i64 n] w fun e w' => e = .returned (.bool true) ∧ Below w.heap.size w w' := by
  have h : ∃ k : Nat, k < 9 ∧ (bits BinOp.and IntKind.i64 n 255).tmod 9 = (k : Int) := by
    rw [i64_and255, Int.tmod_eq_emod_of_nonneg (by omega)]
    exact ⟨(n % 256 % 9).toNat, by omega, by omega⟩
  obtain ⟨k, hk, e⟩ := h
  match k, hk, e with
  | 0, _, e => exact forms0 n w ht e
  | 1, _, e => exact forms1 n w ht e
  | 2, _, e => exact forms2 n w ht e
  | 3, _, e => exact forms3 n w ht e
  | 4, _, e => exact forms4 n w ht e
  | 5, _, e => exact forms5 n w ht e
  | 6, _, e => exact forms6 n w ht e
  | 7, _, e => exact forms7 n w ht e
  | 8, _, e => exact forms8 n w ht e
end Go.Proofs.YtjmgiepjgkoocaaDoor
