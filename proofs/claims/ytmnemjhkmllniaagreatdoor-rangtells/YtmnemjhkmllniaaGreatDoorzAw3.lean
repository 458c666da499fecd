/- The laws' own small check 'awake' of layer 3. -/
import Derived.Test.YtmnemjhkmllniaaGreatDoorzPs
namespace Go.Proofs.YtmnemjhkmllniaaGreatDoor
open Go.ChangeShapes Go.WideShapes Go.RowKit Go.Sort

theorem aw_last (w : World) : Calls Tryz.prog 45 #[.agg #[.int .i64 4, .int .u64 0, .int .u64 167772160, .int .i64 24]] w fun e w' => e = .returned (.agg #[.int .i64 4, .int .u64 0, .int .u64 167772415]) ∧ Below w.heap.size w w' := by
  have h := last_x 4 167772160 24 w (by decide)
  rw [show firstV 4 167772160 24 = 4 by decide +kernel, show lastX 4 167772160 24 = 167772415 by decide +kernel] at h
  exact h
theorem aw_has (w : World) : Calls Tryz.prog 40 #[.agg #[.int .i64 4, .int .u64 0, .int .u64 167772160, .int .i64 24], .agg #[.int .i64 4, .int .u64 0, .int .u64 167772415]] w fun e w' => e = .returned (.bool true) ∧ Below w.heap.size w w' :=
  has_pis 4 167772160 24 4 167772415 w (by decide) (by decide) true (by decide +kernel)
end Go.Proofs.YtmnemjhkmllniaaGreatDoor
