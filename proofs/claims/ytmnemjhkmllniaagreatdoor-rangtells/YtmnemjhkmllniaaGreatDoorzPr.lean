/- The walks of pref.Less, Netmask, Of, for all prefixes and addresses, none too. -/
import Derived.Lib.MinMax
import Derived.Test.YtmnemjhkmllniaaGreatDoorzPo
namespace Go.Proofs.YtmnemjhkmllniaaGreatDoor
open Go.ChangeShapes Go.WideShapes Go.RowKit Go.Sort

theorem ok40 : okP 4 0 0 = true := by decide +kernel
theorem last40 (w : World) : Calls Tryz.prog 45 #[.agg #[.int .i64 4, .int .u64 0, .int .u64 0, .int .i64 0]] w fun e w' => e = .returned (.agg #[.int .i64 4, .int .u64 (hiQ 4294967295), .int .u64 (loQ 4294967295)]) ∧ Below w.heap.size w w' :=
  last_x 4 0 0 w (by decide)
end Go.Proofs.YtmnemjhkmllniaaGreatDoor
