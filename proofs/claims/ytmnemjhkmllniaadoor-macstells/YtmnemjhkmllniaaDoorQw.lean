/- The walks of package quad: what each of its functions answers, for every number of 128 bits. -/
import Derived.Test.YtmnemjhkmllniaaDoorChecked
import Derived.Test.YtmnemjhkmllniaaDoorQm
import Derived.WalkKit
import Derived.Lib.TrailingZeros
import Derived.Lib.LaidTab
import Derived.Shelf.Spec.BitsCarry
namespace Go.Proofs.YtmnemjhkmllniaaDoor
open Go.ChangeShapes Go.WideShapes Go.RowKit

theorem below2 (w : World) (a b : Obj) : Below w.heap.size w ((w.alloc a).alloc b) := ((Below.refl _ _).alloc (Nat.le_refl _) _).alloc (by simp) _
theorem below3 (w : World) (a b c : Obj) : Below w.heap.size w (((w.alloc a).alloc b).alloc c) := (below2 w a b).alloc (by simp; omega) _

end Go.Proofs.YtmnemjhkmllniaaDoor
