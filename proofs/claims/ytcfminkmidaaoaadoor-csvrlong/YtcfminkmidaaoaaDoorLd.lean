/- From the world's shape to what the walks ask of the library's variables. -/
import Derived.Test.YtcfminkmidaaoaaDoorLaw
import Derived.Test.YtcfminkmidaaoaaDoorVt
import Derived.Lay
import Derived.Shelf.Vars
namespace Go.Proofs.YtcfminkmidaaoaaDoor
open Go.ChangeShapes Go.WideShapes Go.ChangeAt Go.RowKit
theorem gl_of {W : World} (h : W.ShapedOpen Tryd.prog) : Gl W :=
  cell_of_shapedOpen_int (zero := #[.int .i64 0]) h (of_decide_eq_true (by kernel_rfl)) (by kernel_rfl) rfl (by kernel_rfl) (by kernel_rfl) Tryd.underlying3
end Go.Proofs.YtcfminkmidaaoaaDoor
