/- The walk of addr.Next, for every address, none too. -/
import Derived.Test.YtehhhjkajabliaaDoorAa
namespace Go.Proofs.YtehhhjkajabliaaDoor
open Go.ChangeShapes Go.WideShapes Go.RowKit Go.Sort

theorem aset3 {B b i j k : Nat} {a w : World} {u v x : Value} (h : Below B a w) (hb : B ≤ b) : Below B a (((w.setCell ⟨b, i, none⟩ u).setCell ⟨b, j, none⟩ v).setCell ⟨b, k, none⟩ x) := ((h.setCell hb _).setCell hb _).setCell hb _
theorem ok_is (v : Int) (x : Nat) (w : World) (b : Bool) (h : okV v x = b) :
    Calls Tryd.prog 42 #[.agg #[.int .i64 v, .int .u64 (hiQ x), .int .u64 (loQ x)]] w fun e w' => e = .returned (.bool b) ∧ Below w.heap.size w w' := h ▸ ok_x v x w
end Go.Proofs.YtehhhjkajabliaaDoor
