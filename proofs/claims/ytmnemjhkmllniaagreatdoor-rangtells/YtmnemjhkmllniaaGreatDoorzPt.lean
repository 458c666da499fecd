/- The walk of pref.Of, for all addresses, none too. -/
import Derived.Test.YtmnemjhkmllniaaGreatDoorzPr
namespace Go.Proofs.YtmnemjhkmllniaaGreatDoor
open Go.ChangeShapes Go.WideShapes Go.RowKit Go.Sort

theorem pset4 {B b : Nat} {a w : World} {t u v x : Value} (h : Below B a w) (hb : B ≤ b) : Below B a ((((w.setCell ⟨b, 0, none⟩ t).setCell ⟨b, 1, none⟩ u).setCell ⟨b, 2, none⟩ v).setCell ⟨b, 3, none⟩ x) := (((h.setCell hb _).setCell hb _).setCell hb _).setCell hb _
/-- What Of answers: of none, noughts and false. -/
def ofR (v : Int) (x : Nat) (u : Int) (y : Nat) : Value :=
  if ofB v x u y = true then .tuple #[.agg #[.int .i64 4, .int .u64 (hiQ (cutK (32 - ofN y) x)), .int .u64 (loQ (cutK (32 - ofN y) x)), .int .i64 (ofN y)], .bool true]
  else .tuple #[.agg #[.int .i64 0, .int .u64 0, .int .u64 0, .int .i64 0], .bool false]
theorem host4 (n : Nat) : hostK 4 n = 32 - n := rfl
theorem ok4cut (x n : Nat) (hn : n ≤ 32) (hx : x < 4294967296) : okP 4 (cutK (32 - n) x) n = true := by
  have hc := (cutK_small (32 - n) x (by omega)).2 hx
  exact okP_of (by simp [okV, hc]) (by omega) (by rw [bitsV_4]; omega) (by rw [host4, cutK_cutK])
end Go.Proofs.YtmnemjhkmllniaaGreatDoor
