/- Package scan: Where, Long, lineAt. -/
import Derived.Test.YtcfminkmidaaoaaDoorSc
import Derived.Lib.MinMax
import Derived.Laws.ResultCell
namespace Go.Proofs.YtcfminkmidaaoaaDoor
open Go.ChangeShapes Go.WideShapes Go.RowKit Go.Sort
/-- A place, held to the text. -/
def heldAt (l : Bs) (t : Int) : Nat := (min (max t 0) (l.length : Int)).toNat
theorem heldAt_le (l : Bs) (t : Int) : heldAt l t ≤ l.length := by unfold heldAt; omega
theorem heldAt_is (l : Bs) (t : Int) : min (max t 0) (l.length : Int) = (heldAt l t : Int) := by unfold heldAt; omega
theorem heldAt_nat (l : Bs) (k : Nat) (h : k ≤ l.length) : heldAt l (k : Int) = k := by unfold heldAt; omega
set_option maxHeartbeats 2000000 in
set_option maxRecDepth 100000 in
theorem long_no (a : Option Addr) (n c : Nat) (w : World) (hn : n ≤ 1000000) :
    Calls Tryd.prog 15 #[.slice a n c] w fun e w' => e = .returned (.tuple #[.agg #[.int .i64 0, .int .i64 0], .bool false]) ∧ Below w.heap.size w w' := by
  go_enter Tryd.func15, Tryd.ntmps15
  go_wp2
  exact bodyPost_ret (v := .tuple #[.agg #[.int .i64 0, .int .i64 0], .bool false]) (by simp [results, Tryd.results15, go_sem]) rfl ⟨rfl, ball (Below.refl _ _)⟩
set_option maxHeartbeats 2000000 in
set_option maxRecDepth 100000 in
theorem long_yes (a : Option Addr) (n c : Nat) (w : World) (hn : 1000000 < n) :
    Calls Tryd.prog 15 #[.slice a n c] w fun e w' => e = .returned (.tuple #[.agg #[.int .i64 2, .int .i64 1000000], .bool true]) ∧ Below w.heap.size w w' := by
  go_enter Tryd.func15, Tryd.ntmps15
  go_wp2
  exact bodyPost_ret (v := .tuple #[.agg #[.int .i64 2, .int .i64 1000000], .bool true]) (by simp [results, Tryd.results15, go_sem]) rfl ⟨rfl, ball (Below.refl _ _)⟩
theorem lineT_yes {l : Bs} {t : Nat} (h : 10 ∈ l.drop t) : lineT l t = trimV ((l.drop t).takeWhile (fun c => c != 10)) ∧ lineN l t = t + ((l.drop t).takeWhile (fun c => c != 10)).length + 1 := ⟨if_pos h, if_pos h⟩
theorem lineT_no {l : Bs} {t : Nat} (h : 10 ∉ l.drop t) : lineT l t = l.drop t ∧ lineN l t = l.length := ⟨if_neg h, if_neg h⟩
theorem BytesAt.prefix {w : World} {a : Option Addr} {l p : Bs} (h : BytesAt w a l) (hp : p <+: l) : BytesAt w a p := fun j b hj => h j b (by
  obtain ⟨r, rfl⟩ := hp
  rw [List.getElem?_append_left (List.getElem?_eq_some_iff.1 hj).1]; exact hj)
theorem trimV_prefix (p : Bs) : trimV p <+: p := by
  unfold trimV; split
  · exact List.dropLast_prefix p
  · exact List.prefix_rfl
end Go.Proofs.YtcfminkmidaaoaaDoor
