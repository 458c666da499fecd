/- The walks of package quad: what each of its functions answers, for every number of 128 bits. -/
import Derived.Test.YtehhhjkajabliaaDoorChecked
import Derived.Test.YtehhhjkajabliaaDoorQm
import Derived.WalkKit
import Derived.Lib.TrailingZeros
import Derived.Lib.LaidTab
import Derived.Shelf.Spec.BitsCarry
namespace Go.Proofs.YtehhhjkajabliaaDoor
open Go.ChangeShapes Go.WideShapes Go.RowKit

theorem below2 (w : World) (a b : Obj) : Below w.heap.size w ((w.alloc a).alloc b) := ((Below.refl _ _).alloc (Nat.le_refl _) _).alloc (by simp) _
theorem below3 (w : World) (a b c : Obj) : Below w.heap.size w (((w.alloc a).alloc b).alloc c) := (below2 w a b).alloc (by simp; omega) _

set_option maxHeartbeats 400000 in
theorem and_x (x y : Nat) (w : World) (hx : x < 340282366920938463463374607431768211456) (hy : y < 340282366920938463463374607431768211456) :
    Calls Tryd.prog 50 #[.agg #[.int .u64 (hiQ x), .int .u64 (loQ x)], .agg #[.int .u64 (hiQ y), .int .u64 (loQ y)]] w fun e w' => e = .returned (.agg #[.int .u64 (hiQ (x &&& y)), .int .u64 (loQ (x &&& y))]) ∧ Below w.heap.size w w' := by
  have a1 := hiQ_nn x; have a2 := hiQ_lt x hx; have a3 := loQ_nn x; have a4 := loQ_lt x
  have b1 := hiQ_nn y; have b2 := hiQ_lt y hy; have b3 := loQ_nn y; have b4 := loQ_lt y
  go_enter Tryd.func50, Tryd.ntmps50
  go_wp2
  rw [u64_and _ _ a1 a2 b1 b2, u64_and _ _ a3 a4 b3 b4, ← (half_and x y).1, ← (half_and x y).2]
  exact bodyPost_ret (v := .agg #[.int .u64 (hiQ (x &&& y)), .int .u64 (loQ (x &&& y))]) (by simp [results, Tryd.results50, go_sem]) rfl ⟨rfl, below3 _ _ _ _⟩

set_option maxHeartbeats 400000 in
theorem or_x (x y : Nat) (w : World) (hx : x < 340282366920938463463374607431768211456) (hy : y < 340282366920938463463374607431768211456) :
    Calls Tryd.prog 31 #[.agg #[.int .u64 (hiQ x), .int .u64 (loQ x)], .agg #[.int .u64 (hiQ y), .int .u64 (loQ y)]] w fun e w' => e = .returned (.agg #[.int .u64 (hiQ (x ||| y)), .int .u64 (loQ (x ||| y))]) ∧ Below w.heap.size w w' := by
  have a1 := hiQ_nn x; have a2 := hiQ_lt x hx; have a3 := loQ_nn x; have a4 := loQ_lt x
  have b1 := hiQ_nn y; have b2 := hiQ_lt y hy; have b3 := loQ_nn y; have b4 := loQ_lt y
  go_enter Tryd.func31, Tryd.ntmps31
  go_wp2
  rw [u64_or _ _ a1 a2 b1 b2, u64_or _ _ a3 a4 b3 b4, ← (half_or x y).1, ← (half_or x y).2]
  exact bodyPost_ret (v := .agg #[.int .u64 (hiQ (x ||| y)), .int .u64 (loQ (x ||| y))]) (by simp [results, Tryd.results31, go_sem]) rfl ⟨rfl, below3 _ _ _ _⟩

set_option maxHeartbeats 400000 in
theorem not_x (x : Nat) (w : World) (hx : x < 340282366920938463463374607431768211456) :
    Calls Tryd.prog 32 #[.agg #[.int .u64 (hiQ x), .int .u64 (loQ x)]] w fun e w' => e = .returned (.agg #[.int .u64 (hiQ (notQ x)), .int .u64 (loQ (notQ x))]) ∧ Below w.heap.size w w' := by
  have HN : Hid (hiQ (notQ x) = bits .xor .u64 IntKind.u64.max (hiQ x) ∧ loQ (notQ x) = bits .xor .u64 IntKind.u64.max (loQ x)) := by
    rw [(half_not x hx).1, (half_not x hx).2, u64_not _ (hiQ_nn x) (hiQ_lt x hx), u64_not _ (loQ_nn x) (loQ_lt x)]; exact ⟨rfl, rfl⟩
  clear hx
  go_enter Tryd.func32, Tryd.ntmps32
  go_wp2
  exact bodyPost_ret (v := .agg #[.int .u64 (hiQ (notQ x)), .int .u64 (loQ (notQ x))]) (by rw [HN.out.1, HN.out.2]; simp [results, Tryd.results32, go_sem]) rfl ⟨rfl, below2 _ _ _⟩

set_option maxHeartbeats 400000 in
theorem less_x (x y : Nat) (w : World) :
    Calls Tryd.prog 57 #[.agg #[.int .u64 (hiQ x), .int .u64 (loQ x)], .agg #[.int .u64 (hiQ y), .int .u64 (loQ y)]] w fun e w' => e = .returned (.bool (decide (x < y))) ∧ Below w.heap.size w w' := by
  have a3 := loQ_nn x; have a4 := loQ_lt x
  have b3 := loQ_nn y; have b4 := loQ_lt y
  have ex := q_eq x; have ey := q_eq y
  by_cases h : hiQ x = hiQ y
  · have h1 : (hiQ x != hiQ y) = false := by simp [h]
    have hr : decide (x < y) = decide (loQ x < loQ y) := by rw [Bool.eq_iff_iff]; simp; omega
    rw [hr]
    clear hr ex ey h
    go_enter Tryd.func57, Tryd.ntmps57
    go_wp2
    go_ret
    exact ⟨rfl, below2 _ _ _⟩
  · have h1 : (hiQ x != hiQ y) = true := by rw [bne_iff_ne]; omega
    have hr : decide (x < y) = decide (hiQ x < hiQ y) := by rw [Bool.eq_iff_iff]; simp; omega
    rw [hr]
    clear hr ex ey h
    go_enter Tryd.func57, Tryd.ntmps57
    go_wp2
    go_ret
    exact ⟨rfl, below2 _ _ _⟩

end Go.Proofs.YtehhhjkajabliaaDoor
