/- The walks of package quad: what each of its functions answers, for every number of 128 bits. -/
import Derived.Test.YtmlhlidjgiofkaaDoorChecked
import Derived.Test.YtmlhlidjgiofkaaDoorQm
import Derived.WalkKit
import Derived.Lib.TrailingZeros
import Derived.Lib.LaidTab
import Derived.Shelf.Spec.BitsCarry
namespace Go.Proofs.YtmlhlidjgiofkaaDoor
open Go.ChangeShapes Go.WideShapes Go.RowKit

theorem below2 (w : World) (a b : Obj) : Below w.heap.size w ((w.alloc a).alloc b) := ((Below.refl _ _).alloc (Nat.le_refl _) _).alloc (by simp) _
theorem below3 (w : World) (a b c : Obj) : Below w.heap.size w (((w.alloc a).alloc b).alloc c) := (below2 w a b).alloc (by simp; omega) _

set_option maxHeartbeats 400000 in
theorem less_x (x y : Nat) (w : World) :
    Calls Tryd.prog 22 #[.agg #[.int .u64 (hiQ x), .int .u64 (loQ x)], .agg #[.int .u64 (hiQ y), .int .u64 (loQ y)]] w fun e w' => e = .returned (.bool (decide (x < y))) ∧ Below w.heap.size w w' := by
  have a3 := loQ_nn x; have a4 := loQ_lt x
  have b3 := loQ_nn y; have b4 := loQ_lt y
  have ex := q_eq x; have ey := q_eq y
  by_cases h : hiQ x = hiQ y
  · have h1 : (hiQ x != hiQ y) = false := by simp [h]
    have hr : decide (x < y) = decide (loQ x < loQ y) := by rw [Bool.eq_iff_iff]; simp; omega
    rw [hr]
    clear hr ex ey h
    go_enter Tryd.func22, Tryd.ntmps22
    go_wp2
    go_ret
    exact ⟨rfl, below2 _ _ _⟩
  · have h1 : (hiQ x != hiQ y) = true := by rw [bne_iff_ne]; omega
    have hr : decide (x < y) = decide (hiQ x < hiQ y) := by rw [Bool.eq_iff_iff]; simp; omega
    rw [hr]
    clear hr ex ey h
    go_enter Tryd.func22, Tryd.ntmps22
    go_wp2
    go_ret
    exact ⟨rfl, below2 _ _ _⟩

theorem add64 (x y c : Int) (hx : 0 ≤ x) (hy : 0 ≤ y) (hc0 : 0 ≤ c) (hc : c ≤ 1) (w : World) :
    (callFunc 35 #[.int .u64 x, .int .u64 y, .int .u64 c]).run Tryd.prog w =
      .ok (.value (.tuple #[.int .u64 ((x + y + c) % 18446744073709551616), .int .u64 ((x + y + c) / 18446744073709551616)])) w := by
  rw [run_callFunc_extern Tryd.func35 (by kernel_rfl) (by kernel_rfl) (by kernel_rfl) (e := add64Entry) (by kernel_rfl), run_add64 x y c hx hy hc0 hc]
  rfl

set_option maxHeartbeats 400000 in
theorem add_x (x y : Nat) (w : World) (hx : x < 340282366920938463463374607431768211456) (hy : y < 340282366920938463463374607431768211456) (h : x + y < 340282366920938463463374607431768211456) :
    Calls Tryd.prog 21 #[.agg #[.int .u64 (hiQ x), .int .u64 (loQ x)], .agg #[.int .u64 (hiQ y), .int .u64 (loQ y)]] w fun e w' => e = .returned (.tuple #[.agg #[.int .u64 (hiQ (x + y)), .int .u64 (loQ (x + y))], .bool true]) ∧ Below w.heap.size w w' := by
  have a1 := hiQ_nn x; have a2 := hiQ_lt x hx; have a3 := loQ_nn x; have a4 := loQ_lt x
  have b1 := hiQ_nn y; have b2 := hiQ_lt y hy; have b3 := loQ_nn y; have b4 := loQ_lt y
  have c0 : 0 ≤ (loQ x + loQ y) / 18446744073709551616 := by omega
  have c1 : (loQ x + loQ y) / 18446744073709551616 ≤ 1 := by omega
  have s := half_add x y
  have hh := hiQ_lt (x + y) h
  have hz : ((hiQ x + hiQ y + (loQ x + loQ y) / 18446744073709551616) / 18446744073709551616 != 0) = false := by
    rw [bne_eq_false_iff_eq]; omega
  have HS : Hid (hiQ (x + y) = (hiQ x + hiQ y + (loQ x + loQ y) / 18446744073709551616) % 18446744073709551616 ∧ loQ (x + y) = (loQ x + loQ y) % 18446744073709551616) := by
    refine ⟨?_, s.2⟩; rw [s.1]; omega
  clear s hh h hx hy
  go_enter Tryd.func21, Tryd.ntmps21
  go_wp2_with (first | simp only [add64 _ _ 0 a3 b3 (by omega) (by omega)] | simp only [add64 _ _ _ a1 b1 c0 c1])
  refine bodyPost_ret (v := .tuple #[.agg #[.int .u64 (hiQ (x + y)), .int .u64 (loQ (x + y))], .bool true]) (by rw [HS.out.1, HS.out.2]; simp [results, Tryd.results21, go_sem]) rfl ⟨rfl, below3 _ _ _ _⟩

set_option maxHeartbeats 400000 in
theorem add_no (x y : Nat) (w : World) (hx : x < 340282366920938463463374607431768211456) (hy : y < 340282366920938463463374607431768211456) (h : 340282366920938463463374607431768211456 ≤ x + y) :
    Calls Tryd.prog 21 #[.agg #[.int .u64 (hiQ x), .int .u64 (loQ x)], .agg #[.int .u64 (hiQ y), .int .u64 (loQ y)]] w fun e w' => e = .returned (.tuple #[.agg #[.int .u64 0, .int .u64 0], .bool false]) ∧ Below w.heap.size w w' := by
  have a1 := hiQ_nn x; have a2 := hiQ_lt x hx; have a3 := loQ_nn x; have a4 := loQ_lt x
  have b1 := hiQ_nn y; have b2 := hiQ_lt y hy; have b3 := loQ_nn y; have b4 := loQ_lt y
  have c0 : 0 ≤ (loQ x + loQ y) / 18446744073709551616 := by omega
  have c1 : (loQ x + loQ y) / 18446744073709551616 ≤ 1 := by omega
  have e1 := q_eq x; have e2 := q_eq y
  have hz : ((hiQ x + hiQ y + (loQ x + loQ y) / 18446744073709551616) / 18446744073709551616 != 0) = true := by
    rw [bne_iff_ne]; omega
  clear e1 e2 h hx hy
  go_enter Tryd.func21, Tryd.ntmps21
  go_wp2_with (first | simp only [add64 _ _ 0 a3 b3 (by omega) (by omega)] | simp only [add64 _ _ _ a1 b1 c0 c1])
  exact bodyPost_ret (v := .tuple #[.agg #[.int .u64 0, .int .u64 0], .bool false]) (by simp [results, Tryd.results21, go_sem]) rfl ⟨rfl, below3 _ _ _ _⟩

end Go.Proofs.YtmlhlidjgiofkaaDoor
