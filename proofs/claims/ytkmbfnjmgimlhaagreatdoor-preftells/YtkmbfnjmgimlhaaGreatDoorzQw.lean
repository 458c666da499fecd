/- The walks of package quad: what each of its functions answers, for every number of 128 bits. -/
import Derived.Test.YtkmbfnjmgimlhaaGreatDoorChecked
import Derived.WalkKit
import Derived.Lib.TrailingZeros
import Derived.Lib.LaidTab
import Derived.Shelf.Spec.BitsCarry
import Derived.Test.YtkmbfnjmgimlhaaGreatDoorzQm
namespace Go.Proofs.YtkmbfnjmgimlhaaGreatDoor
open Go.ChangeShapes Go.WideShapes Go.RowKit

theorem below2 (w : World) (a b : Obj) : Below w.heap.size w ((w.alloc a).alloc b) := ((Below.refl _ _).alloc (Nat.le_refl _) _).alloc (by simp) _
theorem below3 (w : World) (a b c : Obj) : Below w.heap.size w (((w.alloc a).alloc b).alloc c) := (below2 w a b).alloc (by simp; omega) _

set_option maxHeartbeats 400000 in
theorem and_x (x y : Nat) (w : World) (hx : x < 340282366920938463463374607431768211456) (hy : y < 340282366920938463463374607431768211456) :
    Calls Tryz.prog 91 #[.agg #[.int .u64 (hiQ x), .int .u64 (loQ x)], .agg #[.int .u64 (hiQ y), .int .u64 (loQ y)]] w fun e w' => e = .returned (.agg #[.int .u64 (hiQ (x &&& y)), .int .u64 (loQ (x &&& y))]) ∧ Below w.heap.size w w' := by
  have a1 := hiQ_nn x; have a2 := hiQ_lt x hx; have a3 := loQ_nn x; have a4 := loQ_lt x
  have b1 := hiQ_nn y; have b2 := hiQ_lt y hy; have b3 := loQ_nn y; have b4 := loQ_lt y
  go_enter Tryz.func91, Tryz.ntmps91
  go_wp2
  rw [u64_and _ _ a1 a2 b1 b2, u64_and _ _ a3 a4 b3 b4, ← (half_and x y).1, ← (half_and x y).2]
  exact bodyPost_ret (v := .agg #[.int .u64 (hiQ (x &&& y)), .int .u64 (loQ (x &&& y))]) (by simp [results, Tryz.results91, go_sem]) rfl ⟨rfl, below3 _ _ _ _⟩

set_option maxHeartbeats 400000 in
theorem or_x (x y : Nat) (w : World) (hx : x < 340282366920938463463374607431768211456) (hy : y < 340282366920938463463374607431768211456) :
    Calls Tryz.prog 72 #[.agg #[.int .u64 (hiQ x), .int .u64 (loQ x)], .agg #[.int .u64 (hiQ y), .int .u64 (loQ y)]] w fun e w' => e = .returned (.agg #[.int .u64 (hiQ (x ||| y)), .int .u64 (loQ (x ||| y))]) ∧ Below w.heap.size w w' := by
  have a1 := hiQ_nn x; have a2 := hiQ_lt x hx; have a3 := loQ_nn x; have a4 := loQ_lt x
  have b1 := hiQ_nn y; have b2 := hiQ_lt y hy; have b3 := loQ_nn y; have b4 := loQ_lt y
  go_enter Tryz.func72, Tryz.ntmps72
  go_wp2
  rw [u64_or _ _ a1 a2 b1 b2, u64_or _ _ a3 a4 b3 b4, ← (half_or x y).1, ← (half_or x y).2]
  exact bodyPost_ret (v := .agg #[.int .u64 (hiQ (x ||| y)), .int .u64 (loQ (x ||| y))]) (by simp [results, Tryz.results72, go_sem]) rfl ⟨rfl, below3 _ _ _ _⟩

set_option maxHeartbeats 400000 in
theorem not_x (x : Nat) (w : World) (hx : x < 340282366920938463463374607431768211456) :
    Calls Tryz.prog 73 #[.agg #[.int .u64 (hiQ x), .int .u64 (loQ x)]] w fun e w' => e = .returned (.agg #[.int .u64 (hiQ (notQ x)), .int .u64 (loQ (notQ x))]) ∧ Below w.heap.size w w' := by
  have HN : Hid (hiQ (notQ x) = bits .xor .u64 IntKind.u64.max (hiQ x) ∧ loQ (notQ x) = bits .xor .u64 IntKind.u64.max (loQ x)) := by
    rw [(half_not x hx).1, (half_not x hx).2, u64_not _ (hiQ_nn x) (hiQ_lt x hx), u64_not _ (loQ_nn x) (loQ_lt x)]; exact ⟨rfl, rfl⟩
  clear hx
  go_enter Tryz.func73, Tryz.ntmps73
  go_wp2
  exact bodyPost_ret (v := .agg #[.int .u64 (hiQ (notQ x)), .int .u64 (loQ (notQ x))]) (by rw [HN.out.1, HN.out.2]; simp [results, Tryz.results73, go_sem]) rfl ⟨rfl, below2 _ _ _⟩

set_option maxHeartbeats 400000 in
theorem less_x (x y : Nat) (w : World) :
    Calls Tryz.prog 97 #[.agg #[.int .u64 (hiQ x), .int .u64 (loQ x)], .agg #[.int .u64 (hiQ y), .int .u64 (loQ y)]] w fun e w' => e = .returned (.bool (decide (x < y))) ∧ Below w.heap.size w w' := by
  have a3 := loQ_nn x; have a4 := loQ_lt x
  have b3 := loQ_nn y; have b4 := loQ_lt y
  have ex := q_eq x; have ey := q_eq y
  by_cases h : hiQ x = hiQ y
  · have h1 : (hiQ x != hiQ y) = false := by simp [h]
    have hr : decide (x < y) = decide (loQ x < loQ y) := by rw [Bool.eq_iff_iff]; simp; omega
    rw [hr]
    clear hr ex ey h
    go_enter Tryz.func97, Tryz.ntmps97
    go_wp2
    go_ret
    exact ⟨rfl, below2 _ _ _⟩
  · have h1 : (hiQ x != hiQ y) = true := by rw [bne_iff_ne]; omega
    have hr : decide (x < y) = decide (hiQ x < hiQ y) := by rw [Bool.eq_iff_iff]; simp; omega
    rw [hr]
    clear hr ex ey h
    go_enter Tryz.func97, Tryz.ntmps97
    go_wp2
    go_ret
    exact ⟨rfl, below2 _ _ _⟩

theorem add64 (x y c : Int) (hx : 0 ≤ x) (hy : 0 ≤ y) (hc0 : 0 ≤ c) (hc : c ≤ 1) (w : World) :
    (callFunc 116 #[.int .u64 x, .int .u64 y, .int .u64 c]).run Tryz.prog w =
      .ok (.value (.tuple #[.int .u64 ((x + y + c) % 18446744073709551616), .int .u64 ((x + y + c) / 18446744073709551616)])) w := by
  rw [run_callFunc_extern Tryz.func116 (by kernel_rfl) (by kernel_rfl) (by kernel_rfl) (e := add64Entry) (by kernel_rfl), run_add64 x y c hx hy hc0 hc]
  rfl

set_option maxHeartbeats 400000 in
theorem add_x (x y : Nat) (w : World) (hx : x < 340282366920938463463374607431768211456) (hy : y < 340282366920938463463374607431768211456) (h : x + y < 340282366920938463463374607431768211456) :
    Calls Tryz.prog 100 #[.agg #[.int .u64 (hiQ x), .int .u64 (loQ x)], .agg #[.int .u64 (hiQ y), .int .u64 (loQ y)]] w fun e w' => e = .returned (.tuple #[.agg #[.int .u64 (hiQ (x + y)), .int .u64 (loQ (x + y))], .bool true]) ∧ Below w.heap.size w w' := by
  have a1 := hiQ_nn x; have a2 := hiQ_lt x hx; have a3 := loQ_nn x; have a4 := loQ_lt x
  have b1 := hiQ_nn y; have b2 := hiQ_lt y hy; have b3 := loQ_nn y; have b4 := loQ_lt y
  have c0 : 0 ≤ (loQ x + loQ y) / 18446744073709551616 := by omega
  have c1 : (loQ x + loQ y) / 18446744073709551616 ≤ 1 := by omega
  have s := half_add x y
  have hh := hiQ_lt (x + y) h
  have hz : ((hiQ x + hiQ y + (loQ x + loQ y) / 18446744073709551616) / 18446744073709551616 != 0) = false := by
    rw [bne_eq_false_iff_eq]; omega
  have HS : Hid (hiQ (x + y) = (hiQ x + hiQ y + (loQ x + loQ y) / 18446744073709551616) % 18446744073709551616 ∧ loQ (x + y) = (loQ x + loQ y) % 18446744073709551616) := by
    refine ⟨?_, s.2⟩; rw [s.1]; omega
  clear s hh h hx hy
  go_enter Tryz.func100, Tryz.ntmps100
  go_wp2_with (first | simp only [add64 _ _ 0 a3 b3 (by omega) (by omega)] | simp only [add64 _ _ _ a1 b1 c0 c1])
  refine bodyPost_ret (v := .tuple #[.agg #[.int .u64 (hiQ (x + y)), .int .u64 (loQ (x + y))], .bool true]) (by rw [HS.out.1, HS.out.2]; simp [results, Tryz.results100, go_sem]) rfl ⟨rfl, below3 _ _ _ _⟩

set_option maxHeartbeats 400000 in
theorem add_no (x y : Nat) (w : World) (hx : x < 340282366920938463463374607431768211456) (hy : y < 340282366920938463463374607431768211456) (h : 340282366920938463463374607431768211456 ≤ x + y) :
    Calls Tryz.prog 100 #[.agg #[.int .u64 (hiQ x), .int .u64 (loQ x)], .agg #[.int .u64 (hiQ y), .int .u64 (loQ y)]] w fun e w' => e = .returned (.tuple #[.agg #[.int .u64 0, .int .u64 0], .bool false]) ∧ Below w.heap.size w w' := by
  have a1 := hiQ_nn x; have a2 := hiQ_lt x hx; have a3 := loQ_nn x; have a4 := loQ_lt x
  have b1 := hiQ_nn y; have b2 := hiQ_lt y hy; have b3 := loQ_nn y; have b4 := loQ_lt y
  have c0 : 0 ≤ (loQ x + loQ y) / 18446744073709551616 := by omega
  have c1 : (loQ x + loQ y) / 18446744073709551616 ≤ 1 := by omega
  have e1 := q_eq x; have e2 := q_eq y
  have hz : ((hiQ x + hiQ y + (loQ x + loQ y) / 18446744073709551616) / 18446744073709551616 != 0) = true := by
    rw [bne_iff_ne]; omega
  clear e1 e2 h hx hy
  go_enter Tryz.func100, Tryz.ntmps100
  go_wp2_with (first | simp only [add64 _ _ 0 a3 b3 (by omega) (by omega)] | simp only [add64 _ _ _ a1 b1 c0 c1])
  exact bodyPost_ret (v := .tuple #[.agg #[.int .u64 0, .int .u64 0], .bool false]) (by simp [results, Tryz.results100, go_sem]) rfl ⟨rfl, below3 _ _ _ _⟩

end Go.Proofs.YtkmbfnjmgimlhaaGreatDoor
