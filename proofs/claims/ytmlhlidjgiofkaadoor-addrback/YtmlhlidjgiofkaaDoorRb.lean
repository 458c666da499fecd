/- The checker's own Ok and group, and zeros. -/
import Derived.Test.YtmlhlidjgiofkaaDoorRa
namespace Go.Proofs.YtmlhlidjgiofkaaDoor
open Go.ChangeShapes Go.WideShapes Go.RowKit Go.Sort

set_option maxHeartbeats 1000000 in
theorem refOk_x (v : Int) (x : Nat) (w : World) (h : okV v x = true) :
    Calls Tryd.prog 36 #[.agg #[.int .i64 v, .int .u64 (hiQ x), .int .u64 (loQ x)]] w fun e w' => e = .returned (.bool true) ∧ Below w.heap.size w w' := by
  rcases okV_cases h with rfl | ⟨rfl, hx4⟩
  · clear h
    go_enter Tryd.func36, Tryd.ntmps36
    go_wp2
    go_ret
    exact ⟨rfl, (Below.refl _ _).alloc (Nat.le_refl _) _⟩
  · rw [hiQ_small hx4, loQ_small hx4]
    have hx' : (x : Int) < 4294967296 := by omega
    clear h
    go_enter Tryd.func36, Tryd.ntmps36
    go_wp2
    go_ret
    exact ⟨rfl, (Below.refl _ _).alloc (Nat.le_refl _) _⟩
/-- A number below 65536. -/
def Small16 (e : Ending) : Prop := ∃ g : Nat, e = .returned (.int .u64 (g : Int)) ∧ g < 65536
theorem small16 (a : Int) (h0 : 0 ≤ a) (h1 : a < 18446744073709551616) : Small16 (.returned (.int .u64 (bits .and .u64 a 65535))) := by
  obtain ⟨n, rfl⟩ := Int.eq_ofNat_of_zero_le h0
  refine ⟨n % 65536, ?_, Nat.mod_lt _ (by decide)⟩
  rw [show ((n : Nat) : Int) = Int.ofNat n from rfl]
  exact congrArg (fun z => Ending.returned (.int .u64 z)) (and16 n (by omega))
theorem small_hi (x : Nat) (d : Int) (hd : 0 < d) (hx : x < 340282366920938463463374607431768211456) : Small16 (.returned (.int .u64 (bits .and .u64 (hiQ x / d) 65535))) :=
  small16 _ (Int.ediv_nonneg (hiQ_nn x) (by omega)) (Int.lt_of_le_of_lt (Int.ediv_le_self _ (hiQ_nn x)) (hiQ_lt x hx))
theorem small_lo (x : Nat) (d : Int) (hd : 0 < d) : Small16 (.returned (.int .u64 (bits .and .u64 (loQ x / d) 65535))) :=
  small16 _ (Int.ediv_nonneg (loQ_nn x) (by omega)) (Int.lt_of_le_of_lt (Int.ediv_le_self _ (loQ_nn x)) (loQ_lt x))
set_option maxHeartbeats 4000000 in
set_option maxRecDepth 100000 in
theorem refGroup_x (x k : Nat) (w : World) (hx : x < 340282366920938463463374607431768211456) (hk : k < 8) :
    Calls Tryd.prog 40 #[.agg #[.int .u64 (hiQ x), .int .u64 (loQ x)], .int .i64 k] w fun e w' => Small16 e ∧ Below w.heap.size w w' := by
  have HX := Lib.hid hx
  clear hx
  rcases (show k = 0 ∨ k = 1 ∨ k = 2 ∨ k = 3 ∨ k = 4 ∨ k = 5 ∨ k = 6 ∨ k = 7 by omega) with rfl | rfl | rfl | rfl | rfl | rfl | rfl | rfl
  all_goals
    clear hk
    go_enter Tryd.func40, Tryd.ntmps40
    go_wp2
    go_ret
    refine ⟨?_, (Below.refl _ _).alloc (Nat.le_refl _) _⟩
  · exact small_hi x 281474976710656 (by decide) HX.out
  · exact small_hi x 4294967296 (by decide) HX.out
  · exact small_hi x 65536 (by decide) HX.out
  · exact small16 _ (hiQ_nn x) (hiQ_lt x HX.out)
  · exact small_lo x 281474976710656 (by decide)
  · exact small_lo x 4294967296 (by decide)
  · exact small_lo x 65536 (by decide)
  · exact small16 _ (loQ_nn x) (loQ_lt x)
end Go.Proofs.YtmlhlidjgiofkaaDoor
