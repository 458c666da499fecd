/- More walks of package quad: the lowest bit, masks, single bits. -/
import Derived.Test.YtmnemjhkmllniaaDoorChecked
import Derived.Test.YtmnemjhkmllniaaDoorQm
import Derived.WalkKit
import Derived.Lib.TrailingZeros
import Derived.Lib.LaidTab
namespace Go.Proofs.YtmnemjhkmllniaaDoor
open Go.ChangeShapes Go.WideShapes Go.RowKit

/-- The table of the library's TrailingZeros64 lies in the block of its variable. -/
def TabOk (w : World) : Prop := ∀ k, k < 64 → w.cell? ⟨5, k, none⟩ = some (.int .u8 ((Lib.deBruijn64tab.getD k 0 : Nat) : Int))
theorem TabOk.pos {w : World} (h : TabOk w) : 5 < w.heap.size := block_lt_of_cell (h 0 (by decide))
theorem TabOk.below {w w' : World} {B : Nat} (h : TabOk w) (hb : Below B w w') (hB : 5 < B) : TabOk w' := fun k hk => by
  rw [hb.cell (p := ⟨5, k, none⟩) hB]; exact h k hk

theorem tz_index (n : Nat) (h0 : n ≠ 0) (hn : n < 18446744073709551616) :
    ∃ j : Nat, j < 64 ∧ IntKind.u64.wrap (bits BinOp.and IntKind.u64 (n : Int) (IntKind.u64.wrap (-(n : Int))) * 285870213051353865) / 288230376151711744 = (j : Int) ∧ Lib.deBruijn64tab.getD j 0 = Lib.ctz 64 n := by
  obtain ⟨h1, h2⟩ := Lib.lowest_bit 64 n h0 (by rw [pow64]; exact hn)
  have h3 := Lib.deBruijn64_at (Lib.ctz 64 n) h2
  refine ⟨_, h3.1, ?_, h3.2⟩
  have e : IntKind.u64.wrap (-(n : Int)) = ((18446744073709551616 - n : Nat) : Int) := by rw [IntKind.wrap_u64]; omega
  rw [e, u64_and_nat _ _ hn (by omega), ← pow64, h1, IntKind.wrap_u64]
  generalize 2 ^ Lib.ctz 64 n = p
  omega

set_option maxHeartbeats 400000 in
theorem tz_x (n : Nat) (w : World) (ht : TabOk w) (h0 : n ≠ 0) (hn : n < 18446744073709551616) :
    Calls Tryd.prog 60 #[.int .u64 n] w fun e w' => e = .returned (.int .i64 (Lib.ctz 64 n : Nat)) ∧ w' = w := by
  have h1 : ((n : Int) == 0) = false := by rw [beq_eq_false_iff_ne]; omega
  obtain ⟨j, hj, hi, hk⟩ := tz_index n h0 hn
  have hc := ht j hj
  rw [hk] at hc
  have hlt : Lib.ctz 64 n < 64 := (Lib.lowest_bit 64 n h0 (by rw [pow64]; exact hn)).2
  have hj' : (j : Int) < 64 := by omega
  generalize Lib.ctz 64 n = z at *
  clear h0 hn ht hk
  go_enter Tryd.func60, Tryd.ntmps60
  go_wp2
  go_ret
  exact ⟨rfl, rfl⟩
set_option maxHeartbeats 400000 in
theorem tz_0 (w : World) :
    Calls Tryd.prog 60 #[.int .u64 0] w fun e w' => e = .returned (.int .i64 64) ∧ w' = w := by
  go_enter Tryd.func60, Tryd.ntmps60
  go_wp2
  go_ret
  exact ⟨rfl, rfl⟩
theorem tz_any (n : Int) (w : World) (ht : TabOk w) (h0 : 0 ≤ n) (hn : n < 18446744073709551616) :
    Calls Tryd.prog 60 #[.int .u64 n] w fun e w' => e = .returned (.int .i64 (Lib.ctz 64 n.toNat : Nat)) ∧ w' = w := by
  obtain ⟨k, rfl⟩ := Int.eq_ofNat_of_zero_le h0
  by_cases h : k = 0
  · subst h; exact tz_0 w
  · exact tz_x k w ht h (by omega)
end Go.Proofs.YtmnemjhkmllniaaDoor
