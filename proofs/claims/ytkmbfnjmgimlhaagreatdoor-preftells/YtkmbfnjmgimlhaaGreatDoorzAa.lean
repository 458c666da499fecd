/- The small walks of package addr: Bits, Ok, Less, Next, for every address, none too. -/
import Derived.Lib.QuietBelow
import Derived.BigQuiet
import Derived.Test.YtkmbfnjmgimlhaaGreatDoorzQa
import Derived.Test.YtkmbfnjmgimlhaaGreatDoorzAm
namespace Go.Proofs.YtkmbfnjmgimlhaaGreatDoor
open Go.ChangeShapes Go.WideShapes Go.RowKit Go.Sort

set_option maxHeartbeats 400000 in
theorem bits_4 (w : World) : Calls Tryz.prog 67 #[.int .i64 4] w fun e w' => e = .returned (.int .i64 32) ∧ Below w.heap.size w w' := by
  go_enter Tryz.func67, Tryz.ntmps67
  go_wp2
  go_ret
  exact ⟨rfl, Below.refl _ _⟩
set_option maxHeartbeats 400000 in
theorem bits_6 (w : World) : Calls Tryz.prog 67 #[.int .i64 6] w fun e w' => e = .returned (.int .i64 128) ∧ Below w.heap.size w w' := by
  go_enter Tryz.func67, Tryz.ntmps67
  go_wp2
  go_ret
  exact ⟨rfl, Below.refl _ _⟩
theorem bit_32 (w : World) : Calls Tryz.prog 98 #[.int .i64 32] w fun e w' => e = .returned (.agg #[.int .u64 (hiQ 4294967296), .int .u64 (loQ 4294967296)]) ∧ Below w.heap.size w w' :=
  bit_at 32 w (by decide)

set_option maxHeartbeats 1000000 in
theorem ok_x (v : Int) (x : Nat) (w : World) :
    Calls Tryz.prog 71 #[.agg #[.int .i64 v, .int .u64 (hiQ x), .int .u64 (loQ x)]] w fun e w' => e = .returned (.bool (okV v x)) ∧ Below w.heap.size w w' := by
  obtain ⟨W, hW⟩ : ∃ W, W = w.alloc (Obj.cells #[Value.int IntKind.i64 v, Value.int IntKind.u64 (hiQ x), Value.int IntKind.u64 (loQ x)] 28) := ⟨_, rfl⟩
  have e0 : W.cell? ⟨w.heap.size, 0, none⟩ = some (.int .i64 v) := by rw [hW]; simp [go_sem]
  have e1 : W.cell? ⟨w.heap.size, 1, none⟩ = some (.int .u64 (hiQ x)) := by rw [hW]; simp [go_sem]
  have e2 : W.cell? ⟨w.heap.size, 2, none⟩ = some (.int .u64 (loQ x)) := by rw [hW]; simp [go_sem]
  have B : Below w.heap.size w W := by rw [hW]; exact (Below.refl _ _).alloc (Nat.le_refl _) _
  have k0 := cell_regrown e0; have k1 := cell_regrown e1; have k2 := cell_regrown e2
  by_cases h6 : v = 6
  · subst h6
    go_enter Tryz.func71, Tryz.ntmps71
    go_wp2_with fail
    rw [← hW]
    clear hW e0 e1 e2
    refine wp_region_quiet_below (by kernel_rfl) (by kernel_rfl) ?_
    repeat (go_big_quiet_step (fail))
    refine wpQuiet_nil ?_
    intro _ hw'
    obtain ⟨⟨dq, osq⟩, hw''⟩ := hw'
    subst hw''
    go_wp2
    go_ret
    exact ⟨rfl, below_next B (below_regrown W dq osq)⟩
  · have n6 : (v == 6) = false := by simpa using h6
    by_cases h4 : v = 4
    · subst h4
      have hr : okV 4 x = ltB x 4294967296 := by simp [okV, ltB]
      rw [hr]
      go_enter Tryz.func71, Tryz.ntmps71
      go_wp2_with fail
      rw [← hW]
      clear hW e0 e1 e2
      refine wp_region_quiet_below (by kernel_rfl) (by kernel_rfl) ?_
      repeat (go_big_quiet_step (first
        | (go_at_call 67; exact Calls.regrown_of (bits_4 _))
        | (go_at_call 98; exact Calls.regrown_of (bit_32 _))
        | (go_at_call 97; exact Calls.regrown_of (less_any _ _ _))))
      refine wpQuiet_nil ?_
      intro _ hw'
      obtain ⟨⟨dq, osq⟩, hw''⟩ := hw'
      subst hw''
      go_wp2
      go_ret
      exact ⟨rfl, below_next B (below_regrown W dq osq)⟩
    · have n4 : (v == 4) = false := by simpa using h4
      have hr : okV v x = false := by simp [okV, h6, h4]
      rw [hr]
      go_enter Tryz.func71, Tryz.ntmps71
      go_wp2_with fail
      rw [← hW]
      clear hW e0 e1 e2
      refine wp_region_quiet_below (by kernel_rfl) (by kernel_rfl) ?_
      repeat (go_big_quiet_step (fail))
      refine wpQuiet_nil ?_
      intro _ hw'
      obtain ⟨⟨dq, osq⟩, hw''⟩ := hw'
      subst hw''
      go_wp2
      go_ret
      exact ⟨rfl, below_next B (below_regrown W dq osq)⟩

def ltA (v : Int) (x : Nat) (u : Int) (y : Nat) : Bool := if v = u then ltB x y else decide (v < u)
set_option maxHeartbeats 400000 in
theorem lessA_x (v : Int) (x : Nat) (u : Int) (y : Nat) (w : World) :
    Calls Tryz.prog 75 #[.agg #[.int .i64 v, .int .u64 (hiQ x), .int .u64 (loQ x)], .agg #[.int .i64 u, .int .u64 (hiQ y), .int .u64 (loQ y)]] w fun e w' => e = .returned (.bool (ltA v x u y)) ∧ Below w.heap.size w w' := by
  by_cases h : v = u
  · subst h
    rw [show ltA v x v y = ltB x y from if_pos rfl]
    go_enter Tryz.func75, Tryz.ntmps75
    go_wp2_with fail
    refine (less_any x y _).mono ?_
    rintro e w1 ⟨rfl, hb⟩
    go_wp2
    go_ret
    exact ⟨rfl, below_next (below2 _ _ _) hb⟩
  · rw [show ltA v x u y = decide (v < u) from if_neg h]
    have hn : (v != u) = true := by simpa using h
    go_enter Tryz.func75, Tryz.ntmps75
    go_wp2
    go_ret
    exact ⟨rfl, below2 _ _ _⟩
/-- The next address: its V, its number, and whether there is one. -/
def nextB (v : Int) (x : Nat) : Bool := okV v x && (addB x 1 && okV v (x + 1))
def nextV (v : Int) (x : Nat) : Int := if nextB v x = true then v else 0
def nextX (v : Int) (x : Nat) : Nat := if nextB v x = true then x + 1 else 0
end Go.Proofs.YtkmbfnjmgimlhaaGreatDoor
