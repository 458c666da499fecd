/- QuadForms: the rows by hand: at each of the nine the law answers true. -/
import Derived.Test.YtjmgiepjgkoocaaDoorQa
import Derived.Lib.QuietBelow
import Derived.BigQuiet
namespace Go.Proofs.YtjmgiepjgkoocaaDoor
open Go.ChangeShapes Go.WideShapes Go.RowKit Go.Sort

theorem fadd0 (w : World) : Calls Tryd.prog 10 #[.agg #[.int .u64 0, .int .u64 0], .agg #[.int .u64 0, .int .u64 0]] w fun e w' => e = .returned (.tuple #[.agg #[.int .u64 0, .int .u64 0], .bool true]) ∧ Below w.heap.size w w' :=
  add_x 0 0 w (by decide) (by decide) (by decide)
theorem fsub0 (w : World) : Calls Tryd.prog 11 #[.agg #[.int .u64 0, .int .u64 0], .agg #[.int .u64 0, .int .u64 0]] w fun e w' => e = .returned (.tuple #[.agg #[.int .u64 0, .int .u64 0], .bool true]) ∧ Below w.heap.size w w' :=
  sub_x 0 0 w (by decide) (by decide) (by decide)
theorem flow0 (w : World) (ht : TabOk w) : Calls Tryd.prog 9 #[.agg #[.int .u64 0, .int .u64 0]] w fun e w' => e = .returned (.int .i64 128) ∧ Below w.heap.size w w' := by
  have h := low_x 0 w ht (by decide)
  rw [show lowQ 0 = 128 from by decide +kernel] at h
  exact h
set_option maxRecDepth 100000 in
set_option maxHeartbeats 4000000 in
theorem forms0 (n : Int) (w : World) (ht : TabOk w) (hn : (bits BinOp.and IntKind.i64 n 255).tmod 9 = 0) :
    Calls Tryd.prog 4 #[.int .i64 n] w fun e w' => e = .returned (.bool true) ∧ Below w.heap.size w w' := by
  have hp := ht.pos
  go_enter Tryd.func4, Tryd.ntmps4
  go_wp2_with fail
  refine (fadd0 _).mono ?_
  rintro e w1 ⟨rfl, hb1⟩
  obtain ⟨k1, l1⟩ := keep hb1 (w.heap.size + 1) (by first | omega | (simp; done) | (simp; omega))
  have B1 := below_next (ball (ball (Below.refl w.heap.size w))) hb1
  clear hb1
  go_wp2_with fail
  refine (fsub0 _).mono ?_
  rintro e w2 ⟨rfl, hb2⟩
  obtain ⟨k2, l2⟩ := keep hb2 (w.heap.size + 1) (by first | omega | (simp; done) | (simp; omega))
  obtain ⟨k3, l3⟩ := keep hb2 w1.heap.size (by first | omega | (simp; done) | (simp; omega))
  have B2 := below_step B1 hb2
  clear hb2
  go_wp2_with fail
  obtain ⟨X, hX⟩ : ∃ X, X = w2.alloc (Obj.cells #[.int .u64 0, .int .u64 0] 29) := ⟨_, rfl⟩
  have r0 := cell_regrown (show X.cell? ⟨w.heap.size + 1, 0, none⟩ = some (.int .u64 0) from by rw [hX]; simp [k2, k1, l2, l1, go_sem])
  have r1 := cell_regrown (show X.cell? ⟨w.heap.size + 1, 1, none⟩ = some (.int .u64 0) from by rw [hX]; simp [k2, k1, l2, l1, go_sem])
  have r2 := cell_regrown (show X.cell? ⟨w.heap.size + 1, 2, none⟩ = some (.int .u64 0) from by rw [hX]; simp [k2, k1, l2, l1, go_sem])
  have r3 := cell_regrown (show X.cell? ⟨w.heap.size + 1, 3, none⟩ = some (.int .u64 0) from by rw [hX]; simp [k2, k1, l2, l1, go_sem])
  have r4 := cell_regrown (show X.cell? ⟨w.heap.size + 1, 4, none⟩ = some (.int .u64 0) from by rw [hX]; simp [k2, k1, l2, l1, go_sem])
  have r5 := cell_regrown (show X.cell? ⟨w.heap.size + 1, 5, none⟩ = some (.int .u64 0) from by rw [hX]; simp [k2, k1, l2, l1, go_sem])
  have r6 := cell_regrown (show X.cell? ⟨w.heap.size + 1, 6, none⟩ = some (.bool true) from by rw [hX]; simp [k2, k1, l2, l1, go_sem])
  have r7 := cell_regrown (show X.cell? ⟨w.heap.size + 1, 7, none⟩ = some (.int .u64 0) from by rw [hX]; simp [k2, k1, l2, l1, go_sem])
  have r8 := cell_regrown (show X.cell? ⟨w.heap.size + 1, 8, none⟩ = some (.int .u64 0) from by rw [hX]; simp [k2, k1, l2, l1, go_sem])
  have r9 := cell_regrown (show X.cell? ⟨w.heap.size + 1, 9, none⟩ = some (.bool true) from by rw [hX]; simp [k2, k1, l2, l1, go_sem])
  have r10 := cell_regrown (show X.cell? ⟨w.heap.size + 1, 10, none⟩ = some (.int .i64 128) from by rw [hX]; simp [k2, k1, l2, l1, go_sem])
  have s0 := cell_regrown (show X.cell? ⟨w1.heap.size, 0, none⟩ = some (.int .u64 0) from by rw [hX]; simp [k3, l3, go_sem])
  have s1 := cell_regrown (show X.cell? ⟨w1.heap.size, 1, none⟩ = some (.int .u64 0) from by rw [hX]; simp [k3, l3, go_sem])
  have s2 := cell_regrown (show X.cell? ⟨w2.heap.size, 0, none⟩ = some (.int .u64 0) from by rw [hX]; simp)
  have s3 := cell_regrown (show X.cell? ⟨w2.heap.size, 1, none⟩ = some (.int .u64 0) from by rw [hX]; simp)
  have BX : Below w.heap.size w X := by rw [hX]; exact ball B2
  rw [← hX]
  clear hX k1 k2 k3 l1 l2 l3 B1 B2 hn
  refine wp_region_quiet_below (by kernel_rfl) (by kernel_rfl) ?_
  repeat (go_big_quiet_step (first
    | (go_at_call 9; exact Calls.regrown_of (flow0 _ (ht.below (below_next BX (below_regrown _ _ _)) hp)))
    | (go_at_call 12; exact Calls.regrown_of (awake_x _ (ht.below (below_next BX (below_regrown _ _ _)) hp)))))
  refine wpQuiet_nil ?_
  intro _ hw'
  obtain ⟨⟨dq, osq⟩, hw''⟩ := hw'
  subst hw''
  go_wp2
  go_ret
  exact ⟨rfl, below_next BX (below_regrown _ dq osq)⟩
theorem fadd1 (w : World) : Calls Tryd.prog 10 #[.agg #[.int .u64 0, .int .u64 18446744073709551615], .agg #[.int .u64 0, .int .u64 18446744073709551615]] w fun e w' => e = .returned (.tuple #[.agg #[.int .u64 1, .int .u64 18446744073709551614], .bool true]) ∧ Below w.heap.size w w' :=
  add_x 18446744073709551615 18446744073709551615 w (by decide) (by decide) (by decide)
theorem fsub1 (w : World) : Calls Tryd.prog 11 #[.agg #[.int .u64 0, .int .u64 18446744073709551615], .agg #[.int .u64 0, .int .u64 18446744073709551615]] w fun e w' => e = .returned (.tuple #[.agg #[.int .u64 0, .int .u64 0], .bool true]) ∧ Below w.heap.size w w' :=
  sub_x 18446744073709551615 18446744073709551615 w (by decide) (by decide) (by decide)
theorem flow1 (w : World) (ht : TabOk w) : Calls Tryd.prog 9 #[.agg #[.int .u64 0, .int .u64 18446744073709551615]] w fun e w' => e = .returned (.int .i64 0) ∧ Below w.heap.size w w' := by
  have h := low_x 18446744073709551615 w ht (by decide)
  rw [show lowQ 18446744073709551615 = 0 from by decide +kernel] at h
  exact h
set_option maxRecDepth 100000 in
set_option maxHeartbeats 4000000 in
theorem forms1 (n : Int) (w : World) (ht : TabOk w) (hn : (bits BinOp.and IntKind.i64 n 255).tmod 9 = 1) :
    Calls Tryd.prog 4 #[.int .i64 n] w fun e w' => e = .returned (.bool true) ∧ Below w.heap.size w w' := by
  have hp := ht.pos
  go_enter Tryd.func4, Tryd.ntmps4
  go_wp2_with fail
  refine (fadd1 _).mono ?_
  rintro e w1 ⟨rfl, hb1⟩
  obtain ⟨k1, l1⟩ := keep hb1 (w.heap.size + 1) (by first | omega | (simp; done) | (simp; omega))
  have B1 := below_next (ball (ball (Below.refl w.heap.size w))) hb1
  clear hb1
  go_wp2_with fail
  refine (fsub1 _).mono ?_
  rintro e w2 ⟨rfl, hb2⟩
  obtain ⟨k2, l2⟩ := keep hb2 (w.heap.size + 1) (by first | omega | (simp; done) | (simp; omega))
  obtain ⟨k3, l3⟩ := keep hb2 w1.heap.size (by first | omega | (simp; done) | (simp; omega))
  have B2 := below_step B1 hb2
  clear hb2
  go_wp2_with fail
  obtain ⟨X, hX⟩ : ∃ X, X = w2.alloc (Obj.cells #[.int .u64 0, .int .u64 0] 29) := ⟨_, rfl⟩
  have r0 := cell_regrown (show X.cell? ⟨w.heap.size + 1, 0, none⟩ = some (.int .u64 0) from by rw [hX]; simp [k2, k1, l2, l1, go_sem])
  have r1 := cell_regrown (show X.cell? ⟨w.heap.size + 1, 1, none⟩ = some (.int .u64 18446744073709551615) from by rw [hX]; simp [k2, k1, l2, l1, go_sem])
  have r2 := cell_regrown (show X.cell? ⟨w.heap.size + 1, 2, none⟩ = some (.int .u64 0) from by rw [hX]; simp [k2, k1, l2, l1, go_sem])
  have r3 := cell_regrown (show X.cell? ⟨w.heap.size + 1, 3, none⟩ = some (.int .u64 18446744073709551615) from by rw [hX]; simp [k2, k1, l2, l1, go_sem])
  have r4 := cell_regrown (show X.cell? ⟨w.heap.size + 1, 4, none⟩ = some (.int .u64 1) from by rw [hX]; simp [k2, k1, l2, l1, go_sem])
  have r5 := cell_regrown (show X.cell? ⟨w.heap.size + 1, 5, none⟩ = some (.int .u64 18446744073709551614) from by rw [hX]; simp [k2, k1, l2, l1, go_sem])
  have r6 := cell_regrown (show X.cell? ⟨w.heap.size + 1, 6, none⟩ = some (.bool true) from by rw [hX]; simp [k2, k1, l2, l1, go_sem])
  have r7 := cell_regrown (show X.cell? ⟨w.heap.size + 1, 7, none⟩ = some (.int .u64 0) from by rw [hX]; simp [k2, k1, l2, l1, go_sem])
  have r8 := cell_regrown (show X.cell? ⟨w.heap.size + 1, 8, none⟩ = some (.int .u64 0) from by rw [hX]; simp [k2, k1, l2, l1, go_sem])
  have r9 := cell_regrown (show X.cell? ⟨w.heap.size + 1, 9, none⟩ = some (.bool true) from by rw [hX]; simp [k2, k1, l2, l1, go_sem])
  have r10 := cell_regrown (show X.cell? ⟨w.heap.size + 1, 10, none⟩ = some (.int .i64 0) from by rw [hX]; simp [k2, k1, l2, l1, go_sem])
  have s0 := cell_regrown (show X.cell? ⟨w1.heap.size, 0, none⟩ = some (.int .u64 1) from by rw [hX]; simp [k3, l3, go_sem])
  have s1 := cell_regrown (show X.cell? ⟨w1.heap.size, 1, none⟩ = some (.int .u64 18446744073709551614) from by rw [hX]; simp [k3, l3, go_sem])
  have s2 := cell_regrown (show X.cell? ⟨w2.heap.size, 0, none⟩ = some (.int .u64 0) from by rw [hX]; simp)
  have s3 := cell_regrown (show X.cell? ⟨w2.heap.size, 1, none⟩ = some (.int .u64 0) from by rw [hX]; simp)
  have BX : Below w.heap.size w X := by rw [hX]; exact ball B2
  rw [← hX]
  clear hX k1 k2 k3 l1 l2 l3 B1 B2 hn
  refine wp_region_quiet_below (by kernel_rfl) (by kernel_rfl) ?_
  repeat (go_big_quiet_step (first
    | (go_at_call 9; exact Calls.regrown_of (flow1 _ (ht.below (below_next BX (below_regrown _ _ _)) hp)))
    | (go_at_call 12; exact Calls.regrown_of (awake_x _ (ht.below (below_next BX (below_regrown _ _ _)) hp)))))
  refine wpQuiet_nil ?_
  intro _ hw'
  obtain ⟨⟨dq, osq⟩, hw''⟩ := hw'
  subst hw''
  go_wp2
  go_ret
  exact ⟨rfl, below_next BX (below_regrown _ dq osq)⟩
theorem fadd2 (w : World) : Calls Tryd.prog 10 #[.agg #[.int .u64 18446744073709551615, .int .u64 18446744073709551615], .agg #[.int .u64 0, .int .u64 0]] w fun e w' => e = .returned (.tuple #[.agg #[.int .u64 18446744073709551615, .int .u64 18446744073709551615], .bool true]) ∧ Below w.heap.size w w' :=
  add_x 340282366920938463463374607431768211455 0 w (by decide) (by decide) (by decide)
theorem fsub2 (w : World) : Calls Tryd.prog 11 #[.agg #[.int .u64 18446744073709551615, .int .u64 18446744073709551615], .agg #[.int .u64 0, .int .u64 0]] w fun e w' => e = .returned (.tuple #[.agg #[.int .u64 18446744073709551615, .int .u64 18446744073709551615], .bool true]) ∧ Below w.heap.size w w' :=
  sub_x 340282366920938463463374607431768211455 0 w (by decide) (by decide) (by decide)
theorem flow2 (w : World) (ht : TabOk w) : Calls Tryd.prog 9 #[.agg #[.int .u64 18446744073709551615, .int .u64 18446744073709551615]] w fun e w' => e = .returned (.int .i64 0) ∧ Below w.heap.size w w' := by
  have h := low_x 340282366920938463463374607431768211455 w ht (by decide)
  rw [show lowQ 340282366920938463463374607431768211455 = 0 from by decide +kernel] at h
  exact h
set_option maxRecDepth 100000 in
set_option maxHeartbeats 4000000 in
theorem forms2 (n : Int) (w : World) (ht : TabOk w) (hn : (bits BinOp.and IntKind.i64 n 255).tmod 9 = 2) :
    Calls Tryd.prog 4 #[.int .i64 n] w fun e w' => e = .returned (.bool true) ∧ Below w.heap.size w w' := by
  have hp := ht.pos
  go_enter Tryd.func4, Tryd.ntmps4
  go_wp2_with fail
  refine (fadd2 _).mono ?_
  rintro e w1 ⟨rfl, hb1⟩
  obtain ⟨k1, l1⟩ := keep hb1 (w.heap.size + 1) (by first | omega | (simp; done) | (simp; omega))
  have B1 := below_next (ball (ball (Below.refl w.heap.size w))) hb1
  clear hb1
  go_wp2_with fail
  refine (fsub2 _).mono ?_
  rintro e w2 ⟨rfl, hb2⟩
  obtain ⟨k2, l2⟩ := keep hb2 (w.heap.size + 1) (by first | omega | (simp; done) | (simp; omega))
  obtain ⟨k3, l3⟩ := keep hb2 w1.heap.size (by first | omega | (simp; done) | (simp; omega))
  have B2 := below_step B1 hb2
  clear hb2
  go_wp2_with fail
  obtain ⟨X, hX⟩ : ∃ X, X = w2.alloc (Obj.cells #[.int .u64 18446744073709551615, .int .u64 18446744073709551615] 29) := ⟨_, rfl⟩
  have r0 := cell_regrown (show X.cell? ⟨w.heap.size + 1, 0, none⟩ = some (.int .u64 18446744073709551615) from by rw [hX]; simp [k2, k1, l2, l1, go_sem])
  have r1 := cell_regrown (show X.cell? ⟨w.heap.size + 1, 1, none⟩ = some (.int .u64 18446744073709551615) from by rw [hX]; simp [k2, k1, l2, l1, go_sem])
  have r2 := cell_regrown (show X.cell? ⟨w.heap.size + 1, 2, none⟩ = some (.int .u64 0) from by rw [hX]; simp [k2, k1, l2, l1, go_sem])
  have r3 := cell_regrown (show X.cell? ⟨w.heap.size + 1, 3, none⟩ = some (.int .u64 0) from by rw [hX]; simp [k2, k1, l2, l1, go_sem])
  have r4 := cell_regrown (show X.cell? ⟨w.heap.size + 1, 4, none⟩ = some (.int .u64 18446744073709551615) from by rw [hX]; simp [k2, k1, l2, l1, go_sem])
  have r5 := cell_regrown (show X.cell? ⟨w.heap.size + 1, 5, none⟩ = some (.int .u64 18446744073709551615) from by rw [hX]; simp [k2, k1, l2, l1, go_sem])
  have r6 := cell_regrown (show X.cell? ⟨w.heap.size + 1, 6, none⟩ = some (.bool true) from by rw [hX]; simp [k2, k1, l2, l1, go_sem])
  have r7 := cell_regrown (show X.cell? ⟨w.heap.size + 1, 7, none⟩ = some (.int .u64 18446744073709551615) from by rw [hX]; simp [k2, k1, l2, l1, go_sem])
  have r8 := cell_regrown (show X.cell? ⟨w.heap.size + 1, 8, none⟩ = some (.int .u64 18446744073709551615) from by rw [hX]; simp [k2, k1, l2, l1, go_sem])
  have r9 := cell_regrown (show X.cell? ⟨w.heap.size + 1, 9, none⟩ = some (.bool true) from by rw [hX]; simp [k2, k1, l2, l1, go_sem])
  have r10 := cell_regrown (show X.cell? ⟨w.heap.size + 1, 10, none⟩ = some (.int .i64 0) from by rw [hX]; simp [k2, k1, l2, l1, go_sem])
  have s0 := cell_regrown (show X.cell? ⟨w1.heap.size, 0, none⟩ = some (.int .u64 18446744073709551615) from by rw [hX]; simp [k3, l3, go_sem])
  have s1 := cell_regrown (show X.cell? ⟨w1.heap.size, 1, none⟩ = some (.int .u64 18446744073709551615) from by rw [hX]; simp [k3, l3, go_sem])
  have s2 := cell_regrown (show X.cell? ⟨w2.heap.size, 0, none⟩ = some (.int .u64 18446744073709551615) from by rw [hX]; simp)
  have s3 := cell_regrown (show X.cell? ⟨w2.heap.size, 1, none⟩ = some (.int .u64 18446744073709551615) from by rw [hX]; simp)
  have BX : Below w.heap.size w X := by rw [hX]; exact ball B2
  rw [← hX]
  clear hX k1 k2 k3 l1 l2 l3 B1 B2 hn
  refine wp_region_quiet_below (by kernel_rfl) (by kernel_rfl) ?_
  repeat (go_big_quiet_step (first
    | (go_at_call 9; exact Calls.regrown_of (flow2 _ (ht.below (below_next BX (below_regrown _ _ _)) hp)))
    | (go_at_call 12; exact Calls.regrown_of (awake_x _ (ht.below (below_next BX (below_regrown _ _ _)) hp)))))
  refine wpQuiet_nil ?_
  intro _ hw'
  obtain ⟨⟨dq, osq⟩, hw''⟩ := hw'
  subst hw''
  go_wp2
  go_ret
  exact ⟨rfl, below_next BX (below_regrown _ dq osq)⟩
end Go.Proofs.YtjmgiepjgkoocaaDoor
