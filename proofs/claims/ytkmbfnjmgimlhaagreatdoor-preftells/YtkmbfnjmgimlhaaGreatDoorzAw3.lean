/- The laws' own small check 'awake' of layer 3. -/
import Derived.Test.YtkmbfnjmgimlhaaGreatDoorzPu
namespace Go.Proofs.YtkmbfnjmgimlhaaGreatDoor
open Go.ChangeShapes Go.WideShapes Go.RowKit Go.Sort

theorem aw_parse1 (w : World) (hg : Gl w) : Calls Tryz.prog 14 #[.string ⟨#[49, 48, 46, 48, 46, 48, 46, 48, 47, 50, 52]⟩] w fun e w' => e = .returned (.tuple #[.agg #[.int .i64 4, .int .u64 0, .int .u64 167772160, .int .i64 24], .bool true]) ∧ Below w.heap.size w w' :=
  parseP_some _ 4 167772160 24 w hg (by decide) (by decide +kernel)
theorem aw_parse2 (w : World) (hg : Gl w) : Calls Tryz.prog 14 #[.string ⟨#[49, 48, 46, 48, 46, 48, 46, 49, 47, 50, 52]⟩] w fun e w' => e = .returned (.tuple #[.agg #[.int .i64 0, .int .u64 0, .int .u64 0, .int .i64 0], .bool false]) ∧ Below w.heap.size w w' :=
  parseP_none _ w hg (by decide) (by decide +kernel)
theorem aw_parse3 (w : World) (hg : Gl w) : Calls Tryz.prog 14 #[.string ⟨#[50, 48, 48, 49, 58, 100, 98, 56, 58, 58, 47, 54, 52]⟩] w fun e w' => e = .returned (.tuple #[.agg #[.int .i64 6, .int .u64 2306139568115548160, .int .u64 0, .int .i64 64], .bool true]) ∧ Below w.heap.size w w' :=
  parseP_some _ 6 42540766411282592856903984951653826560 64 w hg (by decide) (by decide +kernel)
theorem aw_nm1 (w : World) : Calls Tryz.prog 17 #[.agg #[.int .i64 4, .int .u64 0, .int .u64 167772160, .int .i64 24]] w fun e w' => e = .returned (.tuple #[.agg #[.int .i64 4, .int .u64 0, .int .u64 4294967040], .bool true]) ∧ Below w.heap.size w w' :=
  nm_yes 167772160 24 w (by decide) (by decide +kernel)
theorem aw_of (w : World) (ht : TabOk w) : Calls Tryz.prog 19 #[.agg #[.int .i64 4, .int .u64 0, .int .u64 167772167], .agg #[.int .i64 4, .int .u64 0, .int .u64 4294967040]] w fun e w' => e = .returned (.tuple #[.agg #[.int .i64 4, .int .u64 0, .int .u64 167772160, .int .i64 24], .bool true]) ∧ Below w.heap.size w w' :=
  of_yes 167772167 24 w ht (by decide) (by decide)
theorem aw_nm2 (w : World) : Calls Tryz.prog 17 #[.agg #[.int .i64 6, .int .u64 2306139568115548160, .int .u64 0, .int .i64 64]] w fun e w' => e = .returned (.tuple #[.agg #[.int .i64 0, .int .u64 0, .int .u64 0], .bool false]) ∧ Below w.heap.size w w' :=
  nm_no 6 42540766411282592856903984951653826560 64 w (by decide) (by decide +kernel)
theorem aw_print (w : World) (hg : Gl w) : Calls Tryz.prog 21 #[.agg #[.int .i64 4, .int .u64 0, .int .u64 167772160, .int .i64 24]] w fun e w' => e = .returned (.string ⟨#[49, 48, 46, 48, 46, 48, 46, 48, 47, 50, 52]⟩) ∧ Below w.heap.size w w' :=
  printP_is 4 167772160 24 w hg (by decide) _ (by rw [show tellP 4 167772160 24 = [49, 48, 46, 48, 46, 48, 46, 48, 47, 50, 52] by decide +kernel]; rfl)
theorem aw_last (w : World) : Calls Tryz.prog 24 #[.agg #[.int .i64 4, .int .u64 0, .int .u64 167772160, .int .i64 24]] w fun e w' => e = .returned (.agg #[.int .i64 4, .int .u64 0, .int .u64 167772415]) ∧ Below w.heap.size w w' := by
  have h := last_x 4 167772160 24 w (by decide)
  rw [show firstV 4 167772160 24 = 4 by decide +kernel, show lastX 4 167772160 24 = 167772415 by decide +kernel] at h
  exact h
theorem aw_first (w : World) : Calls Tryz.prog 23 #[.agg #[.int .i64 6, .int .u64 2306139568115548160, .int .u64 0, .int .i64 64]] w fun e w' => e = .returned (.agg #[.int .i64 6, .int .u64 2306139568115548160, .int .u64 0]) ∧ Below w.heap.size w w' := by
  have h := first_x 6 42540766411282592856903984951653826560 64 w (by decide)
  rw [show firstV 6 42540766411282592856903984951653826560 64 = 6 by decide +kernel, show firstX 6 42540766411282592856903984951653826560 64 = 42540766411282592856903984951653826560 by decide +kernel] at h
  exact h
theorem aw_less3 (w : World) : Calls Tryz.prog 30 #[.agg #[.int .i64 4, .int .u64 0, .int .u64 167772160, .int .i64 24], .agg #[.int .i64 6, .int .u64 2306139568115548160, .int .u64 0, .int .i64 64]] w fun e w' => e = .returned (.bool true) ∧ Below w.heap.size w w' :=
  lessPref_is 4 167772160 24 6 42540766411282592856903984951653826560 64 w (by decide) (by decide) true (by decide +kernel)
theorem aw_over1 (w : World) : Calls Tryz.prog 28 #[.agg #[.int .i64 4, .int .u64 0, .int .u64 167772160, .int .i64 24], .agg #[.int .i64 6, .int .u64 2306139568115548160, .int .u64 0, .int .i64 64]] w fun e w' => e = .returned (.bool false) ∧ Below w.heap.size w w' :=
  over_is 4 167772160 24 6 42540766411282592856903984951653826560 64 w (by decide) (by decide) false (by decide +kernel)
theorem aw_over2 (w : World) : Calls Tryz.prog 28 #[.agg #[.int .i64 4, .int .u64 0, .int .u64 167772160, .int .i64 24], .agg #[.int .i64 4, .int .u64 0, .int .u64 167772160, .int .i64 24]] w fun e w' => e = .returned (.bool true) ∧ Below w.heap.size w w' :=
  over_is 4 167772160 24 4 167772160 24 w (by decide) (by decide) true (by decide +kernel)
theorem aw_has (w : World) : Calls Tryz.prog 26 #[.agg #[.int .i64 4, .int .u64 0, .int .u64 167772160, .int .i64 24], .agg #[.int .i64 4, .int .u64 0, .int .u64 167772415]] w fun e w' => e = .returned (.bool true) ∧ Below w.heap.size w w' :=
  has_pis 4 167772160 24 4 167772415 w (by decide) (by decide) true (by decide +kernel)
set_option maxHeartbeats 4000000 in
set_option maxRecDepth 100000 in
theorem awake3_x (w : World) (hg : Gl w) : Calls Tryz.prog 9 #[] w fun e w' => e = .returned (.bool true) ∧ Below w.heap.size w w' := by
  have HG := Lib.hid hg
  clear hg
  go_enter Tryz.func9, Tryz.ntmps9
  go_wp2_with fail
  refine (aw_parse1 _ HG.out).mono ?_
  rintro e w1 ⟨rfl, hb1⟩
  have G1 := HG.out.below hb1
  have B1 := hb1
  go_wp2_with fail
  refine (aw_parse2 _ (G1.alloc _)).mono ?_
  rintro e w2 ⟨rfl, hb2⟩
  have B2 := below_next (ball B1) hb2
  have G2 := (G1.alloc _).below hb2
  have P := (pl_new w1 4 0 167772160 24).below hb2
  clear hb1 G1 hb2 B1
  go_wp2_with fail
  refine (aw_parse3 _ (G2.alloc _)).mono ?_
  rintro e w3 ⟨rfl, hb3⟩
  have B3 := below_next (ball B2) hb3
  have G3 := (G2.alloc _).below hb3
  replace P := (P.alloc _).below hb3
  clear B2 G2 hb3
  have P' := P.alloc (.cells #[.int .i64 6, .int .u64 2306139568115548160, .int .u64 0, .int .i64 64] 30)
  obtain ⟨p0, p1, p2, p3, pl⟩ := id P
  go_wp2_with fail
  refine (aw_nm1 _).mono ?_
  rintro e w4 ⟨rfl, hb4⟩
  have B4 := below_next (ball B3) hb4
  have G4 := (G3.alloc _).below hb4
  replace P := P'.below hb4
  have Q := (pl_new w3 6 2306139568115548160 0 64).below hb4
  clear B3 G3 hb4 P' p0 p1 p2 p3 pl
  go_wp2_with fail
  refine (aw_of _ (G4.alloc _).tz).mono ?_
  rintro e w5 ⟨rfl, hb5⟩
  have B5 := below_next (ball B4) hb5
  have G5 := (G4.alloc _).below hb5
  replace P := (P.alloc _).below hb5
  replace Q := (Q.alloc _).below hb5
  have M := (cl_new w4 4 0 4294967040).below hb5
  clear B4 G4 hb5
  obtain ⟨q0, q1, q2, q3, ql⟩ := id Q
  go_wp2_with fail
  refine (aw_nm2 _).mono ?_
  rintro e w6 ⟨rfl, hb6⟩
  have B6 := below_next (ball B5) hb6
  have G6 := (G5.alloc _).below hb6
  replace P := (P.alloc _).below hb6
  replace Q := (Q.alloc _).below hb6
  replace M := (M.alloc _).below hb6
  have O := (pl_new w5 4 0 167772160 24).below hb6
  clear B5 G5 hb6 q0 q1 q2 q3 ql
  have BW := ball (o := .cells #[.int .i64 0, .int .u64 0, .int .u64 0] 28) B6
  have GW := Lib.hid (G6.alloc (.cells #[.int .i64 0, .int .u64 0, .int .u64 0] 28))
  replace P := P.alloc (.cells #[.int .i64 0, .int .u64 0, .int .u64 0] 28)
  replace Q := Q.alloc (.cells #[.int .i64 0, .int .u64 0, .int .u64 0] 28)
  replace M := M.alloc (.cells #[.int .i64 0, .int .u64 0, .int .u64 0] 28)
  replace O := O.alloc (.cells #[.int .i64 0, .int .u64 0, .int .u64 0] 28)
  clear B6 G6
  go_wp2_with fail
  obtain ⟨W, hW⟩ : ∃ W, W = w6.alloc (.cells #[.int .i64 0, .int .u64 0, .int .u64 0] 28) := ⟨_, rfl⟩
  rw [← hW] at BW GW P Q M O ⊢
  clear hW
  have p0 := cell_regrown P.c0; have p1 := cell_regrown P.c1; have p2 := cell_regrown P.c2; have p3 := cell_regrown P.c3
  have q0 := cell_regrown Q.c0; have q1 := cell_regrown Q.c1; have q2 := cell_regrown Q.c2; have q3 := cell_regrown Q.c3
  have o0 := cell_regrown O.c0; have o1 := cell_regrown O.c1; have o2 := cell_regrown O.c2; have o3 := cell_regrown O.c3
  have m0 := cell_regrown M.c0; have m1 := cell_regrown M.c1; have m2 := cell_regrown M.c2
  clear P Q M O
  have hf1 : ∀ w : World, (Instr.field 28 (.agg #[.int .i64 4, .int .u64 0, .int .u64 167772415]) 1).run Tryz.prog w = .ok (.agg #[.int .u64 0, .int .u64 167772415]) w := fun _ => by kernel_rfl
  have hf2 : ∀ w : World, (Instr.field 26 (.agg #[.int .u64 0, .int .u64 167772415]) 1).run Tryz.prog w = .ok (.int .u64 167772415) w := fun _ => by kernel_rfl
  dsimp only [List.append]
  refine wp_region_quiet_below (by kernel_rfl) (by kernel_rfl) ?_
  repeat (go_big_quiet_step (fail))
  go_big_quiet_step ((go_at_call 21; exact Calls.regrown_of (aw_print _ (GW.out.below (below_regrown W _ _)))))
  repeat (go_big_quiet_step (fail))
  go_big_quiet_step ((go_at_call 24; exact Calls.regrown_of (aw_last _)))
  repeat (go_big_quiet_step (fail))
  go_big_quiet_step ((go_at_call 23; exact Calls.regrown_of (aw_first _)))
  repeat (go_big_quiet_step (fail))
  go_big_quiet_step ((go_at_call 30; exact Calls.regrown_of (aw_less3 _)))
  repeat (go_big_quiet_step (fail))
  go_big_quiet_step ((go_at_call 28; exact Calls.regrown_of (aw_over1 _)))
  repeat (go_big_quiet_step (fail))
  go_big_quiet_step ((go_at_call 28; exact Calls.regrown_of (aw_over2 _)))
  repeat (go_big_quiet_step (fail))
  go_big_quiet_step ((go_at_call 24; exact Calls.regrown_of (aw_last _)))
  repeat (go_big_quiet_step (fail))
  go_big_quiet_step ((go_at_call 26; exact Calls.regrown_of (aw_has _)))
  repeat (go_big_quiet_step (fail))
  refine wpQuiet_nil ?_
  intro _ hw'
  obtain ⟨⟨dq, osq⟩, hw''⟩ := hw'
  subst hw''
  go_wp2
  go_ret
  exact ⟨rfl, below_next BW (below_regrown W dq osq)⟩
end Go.Proofs.YtkmbfnjmgimlhaaGreatDoor
