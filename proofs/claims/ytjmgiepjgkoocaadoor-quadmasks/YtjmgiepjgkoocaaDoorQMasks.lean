/- QuadMasks: for any two numbers of bits the law answers true. -/
import Derived.Test.YtjmgiepjgkoocaaDoorQa
import Derived.Test.YtjmgiepjgkoocaaDoorQk
import Derived.Lib.QuietBelow
import Derived.Lib.MinMax
import Derived.BigQuiet
import Derived.Deep.DeepCutAuto
import Derived.Deep.RegionHeld3
namespace Go.Proofs.YtjmgiepjgkoocaaDoor
open Go.ChangeShapes Go.WideShapes Go.RowKit Go.Sort

theorem held129 (n : Int) : ∃ i : Nat, i < 129 ∧ (bits BinOp.and IntKind.i64 n 255).tmod 129 = (i : Int) := by
  rw [i64_and255, Int.tmod_eq_emod_of_nonneg (by omega)]
  exact ⟨(n % 256 % 129).toNat, by omega, by omega⟩
theorem mask_min (i j : Nat) (w : World) (hi : i < 129) :
    Calls Tryd.prog 17 #[.int .i64 (min (i : Int) (j : Int))] w fun e w' => e = .returned (.agg #[.int .u64 (hiQ (maskQ (min i j))), .int .u64 (loQ (maskQ (min i j)))]) ∧ Below w.heap.size w w' := by
  have := mask_at (min i j) w (by omega)
  rw [show (((min i j : Nat) : Int)) = min (i : Int) (j : Int) from by omega] at this
  exact this
theorem mask_max (i j : Nat) (w : World) (hi : i < 129) (hj : j < 129) :
    Calls Tryd.prog 17 #[.int .i64 (max (i : Int) (j : Int))] w fun e w' => e = .returned (.agg #[.int .u64 (hiQ (maskQ (max i j))), .int .u64 (loQ (maskQ (max i j)))]) ∧ Below w.heap.size w w' := by
  have := mask_at (max i j) w (by omega)
  rw [show (((max i j : Nat) : Int)) = max (i : Int) (j : Int) from by omega] at this
  exact this
theorem masks_and (i j : Nat) (hi : i < 129) (hj : j < 129) : maskQ i &&& maskQ j = maskQ (min i j) ∧ maskQ i ||| maskQ j = maskQ (max i j) := by
  by_cases h : i ≤ j
  · have := masks_le i hi j hj h
    rw [Nat.min_eq_left h, Nat.max_eq_right h]; exact ⟨this.1, this.2.2.1⟩
  · have := masks_le j hj i hi (by omega)
    rw [Nat.min_eq_right (by omega), Nat.max_eq_left (by omega)]; exact ⟨this.2.1, this.2.2.2⟩

set_option maxRecDepth 100000 in
set_option maxHeartbeats 4000000 in
theorem masks_walk (n k : Int) (w : World) (ht : TabOk w) :
    Calls Tryd.prog 6 #[.int .i64 n, .int .i64 k] w fun e w' => e = .returned (.bool true) ∧ Below w.heap.size w w' := by
  have hp := ht.pos
  obtain ⟨i, hi, ei⟩ := held129 n
  obtain ⟨j, hj, ej⟩ := held129 k
  have EI : Hid ((bits BinOp.and IntKind.i64 n 255).tmod 129 = (i : Int)) := ei
  have EJ : Hid ((bits BinOp.and IntKind.i64 k 255).tmod 129 = (j : Int)) := ej
  clear ei ej
  go_enter Tryd.func6, Tryd.ntmps6
  go_wp2_with fail
  rw [EI.out, EJ.out]
  refine (mask_at i _ (by omega)).mono ?_
  rintro e w1 ⟨rfl, hb1⟩
  have B1 : Below w.heap.size w w1 := hb1
  clear hb1
  go_wp2_with fail
  refine (mask_at j _ (by omega)).mono ?_
  rintro e w2 ⟨rfl, hb2⟩
  have B2 := below_next B1 hb2
  clear hb2 B1
  go_wp2_with fail
  refine (mask_min i j _ hi).mono ?_
  rintro e w3 ⟨rfl, hb3⟩
  obtain ⟨k23, l23⟩ := keep hb3 w2.heap.size (by first | omega | (simp; done) | (simp; omega))
  obtain ⟨k33, l33⟩ := keep hb3 (w2.heap.size + 1) (by first | omega | (simp; done) | (simp; omega))
  have B3 := below_next (ball (ball B2)) hb3
  clear hb3
  go_upto_region 4 with fail
  obtain ⟨X, hX⟩ : ∃ X, X = w3.alloc (Obj.cells #[Value.int IntKind.u64 (hiQ (maskQ (min i j))), Value.int IntKind.u64 (loQ (maskQ (min i j)))] 29) := ⟨_, rfl⟩
  have x0 : X.cell? ⟨w2.heap.size, 0, none⟩ = some (.int .u64 (hiQ (maskQ i))) := by rw [hX]; simp [k23, l23, go_sem]
  have x1 : X.cell? ⟨w2.heap.size, 1, none⟩ = some (.int .u64 (loQ (maskQ i))) := by rw [hX]; simp [k23, l23, go_sem]
  have x2 : X.cell? ⟨w2.heap.size + 1, 0, none⟩ = some (.int .u64 (hiQ (maskQ j))) := by rw [hX]; simp [k33, l33, go_sem]
  have x3 : X.cell? ⟨w2.heap.size + 1, 1, none⟩ = some (.int .u64 (loQ (maskQ j))) := by rw [hX]; simp [k33, l33, go_sem]
  have x4 : X.cell? ⟨w3.heap.size, 0, none⟩ = some (.int .u64 (hiQ (maskQ (min i j)))) := by rw [hX]; simp
  have x5 : X.cell? ⟨w3.heap.size, 1, none⟩ = some (.int .u64 (loQ (maskQ (min i j)))) := by rw [hX]; simp
  have BX : Below w.heap.size w X := by rw [hX]; exact ball B3
  have lX : w2.heap.size < X.heap.size := by rw [hX]; simp; omega
  rw [← hX]
  clear hX k23 k33 l23 l33 B2 B3
  have r0 := cell_regrown x0; have r1 := cell_regrown x1; have r2 := cell_regrown x2; have r3 := cell_regrown x3
  have r4 := cell_regrown x4; have r5 := cell_regrown x5
  have a1 := (masks_and i j hi hj).1
  have a2 := (masks_and i j hi hj).2
  have a3 := masks_lt i hi j hj
  have a4 : ((lowQ (maskQ i) : Nat) : Int) = 128 - (i : Int) := by rw [lowQ_mask i hi]; omega
  refine wp_region_quiet_below (by kernel_rfl) (by kernel_rfl) ?_
  repeat (go_big_quiet_step (first
    | (go_at_call 14; exact Calls.regrown_of (and_x _ _ _ (maskQ_lt _) (maskQ_lt _)))
    | (go_at_call 15; exact Calls.regrown_of (or_x _ _ _ (maskQ_lt _) (maskQ_lt _)))
    | (go_at_call 17; exact Calls.regrown_of (mask_max i j _ hi hj))
    | (go_at_call 13; exact Calls.regrown_of (less_is _ _ _ _ a3))
    | (go_at_call 9; exact Calls.regrown_of (low_x _ _ (ht.below (below_next BX (below_regrown _ _ _)) hp) (maskQ_lt _)))))
  refine wpQuiet_nil ?_
  intro _ hw'
  obtain ⟨⟨dq, osq⟩, hw''⟩ := hw'
  subst hw''
  have y0 := r0 dq osq
  have y1 := r1 dq osq
  have BY := below_next BX (below_regrown X dq osq)
  have lY : w2.heap.size < (grow (redrawn X dq) osq).heap.size := Nat.lt_of_lt_of_le lX (below_regrown X dq osq).size
  clear r0 r1 r2 r3 r4 r5 x0 x1 x2 x3 x4 x5 a1 a2 a3 a4 BX lX
  generalize grow (redrawn X dq) osq = Y at y0 y1 BY lY ⊢
  go_upto_if 80 with fail
  go_cut [] (fun wx => Below w.heap.size w wx)
  case first =>
    by_cases h : i < 128
    · have h' : (i : Int) < 128 := by omega
      have nY := Nat.ne_of_gt lY
      have b1 := (mask_next i h).1
      have b2 := (mask_next i h).2
      go_upto_region 7 with fail
      go_cut [8, 9] (fun p b wx => ∃ N, p = .pointer (some ⟨N, 0, none⟩) ∧ b = .bool true ∧ wx.cell? ⟨N, 0, none⟩ = some (.int .u64 (hiQ (maskQ (i + 1)))) ∧ wx.cell? ⟨N, 1, none⟩ = some (.int .u64 (loQ (maskQ (i + 1)))) ∧ Below Y.heap.size Y wx)
      case first =>
        have hw : IntKind.i64.wrap (127 - (i : Int)) = 127 - (i : Int) := by rw [IntKind.wrap_i64]; omega
        go_region_held3 (fun w' => w'.cell? ⟨w2.heap.size, 0, none⟩ = some (.int .u64 (hiQ (maskQ i))) ∧ w'.cell? ⟨w2.heap.size, 1, none⟩ = some (.int .u64 (loQ (maskQ i)))) (go_keep)
          (first
            | (go_at_call 18; refine (bit_v127 i _ h).mono ?_; rintro e w8 ⟨rfl, hb8⟩; obtain ⟨k78, l78⟩ := keep hb8 w2.heap.size (by first | omega | (simp; done) | (simp; omega)); have q88 := keepf hb8 Y.heap.size; have n78 := Nat.ne_of_gt l78; have C8 := below_next (W := Y) (by repeat (first | exact Below.refl _ _ | apply Below.drew | apply ball)) hb8)
            | (go_at_call 10; refine (add_any _ _ _ (maskQ_lt _) (bitV_lt _)).mono ?_; rintro e w9 ⟨rfl, hb9⟩; obtain ⟨k79, l79⟩ := keep hb9 w2.heap.size (by first | omega | (simp; done) | (simp; omega)); have q89 := keepf hb9 Y.heap.size; have q99 := keepf hb9 w8.heap.size; have n79 := Nat.ne_of_gt l79; have C9 := below_next (W := Y) (by repeat (first | exact C8 | apply Below.drew | apply ball)) hb9))
        all_goals
          go_wp2_with fail
          go_meet
        all_goals
          have z9 := C9.size
          have z8 := C8.size
          refine ⟨_, rfl, rfl, ?_, ?_, ?_⟩
        all_goals first
          | ((repeat (first | exact C9 | apply ball | (refine Below.setCell ?_ (by first | omega | (simp; done) | (simp; omega)) _))); done)
          | (simp [*, go_sem]; done)
          | (have e0 := (q99 (by simp)).1 0; have e1 := (q99 (by simp)).1 1; simp at e0 e1; first | exact (set2 e0 e1).1 | exact (set2 e0 e1).2)
          | (have e0 := (q88 (by simp)).1 0; have e1 := (q88 (by simp)).1 1; simp at e0 e1; have d0 := (q89 (q88 (by simp)).2.2).1 0; have d1 := (q89 (q88 (by simp)).2.2).1 1; rw [e0] at d0; rw [e1] at d1; first | exact (set2 d0 d1).1 | exact (set2 d0 d1).2)
      case rest =>
        obtain ⟨N, rfl, rfl, t0, t1, C⟩ := hcut
        have BC := below_next BY C
        have r0 := cell_regrown t0; have r1 := cell_regrown t1
        clear y0 y1 BY lY nY C t0 t1 b1 b2
        go_wp2_with fail
        refine wp_region_quiet_below (by kernel_rfl) (by kernel_rfl) ?_
        repeat (go_big_quiet_step (first
          | (go_at_call 17; exact Calls.regrown_of (mask_succ i _ h))))
        refine wpQuiet_nil ?_
        intro _ hw'
        obtain ⟨⟨dq, osq⟩, hw''⟩ := hw'
        subst hw''
        go_wp2_with fail
        go_meet
        case rel => exact below_next BC (below_regrown _ dq osq)
    · have h' : ¬ (i : Int) < 128 := by omega
      go_wp2_with fail
      go_meet
      case rel => exact BY
  case rest =>
    clear y0 y1 BY lY
    have b4 := hiQ_zero
    have b5 := loQ_zero
    by_cases e : i = j
    · subst e
      have B4 := hcut
      clear hcut
      go_wp2_with fail
      refine (bit_no 128 _ (by omega)).mono ?_
      rintro e w5 ⟨rfl, hb5⟩
      have B5 := below_next B4 hb5
      go_wp2_with fail
      refine (bit_no (-1) _ (by omega)).mono ?_
      rintro e w6 ⟨rfl, hb6⟩
      have B6 := below_next B5 hb6
      go_wp2_with fail
      refine (awake_x _ (ht.below B6 hp)).mono ?_
      rintro e w7 ⟨rfl, hb7⟩
      go_wp2
      go_ret
      exact ⟨rfl, below_next B6 hb7⟩
    · have e1 : ((i : Int) == (j : Int)) = false := by rw [beq_eq_false_iff_ne]; omega
      have e2 := bits_apart i hi j hj e
      clear e
      go_wp2_with fail
      refine (bit_v i _ (by omega)).mono ?_
      rintro e w1' ⟨rfl, hb1⟩
      have B1 := below_next hcut hb1
      go_wp2_with fail
      refine (bit_v j _ (by omega)).mono ?_
      rintro e w2' ⟨rfl, hb2⟩
      have B2 := below_next B1 hb2
      go_wp2_with fail
      refine (and_x _ _ _ (bitV_lt _) (bitV_lt _)).mono ?_
      rintro e w3' ⟨rfl, hb3⟩
      have B4 := below_next B2 hb3
      clear hb1 hb2 hb3 B1 B2 hcut
      go_wp2_with fail
      refine (bit_no 128 _ (by omega)).mono ?_
      rintro e w5 ⟨rfl, hb5⟩
      have B5 := below_next B4 hb5
      go_wp2_with fail
      refine (bit_no (-1) _ (by omega)).mono ?_
      rintro e w6 ⟨rfl, hb6⟩
      have B6 := below_next B5 hb6
      go_wp2_with fail
      refine (awake_x _ (ht.below B6 hp)).mono ?_
      rintro e w7 ⟨rfl, hb7⟩
      go_wp2
      go_ret
      exact ⟨rfl, below_next B6 hb7⟩
end Go.Proofs.YtjmgiepjgkoocaaDoor
