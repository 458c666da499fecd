/- QuadBack: for any two numbers of 128 bits and any place the law answers true. -/
import Derived.Test.YtjmgiepjgkoocaaDoorQa
import Derived.Lib.QuietBelow
import Derived.BigQuiet
import Derived.Deep.DeepCutAuto
import Derived.Deep.RegionHeld3
namespace Go.Proofs.YtjmgiepjgkoocaaDoor
open Go.ChangeShapes Go.WideShapes Go.RowKit Go.Sort

theorem back_add (x y : Nat) (h : addB x y = true) : subB (addR x y) y = true ∧ subR (addR x y) y = x ∧ ltB (addR x y) x = false := by
  unfold addB at h
  have h := of_decide_eq_true h
  have e : addR x y = x + y := if_pos h
  rw [e]
  unfold subB subR ltB
  exact ⟨decide_eq_true (by omega), by omega, decide_eq_false (by omega)⟩
theorem back_sub (x y : Nat) (hx : x < 340282366920938463463374607431768211456) (h : subB x y = true) : ltB x y = false ∧ addB (subR x y) y = true ∧ addR (subR x y) y = x := by
  have h := of_decide_eq_true h
  have e : subR x y + y = x := by unfold subR; omega
  unfold ltB addB addR
  rw [e, if_pos hx]
  exact ⟨decide_eq_false (by omega), decide_eq_true hx, rfl⟩
theorem back_sub_no (x y : Nat) (h : subB x y = false) : ltB x y = true := by
  have h := of_decide_eq_false h
  exact decide_eq_true (by omega)

set_option maxRecDepth 100000 in
set_option maxHeartbeats 4000000 in
theorem back_walk (x y : Nat) (n : Int) (w : World) (ht : TabOk w) (hx : x < 340282366920938463463374607431768211456) (hy : y < 340282366920938463463374607431768211456) :
    Calls Tryd.prog 7 #[.agg #[.int .u64 (hiQ x), .int .u64 (loQ x)], .agg #[.int .u64 (hiQ y), .int .u64 (loQ y)], .int .i64 n] w fun e w' => e = .returned (.bool true) ∧ Below w.heap.size w w' := by
  have hp := ht.pos
  have HX : Hid (x < 340282366920938463463374607431768211456) := hx
  have HY : Hid (y < 340282366920938463463374607431768211456) := hy
  clear hx hy
  go_enter Tryd.func7, Tryd.ntmps7
  go_wp2_with fail
  refine (add_any _ _ _ HX.out HY.out).mono ?_
  rintro e w1 ⟨rfl, hb1⟩
  obtain ⟨k0, l0⟩ := keep hb1 w.heap.size (by simp; omega)
  obtain ⟨k1, l1⟩ := keep hb1 (w.heap.size + 1) (by simp)
  have B1 : Below w.heap.size w w1 := below_next (below2 w _ _) hb1
  clear hb1
  go_upto_if 24 with fail
  go_cut [8] (fun _ wx => wx.cell? ⟨w.heap.size, 0, none⟩ = some (.int .u64 (hiQ x)) ∧ wx.cell? ⟨w.heap.size, 1, none⟩ = some (.int .u64 (loQ x)) ∧ wx.cell? ⟨w.heap.size + 1, 0, none⟩ = some (.int .u64 (hiQ y)) ∧ wx.cell? ⟨w.heap.size + 1, 1, none⟩ = some (.int .u64 (loQ y)) ∧ w.heap.size + 1 < wx.heap.size ∧ Below w.heap.size w wx)
  case first =>
    cases h1 : addB x y
    · go_wp2_with fail
      go_meet
      case rel =>
        have B2 := B1.alloc B1.size (Obj.cells #[Value.int IntKind.u64 (hiQ (addR x y)), Value.int IntKind.u64 (loQ (addR x y))] 29)
        exact ⟨by simp [k0, l0, go_sem], by simp [k0, l0, go_sem], by simp [k1, l1, go_sem], by simp [k1, l1, go_sem], by simp; omega, B2⟩
    · obtain ⟨a1, a2, a3⟩ := back_add x y h1
      go_wp2_with fail
      refine (sub_any _ _ _ (addR_lt _ _) HY.out).mono ?_
      rintro e w2 ⟨rfl, hb2⟩
      obtain ⟨k02, l02⟩ := keep hb2 w.heap.size (by first | omega | (simp; done) | (simp; omega))
      obtain ⟨k12, l12⟩ := keep hb2 (w.heap.size + 1) (by first | omega | (simp; done) | (simp; omega))
      obtain ⟨k22, l22⟩ := keep hb2 w1.heap.size (by first | omega | (simp; done) | (simp; omega))
      have B2 := below_step B1 hb2
      clear hb2 B1
      go_wp2_with fail
      refine (less_any _ _ _).mono ?_
      rintro e w3 ⟨rfl, hb3⟩
      obtain ⟨k03, l03⟩ := keep hb3 w.heap.size (by first | omega | (simp; done) | (simp; omega))
      obtain ⟨k13, l13⟩ := keep hb3 (w.heap.size + 1) (by first | omega | (simp; done) | (simp; omega))
      have B3 := below_step B2 hb3
      clear hb3 B2
      go_wp2_with fail
      go_meet
      case rel =>
        exact ⟨by simp [k03, k02, k0, l0, l02, go_sem], by simp [k03, k02, k0, l0, l02, go_sem], by simp [k13, k12, k1, l1, l12, go_sem], by simp [k13, k12, k1, l1, l12, go_sem], l13, B3⟩
  case rest =>
    obtain ⟨f0, f1, f2, f3, l14, B4⟩ := hcut
    clear k0 k1 l0 l1 B1
    go_wp2_with fail
    refine (sub_any _ _ _ HX.out HY.out).mono ?_
    rintro e w5 ⟨rfl, hb5⟩
    obtain ⟨k05, l05⟩ := keep hb5 w.heap.size (by first | omega | (simp; done) | (simp; omega))
    obtain ⟨k15, l15⟩ := keep hb5 (w.heap.size + 1) (by first | omega | (simp; done) | (simp; omega))
    have B5 := below_next B4 hb5
    clear hb5 B4
    go_wp2_with fail
    refine (less_any _ _ _).mono ?_
    rintro e w6 ⟨rfl, hb6⟩
    obtain ⟨k06, l06⟩ := keep hb6 w.heap.size (by first | omega | (simp; done) | (simp; omega))
    obtain ⟨k16, l16⟩ := keep hb6 (w.heap.size + 1) (by first | omega | (simp; done) | (simp; omega))
    obtain ⟨k56, l56⟩ := keep hb6 w5.heap.size (by first | omega | (simp; done) | (simp; omega))
    have B6 := below_step B5 hb6
    clear hb6 B5
    have hne : (subB x y == ltB x y) = false := by
      unfold subB ltB
      rw [beq_eq_false_iff_ne]
      intro h
      rw [decide_eq_decide] at h
      omega
    go_upto_if 54 with fail
    go_cut [12] (fun _ wx => wx.cell? ⟨w.heap.size, 0, none⟩ = some (.int .u64 (hiQ x)) ∧ wx.cell? ⟨w.heap.size, 1, none⟩ = some (.int .u64 (loQ x)) ∧ wx.cell? ⟨w.heap.size + 1, 0, none⟩ = some (.int .u64 (hiQ y)) ∧ wx.cell? ⟨w.heap.size + 1, 1, none⟩ = some (.int .u64 (loQ y)) ∧ w.heap.size + 1 < wx.heap.size ∧ Below w.heap.size w wx)
    case first =>
      cases h2 : subB x y
      · go_wp2_with fail
        go_meet
        case rel =>
          exact ⟨by simp [k06, k05, l05, f0, go_sem], by simp [k06, k05, l05, f1, go_sem], by simp [k16, k15, l15, f2, go_sem], by simp [k16, k15, l15, f3, go_sem], l16, B6⟩
      · obtain ⟨c1, c2, c3⟩ := back_sub x y HX.out h2
        go_wp2_with fail
        refine (add_any _ _ _ (subR_lt _ _ HX.out) HY.out).mono ?_
        rintro e w7 ⟨rfl, hb7⟩
        obtain ⟨k07, l07⟩ := keep hb7 w.heap.size (by first | omega | (simp; done) | (simp; omega))
        obtain ⟨k17, l17⟩ := keep hb7 (w.heap.size + 1) (by first | omega | (simp; done) | (simp; omega))
        have B7 := below_next B6 hb7
        clear hb7 B6
        go_wp2_with fail
        go_meet
        case rel =>
          have B8 := B7.alloc B7.size (Obj.cells #[Value.int IntKind.u64 (hiQ x), Value.int IntKind.u64 (loQ x)] 29)
          exact ⟨by simp [k07, k06, k05, l07, l05, f0, go_sem], by simp [k07, k06, k05, l07, l05, f1, go_sem], by simp [k17, k16, k15, l17, l15, f2, go_sem], by simp [k17, k16, k15, l17, l15, f3, go_sem], by simp; omega, B8⟩
    case rest =>
      clear hne k05 k15 l05 l15 k06 k16 k56 l06 l16 l56 B6 f0 f1 f2 f3 l14
      obtain ⟨f0, f1, f2, f3, l14, B4⟩ := hcut
      go_wp2_with fail
      rw [i64_and127]
      have m0 : 0 ≤ n % 128 := by omega
      have m1 : n % 128 < 128 := by omega
      generalize n % 128 = k at *
      refine (mask_x k _ m0 (by omega)).mono ?_
      rintro e w7 ⟨rfl, hb7⟩
      obtain ⟨k07, l07⟩ := keep hb7 w.heap.size (by first | omega | (simp; done) | (simp; omega))
      obtain ⟨k17, l17⟩ := keep hb7 (w.heap.size + 1) (by first | omega | (simp; done) | (simp; omega))
      have B7 := below_next B4 hb7
      clear hb7 B4
      go_upto_region 15 with fail
      obtain ⟨X, hX⟩ : ∃ X, X = w7.alloc (Obj.cells #[Value.int IntKind.u64 (hiQ (maskQ k.toNat)), Value.int IntKind.u64 (loQ (maskQ k.toNat))] 29) := ⟨_, rfl⟩
      have x0 : X.cell? ⟨w7.heap.size, 0, none⟩ = some (.int .u64 (hiQ (maskQ k.toNat))) := by rw [hX]; simp
      have x1 : X.cell? ⟨w7.heap.size, 1, none⟩ = some (.int .u64 (loQ (maskQ k.toNat))) := by rw [hX]; simp
      have lX : w7.heap.size < X.heap.size := by rw [hX]; simp
      have BX : Below w.heap.size w X := by rw [hX]; exact ball B7
      have x2 : X.cell? ⟨w.heap.size, 0, none⟩ = some (.int .u64 (hiQ x)) := by rw [hX]; simp [k07, l07, f0, go_sem]
      have x3 : X.cell? ⟨w.heap.size, 1, none⟩ = some (.int .u64 (loQ x)) := by rw [hX]; simp [k07, l07, f1, go_sem]
      have x4 : X.cell? ⟨w.heap.size + 1, 0, none⟩ = some (.int .u64 (hiQ y)) := by rw [hX]; simp [k17, l17, f2, go_sem]
      have x5 : X.cell? ⟨w.heap.size + 1, 1, none⟩ = some (.int .u64 (loQ y)) := by rw [hX]; simp [k17, l17, f3, go_sem]
      rw [← hX]
      clear hX k07 k17 f0 f1 f2 f3 B7
      go_cut [16, 17] (fun p b wx => ∃ N, p = .pointer (some ⟨N, 0, none⟩) ∧ b = .bool true ∧ wx.cell? ⟨N, 0, none⟩ = some (.int .u64 (hiQ (maskQ 128))) ∧ wx.cell? ⟨N, 1, none⟩ = some (.int .u64 (loQ (maskQ 128))) ∧ Below X.heap.size X wx)
      case first =>
        have hm1 : addB (maskQ k.toNat) (notQ (maskQ k.toNat)) = true := by unfold addB notQ; rw [decide_eq_true_eq]; have := maskQ_lt k.toNat; omega
        have hm2 : addR (maskQ k.toNat) (notQ (maskQ k.toNat)) = maskQ 128 := by
          unfold addR notQ; have := maskQ_lt k.toNat; have e : maskQ 128 = 340282366920938463463374607431768211455 := by decide +kernel
          rw [if_pos (by omega), e]; omega
        have nX := Nat.ne_of_gt lX
        go_region_held3 (fun w' => w'.cell? ⟨w7.heap.size, 0, none⟩ = some (.int .u64 (hiQ (maskQ k.toNat))) ∧ w'.cell? ⟨w7.heap.size, 1, none⟩ = some (.int .u64 (loQ (maskQ k.toNat)))) (go_keep)
          (first
            | (go_at_call 16; refine (not_x _ _ (maskQ_lt _)).mono ?_; rintro e w8 ⟨rfl, hb8⟩; obtain ⟨k78, l78⟩ := keep hb8 w7.heap.size (by first | omega | (simp; done) | (simp; omega)); have q88 := keepf hb8 X.heap.size; have n78 := Nat.ne_of_gt l78; have C8 := below_next (W := X) (by repeat (first | exact Below.refl _ _ | apply Below.drew | apply ball)) hb8)
            | (go_at_call 10; refine (add_any _ _ _ (maskQ_lt _) (notQ_lt _)).mono ?_; rintro e w9 ⟨rfl, hb9⟩; obtain ⟨k79, l79⟩ := keep hb9 w7.heap.size (by first | omega | (simp; done) | (simp; omega)); have q89 := keepf hb9 X.heap.size; have q99 := keepf hb9 w8.heap.size; have n79 := Nat.ne_of_gt l79; have C9 := below_next (W := X) (by repeat (first | exact C8 | apply Below.drew | apply ball)) hb9))
        all_goals
          go_wp2_with fail
          go_meet
        all_goals
          have z9 := C9.size
          have z8 := C8.size
          have z98 := hb9.size
          refine ⟨_, rfl, rfl, ?_, ?_, ?_⟩
        all_goals first
          | ((repeat (first | exact C9 | apply ball | (refine Below.setCell ?_ (by first | omega | (simp; done) | (simp; omega)) _))); done)
          | (simp [*, go_sem]; done)
          | (have e0 := (q99 (by simp)).1 0; have e1 := (q99 (by simp)).1 1; simp at e0 e1; first | exact (set2 e0 e1).1 | exact (set2 e0 e1).2)
          | (have e0 := (q88 (by simp)).1 0; have e1 := (q88 (by simp)).1 1; simp at e0 e1; have d0 := (q89 (q88 (by simp)).2.2).1 0; have d1 := (q89 (q88 (by simp)).2.2).1 1; rw [e0] at d0; rw [e1] at d1; first | exact (set2 d0 d1).1 | exact (set2 d0 d1).2)
      case rest =>
        obtain ⟨N, rfl, rfl, t0, t1, C⟩ := hcut
        have BC := below_next BX C
        have r0 := cell_regrown ((C.cell (p := ⟨w.heap.size, 0, none⟩) (Nat.lt_trans l07 lX)).trans x2)
        have r1 := cell_regrown ((C.cell (p := ⟨w.heap.size, 1, none⟩) (Nat.lt_trans l07 lX)).trans x3)
        have r2 := cell_regrown ((C.cell (p := ⟨w.heap.size + 1, 0, none⟩) (Nat.lt_trans l17 lX)).trans x4)
        have r3 := cell_regrown ((C.cell (p := ⟨w.heap.size + 1, 1, none⟩) (Nat.lt_trans l17 lX)).trans x5)
        have r4 := cell_regrown ((C.cell (p := ⟨w7.heap.size, 0, none⟩) lX).trans x0)
        have r5 := cell_regrown ((C.cell (p := ⟨w7.heap.size, 1, none⟩) lX).trans x1)
        have r6 := cell_regrown t0
        have r7 := cell_regrown t1
        clear x0 x1 x2 x3 x4 x5 t0 t1 C BX l07 l17 lX l14
        obtain ⟨j, rfl⟩ := Int.eq_ofNat_of_zero_le m0
        have hj : j < 128 := by omega
        have b1 := (mask_bit_in j hj).1
        have b2 := (mask_bit_in j hj).2
        have b3 := lowQ_bit j hj
        have b4 := hiQ_zero
        have b5 := loQ_zero
        simp only [Int.toNat_natCast] at r4 r5
        go_wp2_with fail
        rename_i wc
        rcases Nat.lt_trichotomy x y with h | h | h
        · have d1 : ltB x y = true := decide_eq_true h
          have d3 : ltB y x = false := decide_eq_false (by omega)
          have d2 := q_if_ne (Nat.ne_of_lt h)
          clear h
          refine wp_region_quiet_below (by kernel_rfl) (by kernel_rfl) ?_
          repeat (go_big_quiet_step (first
            | (go_at_call 13; exact Calls.regrown_of (less_is _ _ _ _ (by first | exact d1 | exact d3)))
            | (go_at_call 14; exact Calls.regrown_of (and_x _ _ _ (bit_lt _ (by omega)) (maskQ_lt _)))
            | (go_at_call_of 17 (Value.int IntKind.i64 128); exact Calls.regrown_of (mask_128 _))
            | (go_at_call 17; exact Calls.regrown_of (mask_succ j _ hj))
            | (go_at_call_of 18 (Value.int IntKind.i64 (j : Int)); exact Calls.regrown_of (bit_at j _ hj))
            | (go_at_call 18; exact Calls.regrown_of (bit_sub j _ hj))
            | (go_at_call 9; exact Calls.regrown_of (low_x _ _ (ht.below (below_next BC (below_regrown _ _ _)) hp) (bit_lt _ hj)))
            | (go_at_call 12; exact Calls.regrown_of (awake_x _ (ht.below (below_next BC (below_regrown _ _ _)) hp)))))
          refine wpQuiet_nil ?_
          intro _ hw'
          obtain ⟨⟨dq, osq⟩, hw''⟩ := hw'
          subst hw''
          go_wp2
          go_ret
          exact ⟨rfl, below_next BC (below_regrown _ dq osq)⟩
        · subst h
          have d1 : ltB x x = false := decide_eq_false (by omega)
          have d3 := d1
          refine wp_region_quiet_below (by kernel_rfl) (by kernel_rfl) ?_
          repeat (go_big_quiet_step (first
            | (go_at_call 13; exact Calls.regrown_of (less_is _ _ _ _ (by first | exact d1 | exact d3)))
            | (go_at_call 14; exact Calls.regrown_of (and_x _ _ _ (bit_lt _ (by omega)) (maskQ_lt _)))
            | (go_at_call_of 17 (Value.int IntKind.i64 128); exact Calls.regrown_of (mask_128 _))
            | (go_at_call 17; exact Calls.regrown_of (mask_succ j _ hj))
            | (go_at_call_of 18 (Value.int IntKind.i64 (j : Int)); exact Calls.regrown_of (bit_at j _ hj))
            | (go_at_call 18; exact Calls.regrown_of (bit_sub j _ hj))
            | (go_at_call 9; exact Calls.regrown_of (low_x _ _ (ht.below (below_next BC (below_regrown _ _ _)) hp) (bit_lt _ hj)))
            | (go_at_call 12; exact Calls.regrown_of (awake_x _ (ht.below (below_next BC (below_regrown _ _ _)) hp)))))
          refine wpQuiet_nil ?_
          intro _ hw'
          obtain ⟨⟨dq, osq⟩, hw''⟩ := hw'
          subst hw''
          go_wp2
          go_ret
          exact ⟨rfl, below_next BC (below_regrown _ dq osq)⟩
        · have d1 : ltB x y = false := decide_eq_false (by omega)
          have d3 : ltB y x = true := decide_eq_true h
          have d2 := q_if_ne (Nat.ne_of_gt h)
          clear h
          refine wp_region_quiet_below (by kernel_rfl) (by kernel_rfl) ?_
          repeat (go_big_quiet_step (first
            | (go_at_call 13; exact Calls.regrown_of (less_is _ _ _ _ (by first | exact d1 | exact d3)))
            | (go_at_call 14; exact Calls.regrown_of (and_x _ _ _ (bit_lt _ (by omega)) (maskQ_lt _)))
            | (go_at_call_of 17 (Value.int IntKind.i64 128); exact Calls.regrown_of (mask_128 _))
            | (go_at_call 17; exact Calls.regrown_of (mask_succ j _ hj))
            | (go_at_call_of 18 (Value.int IntKind.i64 (j : Int)); exact Calls.regrown_of (bit_at j _ hj))
            | (go_at_call 18; exact Calls.regrown_of (bit_sub j _ hj))
            | (go_at_call 9; exact Calls.regrown_of (low_x _ _ (ht.below (below_next BC (below_regrown _ _ _)) hp) (bit_lt _ hj)))
            | (go_at_call 12; exact Calls.regrown_of (awake_x _ (ht.below (below_next BC (below_regrown _ _ _)) hp)))))
          refine wpQuiet_nil ?_
          intro _ hw'
          obtain ⟨⟨dq, osq⟩, hw''⟩ := hw'
          subst hw''
          go_wp2
          go_ret
          exact ⟨rfl, below_next BC (below_regrown _ dq osq)⟩
end Go.Proofs.YtjmgiepjgkoocaaDoor
