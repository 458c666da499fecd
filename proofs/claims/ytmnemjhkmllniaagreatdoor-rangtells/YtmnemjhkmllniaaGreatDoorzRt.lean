/- The checker's own prefixes (gleberef1): all, OkPrefix, Has, Over, LessAddr, LessPrefix, Netmask, PrintPrefix: they answer what the mathematics says. -/
import Derived.Test.YtmnemjhkmllniaaGreatDoorzRr
import Derived.Test.YtmnemjhkmllniaaGreatDoorzPo
import Derived.Test.YtmnemjhkmllniaaGreatDoorzAm
import Derived.Test.YtmnemjhkmllniaaGreatDoorzXp
import Derived.Test.YtmnemjhkmllniaaGreatDoorzPs
namespace Go.Proofs.YtmnemjhkmllniaaGreatDoor
open Go.ChangeShapes Go.WideShapes Go.RowKit Go.Sort

set_option maxHeartbeats 2000000 in
theorem refAll_x (v : Int) (n : Nat) (w : World) (hn : n ≤ bitsV v) :
    Calls Tryz.prog 70 #[.int .i64 v, .int .i64 n] w fun e w' => e = .returned (.agg #[.int .u64 (hiQ (allQ v n)), .int .u64 (loQ (allQ v n))]) ∧ Below w.heap.size w w' := by
  have hbb := bitsV_le v
  have HBits := Lib.hid (refBits_x v)
  obtain ⟨b0, hb0⟩ : ∃ b0, bitsV v = b0 := ⟨_, rfl⟩
  have H4 : Hid (∀ w, Calls Tryz.prog 28 #[.agg #[.int .u64 (hiQ (maskQ (128 - b0 + n))), .int .u64 (loQ (maskQ (128 - b0 + n)))], .agg #[.int .u64 (hiQ (notQ (maskQ (128 - b0)))), .int .u64 (loQ (notQ (maskQ (128 - b0))))]] w fun e w' => e = .returned (.agg #[.int .u64 (hiQ (allQ v n)), .int .u64 (loQ (allQ v n))]) ∧ Below w.heap.size w w') := fun w =>
    refAnd_is _ _ _ w (maskQ_lt _) (notQ_lt _) (by unfold allQ; rw [hb0])
  rw [hb0] at hn hbb HBits
  clear hb0
  have H1 : Hid (∀ w, Calls Tryz.prog 29 #[.int .i64 (128 - (b0 : Int) + n)] w fun e w' => e = .returned (.agg #[.int .u64 (hiQ (maskQ (128 - b0 + n))), .int .u64 (loQ (maskQ (128 - b0 + n)))]) ∧ Below w.heap.size w w') := fun w => by
    have := refMask_x (128 - b0 + n) w (by omega)
    rw [show ((128 - b0 + n : Nat) : Int) = 128 - (b0 : Int) + n by omega] at this
    exact this
  have H2 : Hid (∀ w, Calls Tryz.prog 29 #[.int .i64 (128 - (b0 : Int))] w fun e w' => e = .returned (.agg #[.int .u64 (hiQ (maskQ (128 - b0))), .int .u64 (loQ (maskQ (128 - b0)))]) ∧ Below w.heap.size w w') := fun w => by
    have := refMask_x (128 - b0) w (by omega)
    rw [show ((128 - b0 : Nat) : Int) = 128 - (b0 : Int) by omega] at this
    exact this
  have H3 : Hid (∀ w, Calls Tryz.prog 30 #[.agg #[.int .u64 (hiQ (maskQ (128 - b0))), .int .u64 (loQ (maskQ (128 - b0)))]] w fun e w' => e = .returned (.agg #[.int .u64 (hiQ (notQ (maskQ (128 - b0)))), .int .u64 (loQ (notQ (maskQ (128 - b0))))]) ∧ Below w.heap.size w w') := fun w => refNot_x _ w (maskQ_lt _)
  generalize allQ v n = A at *
  generalize notQ (maskQ (128 - b0)) = M3 at *
  generalize maskQ (128 - b0) = M2 at *
  generalize maskQ (128 - b0 + n) = M1 at *
  go_enter Tryz.func70, Tryz.ntmps70
  go_wp2_with fail
  refine (HBits.out _).mono ?_
  rintro e w1 ⟨rfl, hb1⟩
  go_wp2_with fail
  refine (H1.out _).mono ?_
  rintro e w2 ⟨rfl, hb2⟩
  go_wp2_with fail
  refine (HBits.out _).mono ?_
  rintro e w3 ⟨rfl, hb3⟩
  go_wp2_with fail
  refine (H2.out _).mono ?_
  rintro e w4 ⟨rfl, hb4⟩
  go_wp2_with fail
  refine (H3.out _).mono ?_
  rintro e w5 ⟨rfl, hb5⟩
  go_wp2_with fail
  refine (H4.out _).mono ?_
  rintro e w6 ⟨rfl, hb6⟩
  have K := below_next (below_next (below_next (below_next (below_next hb1 hb2) hb3) hb4) hb5) hb6
  obtain ⟨k1, f1, l1⟩ := keepf K w.heap.size (by simp)
  have c0 : w6.cell? ⟨w.heap.size, 0, none⟩ = some (.int .u64 0) := by rw [k1]; simp [go_sem]
  have c1 : w6.cell? ⟨w.heap.size, 1, none⟩ = some (.int .u64 0) := by rw [k1]; simp [go_sem]
  have cf : ∀ o, w6.frozen? ⟨w.heap.size, o, none⟩ = false := fun o => by rw [f1]; simp [go_sem]
  have B := below_next (ball (Below.refl w.heap.size w)) K
  clear k1 f1 K hb1 hb2 hb3 hb4 hb5 hb6
  go_wp2
  exact bodyPost_ret (v := .agg #[.int .u64 (hiQ A), .int .u64 (loQ A)]) (by simp [results, Tryz.results70, go_sem, *]) rfl ⟨rfl, (B.setCell (Nat.le_refl _) _).setCell (Nat.le_refl _) _⟩
theorem refAll_is (v n : Int) (A : Nat) (w : World) (h0 : 0 ≤ n) (h1 : n ≤ bitsV v) (h : allQ v n.toNat = A) :
    Calls Tryz.prog 70 #[.int .i64 v, .int .i64 n] w fun e w' => e = .returned (.agg #[.int .u64 (hiQ A), .int .u64 (loQ A)]) ∧ Below w.heap.size w w' := by
  obtain ⟨k, rfl⟩ := Int.eq_ofNat_of_zero_le h0
  rw [← h]
  exact refAll_x v k w (by simpa using h1)
theorem all_cut_i {v n : Int} {x : Nat} (h0 : 0 ≤ n) (h1 : n ≤ bitsV v) (hx : x < 2 ^ bitsV v) : x &&& allQ v n.toNat = cutK (hostK v n) x := by
  have := all_cut v n.toNat x (by omega) hx
  rw [Int.toNat_of_nonneg h0] at this
  exact this
set_option maxHeartbeats 2000000 in
theorem refOkP_x (v : Int) (x : Nat) (n : Int) (w : World) (hx : x < 340282366920938463463374607431768211456) :
    Calls Tryz.prog 46 #[.agg #[.int .i64 v, .int .u64 (hiQ x), .int .u64 (loQ x), .int .i64 n]] w fun e w' => e = .returned (.bool (okP v x n)) ∧ Below w.heap.size w w' := by
  have HX := Lib.hid hx
  clear hx
  obtain ⟨W, hW⟩ : ∃ W, W = w.alloc (.cells #[.int .i64 v, .int .u64 (hiQ x), .int .u64 (loQ x), .int .i64 n] 34) := ⟨_, rfl⟩
  have P0 : Pl W w.heap.size v (hiQ x) (loQ x) n := hW ▸ pl_new w _ _ _ _
  have BW : Below w.heap.size w W := by rw [hW]; exact (Below.refl _ _).alloc (Nat.le_refl _) _
  have e0 := cell_regrown P0.c0; have e1 := cell_regrown P0.c1; have e2 := cell_regrown P0.c2; have e3 := cell_regrown P0.c3
  obtain ⟨o, ho⟩ : ∃ o, okV v x = o := ⟨_, rfl⟩
  have HO := Lib.hid ho
  have HB := Lib.hid (refBits_x v)
  cases o
  · rw [show okP v x n = false by simp [okP, ho]]
    clear ho
    go_enter Tryz.func46, Tryz.ntmps46
    go_wp2_with fail
    rw [← hW]
    clear hW
    refine wp_region_quiet_below (by kernel_rfl) (by kernel_rfl) ?_
    repeat (go_big_quiet_step (first
      | (go_at_call 26; exact Calls.regrown_of (refOkA_is _ _ _ HX.out _ HO.out))))
    refine wpQuiet_nil ?_
    intro _ hw'
    obtain ⟨⟨dq, osq⟩, hw''⟩ := hw'
    subst hw''
    go_wp2
    go_ret
    exact ⟨rfl, below_next BW (below_regrown W dq osq)⟩
  · by_cases h0 : 0 ≤ n
    · have hd : decide (n ≥ 0) = true := decide_eq_true h0
      have hd' : decide (0 ≤ n) = true := decide_eq_true h0
      by_cases h1 : n ≤ (bitsV v : Int)
      · have hd1 : decide (n ≤ (bitsV v : Int)) = true := decide_eq_true h1
        obtain ⟨A, hA⟩ : ∃ A, allQ v n.toNat = A := ⟨_, rfl⟩
        obtain ⟨y, hy⟩ : ∃ y, cutK (hostK v n) x = y := ⟨_, rfl⟩
        have HC := Lib.hid (fun w => refAll_is v n A w h0 h1 hA)
        have HD := Lib.hid (fun w => refAnd_is x A y w HX.out (hA ▸ allQ_lt _ _) (by rw [← hA, ← hy]; exact all_cut_i h0 h1 (okV_lt ho HX.out)))
        have HP : okP v x n = decide (y = x) := by simp [okP, ho, hy, h0, h1]
        clear h0 h1 hA hy ho
        by_cases hxy : y = x
        · subst hxy
          rw [HP, decide_eq_true rfl]
          clear HP
          go_enter Tryz.func46, Tryz.ntmps46
          go_wp2_with fail
          rw [← hW]
          clear hW
          refine wp_region_quiet_below (by kernel_rfl) (by kernel_rfl) ?_
          repeat (go_big_quiet_step (first
            | (go_at_call 26; exact Calls.regrown_of (refOkA_is _ _ _ HX.out _ HO.out))
            | (go_at_call 27; exact Calls.regrown_of (HB.out _))
            | (go_at_call 70; exact Calls.regrown_of (HC.out _))
            | (go_at_call 28; exact Calls.regrown_of (HD.out _))))
          refine wpQuiet_nil ?_
          intro _ hw'
          obtain ⟨⟨dq, osq⟩, hw''⟩ := hw'
          subst hw''
          go_wp2
          go_ret
          exact ⟨rfl, below_next BW (below_regrown W dq osq)⟩
        · rw [HP, decide_eq_false hxy]
          have hq := q_if_ne hxy
          clear HP hxy
          go_enter Tryz.func46, Tryz.ntmps46
          go_wp2_with fail
          rw [← hW]
          clear hW
          refine wp_region_quiet_below (by kernel_rfl) (by kernel_rfl) ?_
          repeat (go_big_quiet_step (first
            | (go_at_call 26; exact Calls.regrown_of (refOkA_is _ _ _ HX.out _ HO.out))
            | (go_at_call 27; exact Calls.regrown_of (HB.out _))
            | (go_at_call 70; exact Calls.regrown_of (HC.out _))
            | (go_at_call 28; exact Calls.regrown_of (HD.out _))))
          refine wpQuiet_nil ?_
          intro _ hw'
          obtain ⟨⟨dq, osq⟩, hw''⟩ := hw'
          subst hw''
          go_wp2
          go_ret
          exact ⟨rfl, below_next BW (below_regrown W dq osq)⟩
      · have hd1 : decide (n ≤ (bitsV v : Int)) = false := decide_eq_false h1
        rw [show okP v x n = false by simp [okP]; intro _ h; omega]
        clear h0 h1 ho
        go_enter Tryz.func46, Tryz.ntmps46
        go_wp2_with fail
        rw [← hW]
        clear hW
        refine wp_region_quiet_below (by kernel_rfl) (by kernel_rfl) ?_
        repeat (go_big_quiet_step (first
          | (go_at_call 26; exact Calls.regrown_of (refOkA_is _ _ _ HX.out _ HO.out))
          | (go_at_call 27; exact Calls.regrown_of (HB.out _))))
        refine wpQuiet_nil ?_
        intro _ hw'
        obtain ⟨⟨dq, osq⟩, hw''⟩ := hw'
        subst hw''
        go_wp2
        go_ret
        exact ⟨rfl, below_next BW (below_regrown W dq osq)⟩
    · have hd : decide (n ≥ 0) = false := decide_eq_false h0
      have hd' : decide (0 ≤ n) = false := decide_eq_false h0
      rw [show okP v x n = false by simp [okP]; intro _ h; omega]
      clear h0 ho
      go_enter Tryz.func46, Tryz.ntmps46
      go_wp2_with fail
      rw [← hW]
      clear hW
      refine wp_region_quiet_below (by kernel_rfl) (by kernel_rfl) ?_
      repeat (go_big_quiet_step (first
        | (go_at_call 26; exact Calls.regrown_of (refOkA_is _ _ _ HX.out _ HO.out))))
      refine wpQuiet_nil ?_
      intro _ hw'
      obtain ⟨⟨dq, osq⟩, hw''⟩ := hw'
      subst hw''
      go_wp2
      go_ret
      exact ⟨rfl, below_next BW (below_regrown W dq osq)⟩
theorem refOkP_is (v : Int) (x : Nat) (n : Int) (w : World) (hx : x < 340282366920938463463374607431768211456) (b : Bool) (h : okP v x n = b) :
    Calls Tryz.prog 46 #[.agg #[.int .i64 v, .int .u64 (hiQ x), .int .u64 (loQ x), .int .i64 n]] w fun e w' => e = .returned (.bool b) ∧ Below w.heap.size w w' := h ▸ refOkP_x v x n w hx
end Go.Proofs.YtmnemjhkmllniaaGreatDoor

/- The checker's own Has, Over, LessAddr, LessPrefix, Netmask, PrintPrefix. -/
namespace Go.Proofs.YtmnemjhkmllniaaGreatDoor
open Go.ChangeShapes Go.WideShapes Go.RowKit Go.Sort

set_option maxHeartbeats 2000000 in
theorem refHas_x (v : Int) (x : Nat) (n u : Int) (y : Nat) (w : World) (hx : x < 340282366920938463463374607431768211456) (hy : y < 340282366920938463463374607431768211456) :
    Calls Tryz.prog 41 #[.agg #[.int .i64 v, .int .u64 (hiQ x), .int .u64 (loQ x), .int .i64 n], .agg #[.int .i64 u, .int .u64 (hiQ y), .int .u64 (loQ y)]] w fun e w' => e = .returned (.bool (hasP v x n u y)) ∧ Below w.heap.size w w' := by
  have HX := Lib.hid hx
  have HY := Lib.hid hy
  clear hx hy
  obtain ⟨W, hW⟩ : ∃ W, W = (w.alloc (.cells #[.int .i64 v, .int .u64 (hiQ x), .int .u64 (loQ x), .int .i64 n] 34)).alloc (.cells #[.int .i64 u, .int .u64 (hiQ y), .int .u64 (loQ y)] 28) := ⟨_, rfl⟩
  have P0 : Pl W w.heap.size v (hiQ x) (loQ x) n := hW ▸ (pl_new w _ _ _ _).alloc _
  have BW : Below w.heap.size w W := by rw [hW]; exact below2 _ _ _
  have a0 := cell_regrown P0.c0; have a1 := cell_regrown P0.c1; have a2 := cell_regrown P0.c2; have a3 := cell_regrown P0.c3
  have b0 := cell_regrown (show W.cell? ⟨w.heap.size + 1, 0, none⟩ = some (.int .i64 u) by rw [hW]; simp [go_sem])
  have b1 := cell_regrown (show W.cell? ⟨w.heap.size + 1, 1, none⟩ = some (.int .u64 (hiQ y)) by rw [hW]; simp [go_sem])
  have b2 := cell_regrown (show W.cell? ⟨w.heap.size + 1, 2, none⟩ = some (.int .u64 (loQ y)) by rw [hW]; simp [go_sem])
  cases ho : okP v x n
  · have HO := Lib.hid ho
    rw [show hasP v x n u y = false by simp [hasP, ho]]
    clear ho
    go_enter Tryz.func41, Tryz.ntmps41
    go_wp2_with fail
    rw [← hW]
    clear hW
    refine wp_region_quiet_below (by kernel_rfl) (by kernel_rfl) ?_
    repeat (go_big_quiet_step (first
      | (go_at_call 46; exact Calls.regrown_of (refOkP_is _ _ _ _ HX.out _ HO.out))))
    refine wpQuiet_nil ?_
    intro _ hw'
    obtain ⟨⟨dq, osq⟩, hw''⟩ := hw'
    subst hw''
    go_wp2
    go_ret
    exact ⟨rfl, below_next BW (below_regrown W dq osq)⟩
  · have HO := Lib.hid ho
    cases hu : okV u y
    · have HU := Lib.hid hu
      rw [show hasP v x n u y = false by simp [hasP, hu]]
      clear ho hu
      go_enter Tryz.func41, Tryz.ntmps41
      go_wp2_with fail
      rw [← hW]
      clear hW
      refine wp_region_quiet_below (by kernel_rfl) (by kernel_rfl) ?_
      repeat (go_big_quiet_step (first
        | (go_at_call 46; exact Calls.regrown_of (refOkP_is _ _ _ _ HX.out _ HO.out))
        | (go_at_call 26; exact Calls.regrown_of (refOkA_is _ _ _ HY.out _ HU.out))))
      refine wpQuiet_nil ?_
      intro _ hw'
      obtain ⟨⟨dq, osq⟩, hw''⟩ := hw'
      subst hw''
      go_wp2
      go_ret
      exact ⟨rfl, below_next BW (below_regrown W dq osq)⟩
    · have HU := Lib.hid hu
      by_cases huv : u = v
      · subst huv
        obtain ⟨A, hA⟩ : ∃ A, allQ u n.toNat = A := ⟨_, rfl⟩
        obtain ⟨z, hz⟩ : ∃ z, cutK (hostK u n) y = z := ⟨_, rfl⟩
        have h0 := (okP_is ho).2.1
        have h1 := (okP_is ho).2.2.1
        have HC := Lib.hid (fun w => refAll_is u n A w h0 h1 hA)
        have HD := Lib.hid (fun w => refAnd_is y A z w HY.out (hA ▸ allQ_lt _ _) (by rw [← hA, ← hz]; exact all_cut_i h0 h1 (okV_lt hu HY.out)))
        have HP : hasP u x n u y = decide (z = x) := by simp [hasP, ho, hu, hz]
        clear h0 h1 hA hz ho hu
        by_cases hzx : z = x
        · subst hzx
          rw [HP, decide_eq_true rfl]
          clear HP
          go_enter Tryz.func41, Tryz.ntmps41
          go_wp2_with fail
          rw [← hW]
          clear hW
          refine wp_region_quiet_below (by kernel_rfl) (by kernel_rfl) ?_
          repeat (go_big_quiet_step (first
            | (go_at_call 46; exact Calls.regrown_of (refOkP_is _ _ _ _ HX.out _ HO.out))
            | (go_at_call 26; exact Calls.regrown_of (refOkA_is _ _ _ HY.out _ HU.out))
            | (go_at_call 70; exact Calls.regrown_of (HC.out _))
            | (go_at_call 28; exact Calls.regrown_of (HD.out _))))
          refine wpQuiet_nil ?_
          intro _ hw'
          obtain ⟨⟨dq, osq⟩, hw''⟩ := hw'
          subst hw''
          go_wp2
          go_ret
          exact ⟨rfl, below_next BW (below_regrown W dq osq)⟩
        · rw [HP, decide_eq_false hzx]
          have hq := q_if_ne hzx
          clear HP hzx
          go_enter Tryz.func41, Tryz.ntmps41
          go_wp2_with fail
          rw [← hW]
          clear hW
          refine wp_region_quiet_below (by kernel_rfl) (by kernel_rfl) ?_
          repeat (go_big_quiet_step (first
            | (go_at_call 46; exact Calls.regrown_of (refOkP_is _ _ _ _ HX.out _ HO.out))
            | (go_at_call 26; exact Calls.regrown_of (refOkA_is _ _ _ HY.out _ HU.out))
            | (go_at_call 70; exact Calls.regrown_of (HC.out _))
            | (go_at_call 28; exact Calls.regrown_of (HD.out _))))
          refine wpQuiet_nil ?_
          intro _ hw'
          obtain ⟨⟨dq, osq⟩, hw''⟩ := hw'
          subst hw''
          go_wp2
          go_ret
          exact ⟨rfl, below_next BW (below_regrown W dq osq)⟩
      · have hd : (u == v) = false := by simpa using huv
        rw [show hasP v x n u y = false by simp [hasP, huv]]
        clear ho hu huv
        go_enter Tryz.func41, Tryz.ntmps41
        go_wp2_with fail
        rw [← hW]
        clear hW
        refine wp_region_quiet_below (by kernel_rfl) (by kernel_rfl) ?_
        repeat (go_big_quiet_step (first
          | (go_at_call 46; exact Calls.regrown_of (refOkP_is _ _ _ _ HX.out _ HO.out))
          | (go_at_call 26; exact Calls.regrown_of (refOkA_is _ _ _ HY.out _ HU.out))))
        refine wpQuiet_nil ?_
        intro _ hw'
        obtain ⟨⟨dq, osq⟩, hw''⟩ := hw'
        subst hw''
        go_wp2
        go_ret
        exact ⟨rfl, below_next BW (below_regrown W dq osq)⟩
theorem refHas_is (v : Int) (x : Nat) (n u : Int) (y : Nat) (w : World) (hx : x < 340282366920938463463374607431768211456) (hy : y < 340282366920938463463374607431768211456) (b : Bool) (h : hasP v x n u y = b) :
    Calls Tryz.prog 41 #[.agg #[.int .i64 v, .int .u64 (hiQ x), .int .u64 (loQ x), .int .i64 n], .agg #[.int .i64 u, .int .u64 (hiQ y), .int .u64 (loQ y)]] w fun e w' => e = .returned (.bool b) ∧ Below w.heap.size w w' := h ▸ refHas_x v x n u y w hx hy
theorem over_no1 {v : Int} {x : Nat} {n u : Int} {y : Nat} {m : Int} (h : okP v x n = false) : overP v x n u y m = false := by
  simp [overP, hasP, h, firstV, firstX, okV]
theorem over_no2 {v : Int} {x : Nat} {n u : Int} {y : Nat} {m : Int} (h : okP u y m = false) : overP v x n u y m = false := by
  simp [overP, hasP, h, firstV, firstX, okV]
theorem over_yes {v : Int} {x : Nat} {n u : Int} {y : Nat} {m : Int} (h : okP v x n = true) (h' : okP u y m = true) : overP v x n u y m = (hasP v x n u y || hasP u y m v x) := by
  simp [overP, firstV, firstX, h, h']
set_option maxHeartbeats 1000000 in
theorem refLessA_x (v : Int) (x : Nat) (u : Int) (y : Nat) (w : World) :
    Calls Tryz.prog 42 #[.agg #[.int .i64 v, .int .u64 (hiQ x), .int .u64 (loQ x)], .agg #[.int .i64 u, .int .u64 (hiQ y), .int .u64 (loQ y)]] w fun e w' => e = .returned (.bool (ltA v x u y)) ∧ Below w.heap.size w w' := by
  have HL := Lib.hid (refLess_x x y)
  by_cases h : v = u
  · subst h
    rw [show ltA v x v y = ltB x y from if_pos rfl]
    go_enter Tryz.func42, Tryz.ntmps42
    go_wp2_with fail
    refine (HL.out _).mono ?_
    rintro e w1 ⟨rfl, hb⟩
    go_wp2
    go_ret
    exact ⟨rfl, below_next (below2 _ _ _) hb⟩
  · by_cases hl : v < u
    · rw [show ltA v x u y = true by simp [ltA, h, hl]]
      clear h
      go_enter Tryz.func42, Tryz.ntmps42
      go_wp2
      go_ret
      exact ⟨rfl, below2 _ _ _⟩
    · rw [show ltA v x u y = false by simp [ltA, h, hl]]
      have he : (v == u) = false := by simpa using h
      clear h
      go_enter Tryz.func42, Tryz.ntmps42
      go_wp2
      go_ret
      exact ⟨rfl, below2 _ _ _⟩
end Go.Proofs.YtmnemjhkmllniaaGreatDoor

/- The checker's own LessPrefix, Netmask, PrintPrefix. -/
namespace Go.Proofs.YtmnemjhkmllniaaGreatDoor
open Go.ChangeShapes Go.WideShapes Go.RowKit Go.Sort

theorem ltA_self (v : Int) (x : Nat) : ltA v x v x = false := by simp [ltA, ltB]
theorem allQ_4 : ∀ n : Nat, n ≤ 32 → allQ 4 n = nmX n := by decide +kernel
set_option maxHeartbeats 2000000 in
set_option maxRecDepth 100000 in
theorem refPrintP_x (v : Int) (x : Nat) (n : Int) (w : World) (hx : x < 340282366920938463463374607431768211456) :
    Calls Tryz.prog 23 #[.agg #[.int .i64 v, .int .u64 (hiQ x), .int .u64 (loQ x), .int .i64 n]] w fun e w' => e = .returned (.string (baS (tellP v x n))) ∧ Below w.heap.size w w' := by
  have HX := Lib.hid hx
  obtain ⟨W, hW⟩ : ∃ W, W = w.alloc (.cells #[.int .i64 v, .int .u64 (hiQ x), .int .u64 (loQ x), .int .i64 n] 34) := ⟨_, rfl⟩
  have P0 : Pl W w.heap.size v (hiQ x) (loQ x) n := hW ▸ pl_new w _ _ _ _
  have BW : Below w.heap.size w W := by rw [hW]; exact (Below.refl _ _).alloc (Nat.le_refl _) _
  clear hx
  cases ho : okP v x n
  · have HO := Lib.hid ho
    rw [show tellP v x n = [] by simp [tellP, ho]]
    clear ho
    go_enter Tryz.func23, Tryz.ntmps23
    go_wp2_with fail
    rw [← hW]
    clear hW
    refine (refOkP_is _ _ _ _ HX.out _ HO.out).mono ?_
    rintro e w1 ⟨rfl, hb1⟩
    go_wp2
    go_ret
    exact ⟨rfl, below_next BW hb1⟩
  · have HO := Lib.hid ho
    obtain ⟨k, hk, rfl⟩ : ∃ k : Nat, k ≤ 128 ∧ n = k := by have := okP_is ho; have := okP_lt ho; exact ⟨n.toNat, by omega, by omega⟩
    have ht : tellP v x k = tellV v x ++ [47] ++ decS k := by simp [tellP, ho]
    have hl := tellV_len v x
    have hdl := (decS_len k).2
    have HPr := Lib.hid (fun w => printE_x v x w HX.out)
    have HIt := Lib.hid (fun w => textE_x k w (by omega))
    rw [ht]
    generalize tellV v x = T at *
    generalize decS k = D at *
    have hadd1 : ∀ V, (Op.stringOp .add (baS T) ⟨#[47]⟩).run Tryz.prog V = .ok (.string (baS (T ++ [47]))) V := addS T [47] (by omega) (by decide)
    have hadd2 := addS (T ++ [47]) D (by simp; omega) (by omega)
    generalize T ++ [47] = T1 at *
    generalize T1 ++ D = T2 at *
    have hwr : IntKind.u64.wrap (k : Int) = (k : Int) := by rw [IntKind.wrap_u64]; omega
    clear ho hl hdl ht
    go_enter Tryz.func23, Tryz.ntmps23
    go_wp2_with fail
    rw [← hW]
    clear hW
    refine (refOkP_is _ _ _ _ HX.out _ HO.out).mono ?_
    rintro e V ⟨rfl, hb1⟩
    have B1 := below_next BW hb1
    have P1 := P0.below hb1
    have a0 := cell_regrown P1.c0; have a1 := cell_regrown P1.c1; have a2 := cell_regrown P1.c2; have a3 := cell_regrown P1.c3
    clear hb1 P0 P1 BW
    go_wp2_with fail
    refine wp_region_quiet_below (by kernel_rfl) (by kernel_rfl) ?_
    repeat (go_big_quiet_step (first
      | (go_at_call 31; exact Calls.regrown_of (HPr.out _))
      | (go_at_call 51; exact Calls.regrown_of (HIt.out _))))
    refine wpQuiet_nil ?_
    intro _ hw'
    obtain ⟨⟨dq, osq⟩, hw''⟩ := hw'
    subst hw''
    go_wp2
    go_ret
    exact ⟨rfl, below_next B1 (below_regrown V dq osq)⟩
end Go.Proofs.YtmnemjhkmllniaaGreatDoor
