/- The walk of pref.Ok, for every prefix, none too. -/
import Derived.Test.YtmnemjhkmllniaaGreatDoorzPw
namespace Go.Proofs.YtmnemjhkmllniaaGreatDoor
open Go.ChangeShapes Go.WideShapes Go.RowKit Go.Sort

theorem cut_is_p (v : Int) (x : Nat) (n : Int) (y : Nat) (w : World) (hx : x < 340282366920938463463374607431768211456) (h0 : 0 ≤ n) (hn : n ≤ 128) (h : cutK (hostK v n) x = y) :
    Calls Tryz.prog 69 #[.agg #[.int .i64 v, .int .u64 (hiQ x), .int .u64 (loQ x)], .int .i64 n] w fun e w' => e = .returned (.agg #[.int .i64 v, .int .u64 (hiQ y), .int .u64 (loQ y)]) ∧ Below w.heap.size w w' := by
  obtain ⟨k, rfl⟩ := Int.eq_ofNat_of_zero_le h0
  rw [← h]
  exact cutTo_x v x k w hx (by omega)
/-- Four cells of a prefix lie in block b. -/
structure Pl (w : World) (b : Nat) (v h l n : Int) : Prop where
  c0 : w.cell? ⟨b, 0, none⟩ = some (.int .i64 v)
  c1 : w.cell? ⟨b, 1, none⟩ = some (.int .u64 h)
  c2 : w.cell? ⟨b, 2, none⟩ = some (.int .u64 l)
  c3 : w.cell? ⟨b, 3, none⟩ = some (.int .i64 n)
  lt : b < w.heap.size
theorem Pl.below {w w' : World} {b : Nat} {v h l n : Int} (c : Pl w b v h l n) (hb : Below w.heap.size w w') : Pl w' b v h l n := by
  obtain ⟨k, m⟩ := keep hb b c.lt
  exact ⟨(k 0).trans c.c0, (k 1).trans c.c1, (k 2).trans c.c2, (k 3).trans c.c3, m⟩
theorem Pl.alloc {w : World} {b : Nat} {v h l n : Int} (c : Pl w b v h l n) (o : Obj) : Pl (w.alloc o) b v h l n := c.below ((Below.refl _ _).alloc (Nat.le_refl _) _)
theorem pl_new (w : World) (v h l n : Int) : Pl (w.alloc (.cells #[.int .i64 v, .int .u64 h, .int .u64 l, .int .i64 n] 34)) w.heap.size v h l n :=
  ⟨by simp [go_sem], by simp [go_sem], by simp [go_sem], by simp [go_sem], by simp⟩
set_option maxHeartbeats 1000000 in
theorem okPref_x (v : Int) (x : Nat) (n : Int) (w : World) (hx : x < 340282366920938463463374607431768211456) :
    Calls Tryz.prog 68 #[.agg #[.int .i64 v, .int .u64 (hiQ x), .int .u64 (loQ x), .int .i64 n]] w fun e w' => e = .returned (.bool (okP v x n)) ∧ Below w.heap.size w w' := by
  have HX := Lib.hid hx
  clear hx
  obtain ⟨W, hW⟩ : ∃ W, W = w.alloc (.cells #[.int .i64 v, .int .u64 (hiQ x), .int .u64 (loQ x), .int .i64 n] 34) := ⟨_, rfl⟩
  have P0 : Pl W w.heap.size v (hiQ x) (loQ x) n := hW ▸ pl_new w _ _ _ _
  have BW : Below w.heap.size w W := by rw [hW]; exact (Below.refl _ _).alloc (Nat.le_refl _) _
  have e0 := cell_regrown P0.c0; have e1 := cell_regrown P0.c1; have e2 := cell_regrown P0.c2; have e3 := cell_regrown P0.c3
  cases ho : okV v x
  · have HO := Lib.hid ho
    rw [show okP v x n = false by simp [okP, ho]]
    clear ho
    go_enter Tryz.func68, Tryz.ntmps68
    go_wp2_with fail
    rw [← hW]
    clear hW
    refine wp_region_quiet_below (by kernel_rfl) (by kernel_rfl) ?_
    repeat (go_big_quiet_step (first
      | (go_at_call 37; exact Calls.regrown_of (ok_is _ _ _ _ HO.out))))
    refine wpQuiet_nil ?_
    intro _ hw'
    obtain ⟨⟨dq, osq⟩, hw''⟩ := hw'
    subst hw''
    go_wp2
    go_ret
    exact ⟨rfl, below_next BW (below_regrown W dq osq)⟩
  · have HO := Lib.hid ho
    clear ho
    by_cases h0 : n < 0
    · rw [show okP v x n = false by simp [okP]; intro _ h; omega]
      have hd : decide (n < 0) = true := decide_eq_true h0
      clear h0
      go_enter Tryz.func68, Tryz.ntmps68
      go_wp2_with fail
      rw [← hW]
      clear hW
      refine wp_region_quiet_below (by kernel_rfl) (by kernel_rfl) ?_
      repeat (go_big_quiet_step (first
        | (go_at_call 37; exact Calls.regrown_of (ok_is _ _ _ _ HO.out))))
      refine wpQuiet_nil ?_
      intro _ hw'
      obtain ⟨⟨dq, osq⟩, hw''⟩ := hw'
      subst hw''
      go_wp2
      go_ret
      exact ⟨rfl, below_next BW (below_regrown W dq osq)⟩
    · have hd : decide (n < 0) = false := decide_eq_false h0
      have HB := Lib.hid (bits_any v)
      by_cases h1 : n > (bitsV v : Int)
      · rw [show okP v x n = false by simp [okP]; intro _ h; omega]
        have hd1 : decide (n > (bitsV v : Int)) = true := decide_eq_true h1
        have hd2 : decide ((bitsV v : Int) < n) = true := decide_eq_true h1
        clear h0 h1
        go_enter Tryz.func68, Tryz.ntmps68
        go_wp2_with fail
        rw [← hW]
        clear hW
        refine wp_region_quiet_below (by kernel_rfl) (by kernel_rfl) ?_
        repeat (go_big_quiet_step (first
          | (go_at_call 37; exact Calls.regrown_of (ok_is _ _ _ _ HO.out))
          | (go_at_call 67; exact Calls.regrown_of (HB.out _))))
        refine wpQuiet_nil ?_
        intro _ hw'
        obtain ⟨⟨dq, osq⟩, hw''⟩ := hw'
        subst hw''
        go_wp2
        go_ret
        exact ⟨rfl, below_next BW (below_regrown W dq osq)⟩
      · have hd2 : decide ((bitsV v : Int) < n) = false := decide_eq_false h1
        have hl : bitsV v ≤ 128 := bitsV_le v
        obtain ⟨y, hy⟩ : ∃ y, cutK (hostK v n) x = y := ⟨_, rfl⟩
        have HC : Hid (∀ w, Calls Tryz.prog 69 #[.agg #[.int .i64 v, .int .u64 (hiQ x), .int .u64 (loQ x)], .int .i64 n] w fun e w' => e = .returned (.agg #[.int .i64 v, .int .u64 (hiQ y), .int .u64 (loQ y)]) ∧ Below w.heap.size w w') := fun w => cut_is_p v x n y w HX.out (by omega) (by omega) hy
        have HP : Hid (okP v x n = decide (y = x)) := by show _ = _; simp [okP, HO.out, hy]; intro _; omega
        clear h0 h1 hy hl
        go_enter Tryz.func68, Tryz.ntmps68
        go_wp2_with fail
        rw [← hW]
        clear hW
        refine wp_region_quiet_below (by kernel_rfl) (by kernel_rfl) ?_
        repeat (go_big_quiet_step (first
          | (go_at_call 37; exact Calls.regrown_of (ok_is _ _ _ _ HO.out))
          | (go_at_call 67; exact Calls.regrown_of (HB.out _))))
        refine wpQuiet_nil ?_
        intro _ hw'
        obtain ⟨⟨dq, osq⟩, hw''⟩ := hw'
        subst hw''
        have P1 := P0.below (below_regrown W dq osq)
        have B1 := below_next BW (below_regrown W dq osq)
        generalize grow (redrawn W dq) osq = V at P1 B1
        clear e0 e1 e2 e3 P0 BW hd hd2
        have e0 := cell_regrown P1.c0; have e1 := cell_regrown P1.c1; have e2 := cell_regrown P1.c2; have e3 := cell_regrown P1.c3
        by_cases hxy : y = x
        · subst hxy
          have HQ : Hid (okP v y n = true) := HP.out.trans (decide_eq_true rfl)
          clear HP
          go_wp2_with fail
          refine wp_region_quiet_below (by kernel_rfl) (by kernel_rfl) ?_
          repeat (go_big_quiet_step (first
            | (go_at_call 69; exact Calls.regrown_of (HC.out _))))
          refine wpQuiet_nil ?_
          intro _ hw'
          obtain ⟨⟨dq, osq⟩, hw''⟩ := hw'
          subst hw''
          go_wp2
          go_ret
          exact ⟨by rw [HQ.out]; rfl, below_next B1 (below_regrown _ dq osq)⟩
        · have HQ : Hid (okP v x n = false) := HP.out.trans (decide_eq_false hxy)
          clear HP
          have hq := q_if_ne hxy
          clear hxy
          go_wp2_with fail
          refine wp_region_quiet_below (by kernel_rfl) (by kernel_rfl) ?_
          repeat (go_big_quiet_step (first
            | (go_at_call 69; exact Calls.regrown_of (HC.out _))))
          refine wpQuiet_nil ?_
          intro _ hw'
          obtain ⟨⟨dq, osq⟩, hw''⟩ := hw'
          subst hw''
          go_wp2
          go_ret
          exact ⟨by rw [HQ.out]; rfl, below_next B1 (below_regrown _ dq osq)⟩
theorem okPref_is (v : Int) (x : Nat) (n : Int) (w : World) (hx : x < 340282366920938463463374607431768211456) (b : Bool) (h : okP v x n = b) :
    Calls Tryz.prog 68 #[.agg #[.int .i64 v, .int .u64 (hiQ x), .int .u64 (loQ x), .int .i64 n]] w fun e w' => e = .returned (.bool b) ∧ Below w.heap.size w w' := h ▸ okPref_x v x n w hx
end Go.Proofs.YtmnemjhkmllniaaGreatDoor

/- The walks of pref.First, Last, Has, Over, Less, for all prefixes, none too. -/
namespace Go.Proofs.YtmnemjhkmllniaaGreatDoor
open Go.ChangeShapes Go.WideShapes Go.RowKit Go.Sort

set_option maxHeartbeats 2000000 in
theorem last_x (v : Int) (x : Nat) (n : Int) (w : World) (hx : x < 340282366920938463463374607431768211456) :
    Calls Tryz.prog 45 #[.agg #[.int .i64 v, .int .u64 (hiQ x), .int .u64 (loQ x), .int .i64 n]] w fun e w' => e = .returned (.agg #[.int .i64 (firstV v x n), .int .u64 (hiQ (lastX v x n)), .int .u64 (loQ (lastX v x n))]) ∧ Below w.heap.size w w' := by
  have HX := Lib.hid hx
  clear hx
  cases ho : okP v x n
  · have HO := Lib.hid ho
    rw [show firstV v x n = 0 by simp [firstV, ho], show lastX v x n = 0 by simp [lastX, ho], hiQ_zero, loQ_zero]
    clear ho
    go_enter Tryz.func45, Tryz.ntmps45
    go_wp2_with fail
    refine (okPref_is _ _ _ _ HX.out _ HO.out).mono ?_
    rintro e w1 ⟨rfl, hb1⟩
    obtain ⟨k1, f1, l1⟩ := keepf hb1 (w.heap.size + 1) (by simp)
    go_wp2
    exact bodyPost_ret (v := .agg #[.int .i64 0, .int .u64 0, .int .u64 0]) (by simp [results, Tryz.results45, go_sem, k1]) rfl ⟨rfl, aset3 (below_next (below2 _ _ _) hb1) (Nat.le_succ _)⟩
  · have HO := Lib.hid ho
    rw [show firstV v x n = v by simp [firstV, ho]]
    obtain ⟨k, hk, rfl⟩ : ∃ k : Nat, k ≤ 128 ∧ n = k := by have := okP_is ho; have := okP_lt ho; exact ⟨n.toNat, by omega, by omega⟩
    have HL := Lib.hid (fun w => lead_x v k w hk)
    have HN : Hid (∀ w, Calls Tryz.prog 74 #[.agg #[.int .u64 (hiQ (maskQ (leadM v k))), .int .u64 (loQ (maskQ (leadM v k)))]] w fun e w' => e = .returned (.agg #[.int .u64 (hiQ (notQ (maskQ (leadM v k)))), .int .u64 (loQ (notQ (maskQ (leadM v k))))]) ∧ Below w.heap.size w w') := fun w => not_x _ w (maskQ_lt _)
    have HR : Hid (∀ w, Calls Tryz.prog 73 #[.agg #[.int .u64 (hiQ x), .int .u64 (loQ x)], .agg #[.int .u64 (hiQ (notQ (maskQ (leadM v k)))), .int .u64 (loQ (notQ (maskQ (leadM v k))))]] w fun e w' => e = .returned (.agg #[.int .u64 (hiQ (lastX v x k)), .int .u64 (loQ (lastX v x k))]) ∧ Below w.heap.size w w') := fun w => by
      have hl : lastX v x k = x ||| notQ (maskQ (leadM v k)) := by
        have hb := bitsV_le v
        have h3 := (okP_is ho).2.2.1
        rw [show leadM v k = 128 - hostK v k by unfold leadM hostK; omega, not_mask _ (hostK_le _ _), or_low _ _ (okP_is ho).2.2.2]
        simp [lastX, ho]
      rw [hl]; exact or_x _ _ w HX.out (notQ_lt _)
    generalize lastX v x k = y at *
    generalize notQ (maskQ (leadM v k)) = O at *
    generalize maskQ (leadM v k) = M at *
    clear ho
    go_enter Tryz.func45, Tryz.ntmps45
    go_wp2_with fail
    refine (okPref_is _ _ _ _ HX.out _ HO.out).mono ?_
    rintro e W ⟨rfl, hb1⟩
    obtain ⟨k0, f0, l0⟩ := keepf hb1 w.heap.size (by simp; omega)
    obtain ⟨k1, f1, lW⟩ := keepf hb1 (w.heap.size + 1) (by simp)
    have z0 : W.cell? ⟨w.heap.size, 0, none⟩ = some (.int .i64 v) := by rw [k0]; simp [go_sem]
    have z1 : W.cell? ⟨w.heap.size, 1, none⟩ = some (.int .u64 (hiQ x)) := by rw [k0]; simp [go_sem]
    have z2 : W.cell? ⟨w.heap.size, 2, none⟩ = some (.int .u64 (loQ x)) := by rw [k0]; simp [go_sem]
    have z3 : W.cell? ⟨w.heap.size, 3, none⟩ = some (.int .i64 k) := by rw [k0]; simp [go_sem]
    have r0 : W.cell? ⟨w.heap.size + 1, 0, none⟩ = some (.int .i64 0) := by rw [k1]; simp [go_sem]
    have r1 : W.cell? ⟨w.heap.size + 1, 1, none⟩ = some (.int .u64 0) := by rw [k1]; simp [go_sem]
    have r2 : W.cell? ⟨w.heap.size + 1, 2, none⟩ = some (.int .u64 0) := by rw [k1]; simp [go_sem]
    have rf : ∀ o, W.frozen? ⟨w.heap.size + 1, o, none⟩ = false := fun o => by rw [f1]; simp [go_sem]
    have BW : Below w.heap.size w W := below_next (below2 _ _ _) hb1
    clear k0 f0 k1 f1 hb1 HO HX
    go_upto_region 3 with fail
    go_region_held3 (fun w' => w'.cell? ⟨w.heap.size, 0, none⟩ = some (.int .i64 v) ∧ w'.cell? ⟨w.heap.size, 1, none⟩ = some (.int .u64 (hiQ x)) ∧ w'.cell? ⟨w.heap.size, 2, none⟩ = some (.int .u64 (loQ x)) ∧ w'.cell? ⟨w.heap.size, 3, none⟩ = some (.int .i64 k)) (go_keep)
      (first
        | (go_at_call 75; refine (HL.out _).mono ?_; rintro e w8 ⟨rfl, hb8⟩; obtain ⟨k0, l0⟩ := keep hb8 w.heap.size (by first | omega | (simp; done) | (simp; omega)); obtain ⟨k1, f1, l1⟩ := keepf hb8 (w.heap.size + 1) (by first | omega | (simp; done) | (simp; omega)); have C8 := below_next (W := W) (by repeat (first | exact Below.refl _ _ | apply Below.drew)) hb8)
        | (go_at_call 74; refine (HN.out _).mono ?_; rintro e w9 ⟨rfl, hb9⟩; obtain ⟨m0, n0⟩ := keep hb9 w.heap.size (by first | omega | (simp; done) | (simp; omega)); obtain ⟨m1, g1, n1⟩ := keepf hb9 (w.heap.size + 1) (by first | omega | (simp; done) | (simp; omega)); have C9 := below_next (W := W) (by repeat (first | exact C8 | apply Below.drew)) hb9)
        | (go_at_call 73; refine (HR.out _).mono ?_; rintro e w10 ⟨rfl, hb10⟩; obtain ⟨i0, j0⟩ := keep hb10 w.heap.size (by first | omega | (simp; done) | (simp; omega)); obtain ⟨i1, h1, j1⟩ := keepf hb10 (w.heap.size + 1) (by first | omega | (simp; done) | (simp; omega)); have C10 := below_next (W := W) (by repeat (first | exact C9 | apply Below.drew)) hb10))
    all_goals
      have B9 := below_next BW C10
      go_wp2
      exact bodyPost_ret (v := .agg #[.int .i64 v, .int .u64 (hiQ y), .int .u64 (loQ y)]) (by simp [results, Tryz.results45, go_sem, *]) rfl ⟨rfl, aset3 B9 (Nat.le_succ _)⟩
theorem ifne3 {v u : Int} {x y : Nat} (h : ¬ (v = u ∧ x = y)) (α : Type) (A B : α) : (if v = u then (if hiQ x = hiQ y then (if loQ x = loQ y then A else B) else B) else B) = B := by
  by_cases h1 : v = u
  · rw [if_pos h1]; exact q_if_ne (fun e => h ⟨h1, e⟩) α A B
  · rw [if_neg h1]
set_option maxHeartbeats 2000000 in
theorem has_p (v : Int) (x : Nat) (n u : Int) (y : Nat) (w : World) (hx : x < 340282366920938463463374607431768211456) (hy : y < 340282366920938463463374607431768211456) :
    Calls Tryz.prog 40 #[.agg #[.int .i64 v, .int .u64 (hiQ x), .int .u64 (loQ x), .int .i64 n], .agg #[.int .i64 u, .int .u64 (hiQ y), .int .u64 (loQ y)]] w fun e w' => e = .returned (.bool (hasP v x n u y)) ∧ Below w.heap.size w w' := by
  have HX := Lib.hid hx
  have HY := Lib.hid hy
  clear hx hy
  obtain ⟨W, hW⟩ : ∃ W, W = (w.alloc (.cells #[.int .i64 v, .int .u64 (hiQ x), .int .u64 (loQ x), .int .i64 n] 34)).alloc (.cells #[.int .i64 u, .int .u64 (hiQ y), .int .u64 (loQ y)] 28) := ⟨_, rfl⟩
  have P0 : Pl W w.heap.size v (hiQ x) (loQ x) n := hW ▸ (pl_new w _ _ _ _).alloc _
  have BW : Below w.heap.size w W := by rw [hW]; exact below2 _ _ _
  have a0 := cell_regrown P0.c0; have a1 := cell_regrown P0.c1; have a2 := cell_regrown P0.c2; have a3 := cell_regrown P0.c3
  have b0 := cell_regrown (show W.cell? ⟨w.heap.size + 1, 0, none⟩ = some (.int .i64 u) by rw [hW]; simp [go_sem])
  have b1 := cell_regrown (show W.cell? ⟨w.heap.size + 1, 1, none⟩ = some (.int .u64 (hiQ y)) by rw [hW]; simp [go_sem])
  have b2 := cell_regrown (show W.cell? ⟨w.heap.size + 1, 2, none⟩ = some (.int .u64 (loQ y)) by rw [hW]; simp [go_sem])
  cases ho : okP v x n
  · have HO := Lib.hid ho
    rw [show hasP v x n u y = false by simp [hasP, ho]]
    clear ho
    go_enter Tryz.func40, Tryz.ntmps40
    go_wp2_with fail
    rw [← hW]
    clear hW
    refine wp_region_quiet_below (by kernel_rfl) (by kernel_rfl) ?_
    repeat (go_big_quiet_step (first
      | (go_at_call 68; exact Calls.regrown_of (okPref_is _ _ _ _ HX.out _ HO.out))))
    refine wpQuiet_nil ?_
    intro _ hw'
    obtain ⟨⟨dq, osq⟩, hw''⟩ := hw'
    subst hw''
    go_wp2
    go_ret
    exact ⟨rfl, below_next BW (below_regrown W dq osq)⟩
  · have HO := Lib.hid ho
    cases hu : okV u y
    · have HU := Lib.hid hu
      rw [show hasP v x n u y = false by simp [hasP, hu]]
      clear ho hu
      go_enter Tryz.func40, Tryz.ntmps40
      go_wp2_with fail
      rw [← hW]
      clear hW
      refine wp_region_quiet_below (by kernel_rfl) (by kernel_rfl) ?_
      repeat (go_big_quiet_step (first
        | (go_at_call 68; exact Calls.regrown_of (okPref_is _ _ _ _ HX.out _ HO.out))
        | (go_at_call 37; exact Calls.regrown_of (ok_is _ _ _ _ HU.out))))
      refine wpQuiet_nil ?_
      intro _ hw'
      obtain ⟨⟨dq, osq⟩, hw''⟩ := hw'
      subst hw''
      go_wp2
      go_ret
      exact ⟨rfl, below_next BW (below_regrown W dq osq)⟩
    · have HU := Lib.hid hu
      have h0 := (okP_is ho).2.1
      have h1 := okP_lt ho
      obtain ⟨z, hz⟩ : ∃ z, cutK (hostK u n) y = z := ⟨_, rfl⟩
      have HC : Hid (∀ w, Calls Tryz.prog 69 #[.agg #[.int .i64 u, .int .u64 (hiQ y), .int .u64 (loQ y)], .int .i64 n] w fun e w' => e = .returned (.agg #[.int .i64 u, .int .u64 (hiQ z), .int .u64 (loQ z)]) ∧ Below w.heap.size w w') := fun w => cut_is_p u y n z w HY.out h0 h1 hz
      have HP : hasP v x n u y = decide (u = v ∧ z = x) := by simp [hasP, ho, hu, hz]
      clear h0 h1 hz ho hu
      by_cases hzx : u = v ∧ z = x
      · rw [HP, decide_eq_true hzx]
        obtain ⟨rfl, rfl⟩ := hzx
        clear HP
        go_enter Tryz.func40, Tryz.ntmps40
        go_wp2_with fail
        rw [← hW]
        clear hW
        refine wp_region_quiet_below (by kernel_rfl) (by kernel_rfl) ?_
        repeat (go_big_quiet_step (first
          | (go_at_call 68; exact Calls.regrown_of (okPref_is _ _ _ _ HX.out _ HO.out))
          | (go_at_call 37; exact Calls.regrown_of (ok_is _ _ _ _ HU.out))
          | (go_at_call 69; exact Calls.regrown_of (HC.out _))))
        refine wpQuiet_nil ?_
        intro _ hw'
        obtain ⟨⟨dq, osq⟩, hw''⟩ := hw'
        subst hw''
        go_wp2
        go_ret
        exact ⟨rfl, below_next BW (below_regrown W dq osq)⟩
      · rw [HP, decide_eq_false hzx]
        have hq := ifne3 hzx
        clear HP hzx
        go_enter Tryz.func40, Tryz.ntmps40
        go_wp2_with fail
        rw [← hW]
        clear hW
        refine wp_region_quiet_below (by kernel_rfl) (by kernel_rfl) ?_
        repeat (go_big_quiet_step (first
          | (go_at_call 68; exact Calls.regrown_of (okPref_is _ _ _ _ HX.out _ HO.out))
          | (go_at_call 37; exact Calls.regrown_of (ok_is _ _ _ _ HU.out))
          | (go_at_call 69; exact Calls.regrown_of (HC.out _))))
        refine wpQuiet_nil ?_
        intro _ hw'
        obtain ⟨⟨dq, osq⟩, hw''⟩ := hw'
        subst hw''
        go_wp2
        go_ret
        exact ⟨rfl, below_next BW (below_regrown W dq osq)⟩
theorem has_pis (v : Int) (x : Nat) (n u : Int) (y : Nat) (w : World) (hx : x < 340282366920938463463374607431768211456) (hy : y < 340282366920938463463374607431768211456) (b : Bool) (h : hasP v x n u y = b) :
    Calls Tryz.prog 40 #[.agg #[.int .i64 v, .int .u64 (hiQ x), .int .u64 (loQ x), .int .i64 n], .agg #[.int .i64 u, .int .u64 (hiQ y), .int .u64 (loQ y)]] w fun e w' => e = .returned (.bool b) ∧ Below w.heap.size w w' := h ▸ has_p v x n u y w hx hy
end Go.Proofs.YtmnemjhkmllniaaGreatDoor
