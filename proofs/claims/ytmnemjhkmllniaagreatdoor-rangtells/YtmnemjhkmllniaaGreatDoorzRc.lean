/- The second writing's Cover: the same row of the greatest prefixes. -/
import Derived.Deep.CutBlock
import Derived.Test.YtmnemjhkmllniaaGreatDoorzLCover
import Derived.Test.YtmnemjhkmllniaaGreatDoorzRg
import Derived.Test.YtmnemjhkmllniaaGreatDoorzRs
import Derived.Test.YtmnemjhkmllniaaGreatDoorzGc
namespace Go.Proofs.YtmnemjhkmllniaaGreatDoor
open Go.ChangeShapes Go.WideShapes Go.RowKit Go.Sort

theorem fits_not {z y k : Nat} (h : ¬ fits z y (k + 1)) : ∀ j, j ≤ 128 → k < j → ¬ fits z y j := fun j _ hj hf => h (fits_less hf (by omega))
theorem fits_far {u : Int} {z y : Nat} (hy : y < 2 ^ bitsV u) : ∀ j, j ≤ 128 → bitsV u < j → ¬ fits z y j := fun j _ hj hf => by
  have h1 := hf.2; have h2 := pow_le (show bitsV u + 1 ≤ j by omega); have := two_pos (bitsV u)
  rw [Nat.pow_succ] at h2; omega
theorem okP_not {u : Int} {z k : Nat} (hk : k ≤ bitsV u) (hd : ¬ 2 ^ k ∣ z) : okP u z ((bitsV u : Int) - k) = false := by
  cases h : okP u z ((bitsV u : Int) - k) with
  | false => rfl
  | true =>
    have e : hostK u ((bitsV u : Int) - k) = k := by unfold hostK; omega
    have := (okP_is h).2.2.2
    rw [e] at this
    exact absurd (cutK_dvd.1 this) hd
theorem refLessA_b (v : Int) (y z : Nat) (b : Bool) (h : decide (y < z) = b) (w : World) :
    Calls Tryz.prog 42 #[.agg #[.int .i64 v, .int .u64 (hiQ y), .int .u64 (loQ y)], .agg #[.int .i64 v, .int .u64 (hiQ z), .int .u64 (loQ z)]] w fun e w' => e = .returned (.bool b) ∧ Below w.heap.size w w' := by
  have := refLessA_x v y v z w
  rw [show ltA v y v z = b by rw [← h]; simp [ltA, ltB]] at this; exact this
set_option maxHeartbeats 2000000 in
set_option maxRecDepth 100000 in
theorem refCover_no (v : Int) (x : Nat) (u : Int) (y : Nat) (w : World) (hx : x < 340282366920938463463374607431768211456) (hy : y < 340282366920938463463374607431768211456) (h : okR v x u y = false) :
    Calls Tryz.prog 21 #[rgV v x u y] w fun e w' => CoverE w u (coverR v x u y) e w' := by
  rw [coverR_no h]
  have HK := Lib.hid (fun w => refOkR_is v x u y w hx hy false h)
  obtain ⟨W, hW⟩ : ∃ W, W = (w.alloc (.cells #[.int .i64 v, .int .u64 (hiQ x), .int .u64 (loQ x), .int .i64 u, .int .u64 (hiQ y), .int .u64 (loQ y)] 30)).alloc (.cells #[.int .i64 v, .int .u64 (hiQ x), .int .u64 (loQ x)] 28) := ⟨_, rfl⟩
  have R0 : Rl W w.heap.size v (hiQ x) (loQ x) u (hiQ y) (loQ y) := hW ▸ (rl_new w _ _ _ _ _ _).alloc _
  have BW : Below w.heap.size w W := by rw [hW]; exact ball (ball (Below.refl _ _))
  clear hx hy h
  go_enter Tryz.func21, Tryz.ntmps21
  go_wp2_with fail
  rw [← hW]
  clear hW
  go_loopw [3] (fun sv wr => sv = .slice none 0 0 ∧ wr = W) (fun _ _ => 0)
  case atStart => exact ⟨rfl, rfl⟩
  case round =>
    obtain ⟨rfl, rfl⟩ := hrel
    obtain ⟨c0, c1, c2, c3, c4, c5, lB⟩ := id R0
    go_wp2_with fail
    refine (HK.out _).mono ?_
    rintro e w1 ⟨rfl, hb1⟩
    go_wp2
    go_ret
    exact ⟨below_next BW hb1, none, 0, rfl, Nat.le_refl _, Or.inl ⟨rfl, rfl, rfl⟩⟩
set_option maxHeartbeats 8000000 in
set_option maxRecDepth 100000 in
theorem refCover_yes (v : Int) (x y : Nat) (w : World) (hx : x < 340282366920938463463374607431768211456) (hy : y < 340282366920938463463374607431768211456) (h : okR v x v y = true) :
    Calls Tryz.prog 21 #[rgV v x v y] w fun e w' => CoverE w v (coverR v x v y) e w' := by
  obtain ⟨i0, hi, hz0, hz1, hz2⟩ := info_parts infoP
  obtain ⟨R, hR⟩ : ∃ R, coverR v x v y = R := ⟨_, rfl⟩
  have HN : Hid (R.length ≤ 258) := hR ▸ coverR_count (v := v) (x := x) (u := v) hy
  have HR0 : Hid (R = coverX x y) := by show _ = _; rw [← hR, coverR_yes h]
  rw [hR]
  have HX := Lib.hid hx
  have HY := Lib.hid hy
  have HH := Lib.hid h
  have HK := Lib.hid (fun w => refOkR_is v x v y w hx hy true h)
  obtain ⟨ok1, ok2, _, hxy⟩ := okR_is h
  have hy2 := okV_lt ok2 hy
  have HBits := Lib.hid (fun w => refBits_x v w)
  have HFar : Hid (∀ z j, j ≤ 128 → bitsV v < j → ¬ fits z y j) := fun z => fits_far hy2
  have hbb := bitsV_le v
  have HOk2 := Lib.hid ok2
  have HV := Lib.hid (okV_v ok1)
  have HY2 := Lib.hid hy2
  have HXY := Lib.hid hxy
  clear hx hy h hR ok1 ok2 hxy hy2
  obtain ⟨W, hW⟩ : ∃ W, W = (w.alloc (.cells #[.int .i64 v, .int .u64 (hiQ x), .int .u64 (loQ x), .int .i64 v, .int .u64 (hiQ y), .int .u64 (loQ y)] 30)).alloc (.cells #[.int .i64 v, .int .u64 (hiQ x), .int .u64 (loQ x)] 28) := ⟨_, rfl⟩
  have hWs : (w.alloc (.cells #[.int .i64 v, .int .u64 (hiQ x), .int .u64 (loQ x), .int .i64 v, .int .u64 (hiQ y), .int .u64 (loQ y)] 30)).heap.size = w.heap.size + 1 := by simp
  have R0 : Rl W w.heap.size v (hiQ x) (loQ x) v (hiQ y) (loQ y) := hW ▸ (rl_new w _ _ _ _ _ _).alloc _
  have A0 : Cl W (w.heap.size + 1) v (hiQ x) (loQ x) := by rw [hW, ← hWs]; exact cl_new _ _ _ _
  have AF : ∀ o, W.frozen? ⟨w.heap.size + 1, o, none⟩ = false := fun o => by rw [hW]; simp [go_sem]
  have BW : Below w.heap.size w W := by rw [hW]; exact ball (ball (Below.refl _ _))
  have hsW : w.heap.size + 2 ≤ W.heap.size := by rw [hW]; simp
  clear hWs
  go_enter Tryz.func21, Tryz.ntmps21
  go_wp2_with fail
  rw [← hW]
  clear hW
  go_loopw [3] (fun sv wr => ∃ (acc : List (Nat × Nat)) (z : Nat) (p : Option Addr) (c : Nat), sv = .slice p acc.length c ∧ Hid (R = acc ++ coverX z y ∧ z ≤ y) ∧ wr.ownsRow (w.heap.size + 2) 34 4 (.slice p acc.length c) acc.length (acc.flatMap (cellsP v)) ∧ Rl wr w.heap.size v (hiQ x) (loQ x) v (hiQ y) (loQ y) ∧ Cl wr (w.heap.size + 1) v (hiQ z) (loQ z) ∧ (∀ o, wr.frozen? ⟨w.heap.size + 1, o, none⟩ = false) ∧ w.heap.size + 2 ≤ wr.heap.size ∧ Below w.heap.size w wr)
    (fun sv _ => R.length - lenOf sv)
  case atStart => exact ⟨[], x, none, 0, rfl, ⟨HR0.out, HXY.out⟩, World.ownsRow_nil _ _ _ _, R0, A0, AF, hsW, BW⟩
  case round =>
    clear R0 A0 AF BW hsW
    obtain ⟨acc, z, p, c, rfl, hh, hown, R1, A1, af, hsz, hb⟩ := hrel
    obtain ⟨c0, c1, c2, c3, c4, c5, lB⟩ := id R1
    have hzy := hh.out.2
    have hkb0 : okV v z = true := okV_of HV.out (Nat.lt_of_le_of_lt hzy HY2.out)
    have hz128 : z < 340282366920938463463374607431768211456 := Nat.lt_of_le_of_lt hzy HY.out
    go_wp2_with fail
    refine (HK.out _).mono ?_
    rintro e w1 ⟨rfl, hb1⟩
    have R2 := R1.below hb1
    have A2 := A1.below hb1
    have hown1 := own_next hown hb1
    have B1 := below_next hb hb1
    obtain ⟨kf, ff, lf⟩ := keepf hb1 (w.heap.size + 1) A1.lt
    have af1 : ∀ o, w1.frozen? ⟨w.heap.size + 1, o, none⟩ = false := fun o => (ff o).trans (af o)
    have hsz1 : w.heap.size + 2 ≤ w1.heap.size := Nat.le_trans hsz hb1.size
    clear c0 c1 c2 c3 c4 c5 lB R1 A1 af hown hb kf ff hb1 hsz
    obtain ⟨a0, a1, a2, lA⟩ := id A2
    go_upto_region 5 with fail
    go_cut [5] (fun pv wx => ∃ N, pv = .pointer (some ⟨N, 0, none⟩) ∧ w1.heap.size ≤ N ∧ Pl wx N v (hiQ z) (loQ z) (bitsV v) ∧ (∀ o, wx.frozen? ⟨N, o, none⟩ = false) ∧ Below w1.heap.size w1 wx)
    case first =>
      have nX := Nat.ne_of_gt lA
      go_region_held3 (fun w' => w'.cell? ⟨w.heap.size + 1, 0, none⟩ = some (.int .i64 v) ∧ w'.cell? ⟨w.heap.size + 1, 1, none⟩ = some (.int .u64 (hiQ z)) ∧ w'.cell? ⟨w.heap.size + 1, 2, none⟩ = some (.int .u64 (loQ z))) (go_keep)
        (first
          | (go_at_call 27; refine (HBits.out _).mono ?_; rintro e w8 ⟨rfl, hb8⟩; (first | (have F8 := freshP_dnew (W := w1) hb8 (Below.refl _ _); obtain ⟨g0, g1, g2, g3, gf, gl, ge⟩ := id F8; have gn := far_ne lA ge) | (have F8 := freshP_newd (W := w1) hb8 (Below.refl _ _); obtain ⟨g0, g1, g2, g3, gf, gl, ge⟩ := id F8; have gn := far_ne lA ge) | (have F8 := freshP_new (W := w1) hb8 (by repeat (first | exact Below.refl _ _ | apply Below.drew)); obtain ⟨g0, g1, g2, g3, gf, gl, ge⟩ := id F8; have gn := far_ne lA ge) | skip); have C8 : Below w1.heap.size w1 w8 := below_next (by repeat (first | exact Below.refl _ _ | apply Below.drew | apply ball)) hb8; obtain ⟨k8, l8⟩ := keep C8 (w.heap.size + 1) lA; have n8 := Nat.ne_of_gt l8))
      all_goals
        go_wp2_with fail
        go_meet
      all_goals first
        | exact ⟨_, rfl, ge, ⟨(set4 g0 g1 g2 g3).1, (set4 g0 g1 g2 g3).2.1, (set4 g0 g1 g2 g3).2.2.1, (set4 g0 g1 g2 g3).2.2.2, by simp; exact gl⟩, fun o => by simp [gf], pset4 C8 ge⟩
        | exact ⟨_, rfl, C8.size, pl_new _ _ _ _ _, fun o => by simp [go_sem], ball C8⟩
    case rest =>
      obtain ⟨N, rfl, hN, PX, pf, CX⟩ := hcut
      clear a0 a1 a2 lA
      go_upto_block 2 with fail
      go_cut [20] (fun _ wx => Pl wx N v (hiQ z) (loQ z) ((bitsV v : Int) - widK z y) ∧ (∀ o, wx.frozen? ⟨N, o, none⟩ = false) ∧ Below w1.heap.size w1 wx)
      case first =>
        go_wp2_with fail
        go_loopw [20] (fun _ wr => ∃ k : Nat, k ≤ bitsV v ∧ Hid (fits z y k) ∧ Pl wr N v (hiQ z) (loQ z) ((bitsV v : Int) - k) ∧ (∀ o, wr.frozen? ⟨N, o, none⟩ = false) ∧ Below w1.heap.size w1 wr)
          (fun _ wr => (intCell wr ⟨N, 3, none⟩).toNat)
        case atStart => exact ⟨0, Nat.zero_le _, fits_zero hzy, by simpa using PX, pf, CX⟩
        case round =>
          clear PX pf CX
          obtain ⟨k, hk, hf, PK, pk, CK⟩ := hrel
          have AK := A2.below CK
          have RK := R2.below CK
          obtain ⟨p0, p1, p2, p3, pl⟩ := id PK
          obtain ⟨a0, a1, a2, la⟩ := id AK
          obtain ⟨n0, hn0⟩ : ∃ n0 : Int, (bitsV v : Int) - k = n0 := ⟨_, rfl⟩
          rw [hn0] at p3
          by_cases hkb : k = bitsV v
          · have hW : widK z y = k := widK_is (by omega) hf.out (by rw [hkb]; exact HFar.out z)
            have HW := Lib.hid hW
            have hlt : ¬ (0 : Int) < n0 := by omega
            clear hW
            go_wp2_with fail
            go_meet
            exact ⟨by rw [HW.out]; exact PK, pk, CK⟩
          · have hlt : (0 : Int) < n0 := by omega
            have hwr : IntKind.i64.wrap (n0 - 1) = n0 - 1 := by rw [IntKind.wrap_i64]; omega
            have hn1 : n0 - 1 = (bitsV v : Int) - ((k + 1 : Nat) : Int) := by omega
            have HN1 := Lib.hid hn1
            obtain ⟨X, hX⟩ : ∃ X, X = wr.alloc (.cells #[.int .i64 v, .int .u64 (hiQ z), .int .u64 (loQ z), .int .i64 (n0 - 1)] 34) := ⟨_, rfl⟩
            have QX : Pl X wr.heap.size v (hiQ z) (loQ z) (n0 - 1) := hX ▸ pl_new wr _ _ _ _
            have CX : Below wr.heap.size wr X := hX ▸ ball (Below.refl _ _)
            have RX := RK.below CX
            have PX := PK.below CX
            rw [hn0] at PX
            obtain ⟨kx, fx, lx⟩ := keepf CX N pl
            have px : ∀ o, X.frozen? ⟨N, o, none⟩ = false := fun o => (fx o).trans (pk o)
            have BX := below_next CK CX
            have e0 := cell_regrown QX.c0; have e1 := cell_regrown QX.c1; have e2 := cell_regrown QX.c2; have e3 := cell_regrown QX.c3
            have e4 := cell_regrown RX.c3; have e5 := cell_regrown RX.c4; have e6 := cell_regrown RX.c5
            have hm0 : intCell wr ⟨N, 3, none⟩ = n0 := by unfold intCell; rw [p3]
            by_cases hd : 2 ^ (k + 1) ∣ z
            · have KO : Hid (∀ w, Calls Tryz.prog 46 #[.agg #[.int .i64 v, .int .u64 (hiQ z), .int .u64 (loQ z), .int .i64 (n0 - 1)]] w fun e w' => e = .returned (.bool true) ∧ Below w.heap.size w w') := fun w => refOkP_is v z (n0 - 1) w hz128 true (by rw [hn1]; exact (okP_k hkb0 (by omega) hd).1)
              obtain ⟨L, hL⟩ : ∃ L, z + (2 ^ (k + 1) - 1) = L := ⟨_, rfl⟩
              have KL : Hid (∀ w, Calls Tryz.prog 47 #[.agg #[.int .i64 v, .int .u64 (hiQ z), .int .u64 (loQ z), .int .i64 (n0 - 1)]] w fun e w' => e = .returned (.agg #[.int .i64 v, .int .u64 (hiQ L), .int .u64 (loQ L)]) ∧ Below w.heap.size w w') := fun w => by
                rw [hn1]; exact refLast_is v z (k + 1) w hz128 (by omega) hkb0 hd L hL
              by_cases hfit : fits z y (k + 1)
              · have KS := Lib.hid (fun w => refLessA_b v y L false (decide_eq_false (by have := hfit.2; have := two_pos (k + 1); omega)) w)
                have HF := Lib.hid hfit
                clear hd hL hfit hf p0 p1 p2 PK RK AK hn1 CX kx fx
                go_wp2_with fail
                rw [← hX]
                clear hX
                refine wp_region_quiet_below (by kernel_rfl) (by kernel_rfl) ?_
                repeat (go_big_quiet_step (first
                  | (go_at_call 46; exact Calls.regrown_of (KO.out _))
                  | (go_at_call 47; exact Calls.regrown_of (KL.out _))
                  | (go_at_call 42; exact Calls.regrown_of (KS.out _))))
                refine wpQuiet_nil ?_
                intro _ hw'
                obtain ⟨⟨dq, osq⟩, hw''⟩ := hw'
                subst hw''
                have BQ := below_next BX (below_regrown X dq osq)
                have QV := QX.below (below_regrown X dq osq)
                have PV := PX.below (below_regrown X dq osq)
                obtain ⟨kv, fv, lv⟩ := keepf (below_regrown X dq osq) N PX.lt
                have pv : ∀ o, (grow (redrawn X dq) osq).frozen? ⟨N, o, none⟩ = false := fun o => (fv o).trans (px o)
                generalize grow (redrawn X dq) osq = V at *
                obtain ⟨q0, q1, q2, q3, ql⟩ := id QV
                obtain ⟨p0, p1, p2, p3', pl'⟩ := id PV
                have hne : wr.heap.size ≠ N := Nat.ne_of_gt pl
                clear e0 e1 e2 e3 e4 e5 e6 QX RX PX px kv fv
                go_wp2
                go_roundw
                case rel =>
                  refine ⟨k + 1, by omega, HF.out, ⟨(set4 p0 p1 p2 p3').1, (set4 p0 p1 p2 p3').2.1, (set4 p0 p1 p2 p3').2.2.1, ?_, by simp; exact pl'⟩, fun o => by simp [pv], pset4 BQ hN⟩
                  rw [← HN1.out]; exact (set4 p0 p1 p2 p3').2.2.2
                case measure =>
                  rw [hm0]
                  rw [show intCell ((((V.setCell ⟨N, 0, none⟩ (.int .i64 v)).setCell ⟨N, 1, none⟩ (.int .u64 (hiQ z))).setCell ⟨N, 2, none⟩ (.int .u64 (loQ z))).setCell ⟨N, 3, none⟩ (.int .i64 (n0 - 1))) ⟨N, 3, none⟩ = n0 - 1 by unfold intCell; rw [(set4 p0 p1 p2 p3').2.2.2]]
                  omega
              · have KS := Lib.hid (fun w => refLessA_b v y L true (decide_eq_true (by
                  by_cases e : y < L
                  · exact e
                  · exfalso; apply hfit; exact ⟨hd, by have := two_pos (k + 1); omega⟩)) w)
                have hW : widK z y = k := widK_is (by omega) hf.out (fits_not hfit)
                have HW := Lib.hid hW
                clear hd hL hfit hf p0 p1 p2 RK AK hn1 CX kx fx hW
                go_wp2_with fail
                rw [← hX]
                clear hX
                refine wp_region_quiet_below (by kernel_rfl) (by kernel_rfl) ?_
                repeat (go_big_quiet_step (first
                  | (go_at_call 46; exact Calls.regrown_of (KO.out _))
                  | (go_at_call 47; exact Calls.regrown_of (KL.out _))
                  | (go_at_call 42; exact Calls.regrown_of (KS.out _))))
                refine wpQuiet_nil ?_
                intro _ hw'
                obtain ⟨⟨dq, osq⟩, hw''⟩ := hw'
                subst hw''
                have BQ := below_next BX (below_regrown X dq osq)
                have PV := PX.below (below_regrown X dq osq)
                obtain ⟨kv, fv, lv⟩ := keepf (below_regrown X dq osq) N PX.lt
                have pv : ∀ o, (grow (redrawn X dq) osq).frozen? ⟨N, o, none⟩ = false := fun o => (fv o).trans (px o)
                go_wp2_with fail
                go_meet
                exact ⟨by rw [HW.out, hn0]; exact PV, pv, BQ⟩
            · have KO : Hid (∀ w, Calls Tryz.prog 46 #[.agg #[.int .i64 v, .int .u64 (hiQ z), .int .u64 (loQ z), .int .i64 (n0 - 1)]] w fun e w' => e = .returned (.bool false) ∧ Below w.heap.size w w') := fun w => refOkP_is v z (n0 - 1) w hz128 false (by rw [hn1]; exact okP_not (by omega) hd)
              have hW : widK z y = k := widK_is (by omega) hf.out (fits_not (fun h => hd h.1))
              have HW := Lib.hid hW
              clear hd hf p0 p1 p2 RK AK hn1 CX kx fx hW
              go_wp2_with fail
              rw [← hX]
              clear hX
              refine wp_region_quiet_below (by kernel_rfl) (by kernel_rfl) ?_
              repeat (go_big_quiet_step (first
                | (go_at_call 46; exact Calls.regrown_of (KO.out _))))
              refine wpQuiet_nil ?_
              intro _ hw'
              obtain ⟨⟨dq, osq⟩, hw''⟩ := hw'
              subst hw''
              have BQ := below_next BX (below_regrown X dq osq)
              have PV := PX.below (below_regrown X dq osq)
              obtain ⟨kv, fv, lv⟩ := keepf (below_regrown X dq osq) N PX.lt
              have pv : ∀ o, (grow (redrawn X dq) osq).frozen? ⟨N, o, none⟩ = false := fun o => (fv o).trans (px o)
              go_wp2_with fail
              go_meet
              exact ⟨by rw [HW.out, hn0]; exact PV, pv, BQ⟩
      case rest =>
        clear PX pf CX
        obtain ⟨PX, pf, CX⟩ := hcut
        have R3 := R2.below CX
        have A3 := A2.below CX
        have hown3 := own_next hown1 CX
        have B3 := below_next B1 CX
        obtain ⟨kf, ff, lf3⟩ := keepf CX (w.heap.size + 1) A2.lt
        have af3 : ∀ o, wc.frozen? ⟨w.heap.size + 1, o, none⟩ = false := fun o => (ff o).trans (af1 o)
        have hsz3 : w.heap.size + 2 ≤ wc.heap.size := Nat.le_trans hsz1 CX.size
        have hpN : ∀ g, (Value.slice p acc.length c).ownBlock = some g → g < N ∧ w.heap.size + 2 ≤ g := fun g hg => ⟨Nat.lt_of_lt_of_le (hown1.lt g hg).2 hN, (hown1.lt g hg).1⟩
        have hkb := widK_bits (okR_of hkb0 HOk2.out hzy) HY.out
        have hfit := widK_fits hzy
        obtain ⟨L, hL⟩ : ∃ L, z + (2 ^ widK z y - 1) = L := ⟨_, rfl⟩
        have KL := Lib.hid (fun w => refLast_is v z (widK z y) w hz128 hkb hkb0 hfit.1 L hL)
        have hp2 := two_pos (widK z y)
        have hLy : L ≤ y := by have := hfit.2; omega
        have hL1 : L + 1 = z + 2 ^ widK z y := by omega
        have hLok : okV v L = true := okV_of HV.out (Nat.lt_of_le_of_lt hLy HY2.out)
        have KN := Lib.hid (fun w => refNext_x v L w (Nat.lt_of_le_of_lt hLy HY.out) hLok)
        have hN258 := HN.out
        have HF : Hid (R = (acc ++ [(z, widK z y)]) ++ coverX (z + 2 ^ widK z y) y) := by show _ = _; rw [hh.out.1, coverX_yes hzy]; simp
        have hlen : acc.length + 1 ≤ R.length := by rw [HF.out]; simp
        have hcase : (z + 2 ^ widK z y ≤ y ∧ nextB v L = true ∧ nextV v L = v ∧ nextX v L = z + 2 ^ widK z y) ∨ (y < z + 2 ^ widK z y ∧ nextB v L = false) ∨ (y < z + 2 ^ widK z y ∧ nextB v L = true ∧ nextV v L = v ∧ nextX v L = z + 2 ^ widK z y) := by
          have hv : nextB v L = true → nextV v L = v ∧ nextX v L = z + 2 ^ widK z y := fun h => ⟨if_pos h, by unfold nextX; rw [if_pos h, hL1]⟩
          by_cases hc : z + 2 ^ widK z y ≤ y
          · have hb : nextB v L = true := by
              unfold nextB
              rw [hLok, hL1, okV_of HV.out (show z + 2 ^ widK z y < 2 ^ bitsV v from Nat.lt_of_le_of_lt hc HY2.out)]
              have := HY.out
              simp [addB]; omega
            exact Or.inl ⟨hc, hb, hv hb⟩
          · cases hb : nextB v L
            · exact Or.inr (Or.inl ⟨by omega, rfl⟩)
            · exact Or.inr (Or.inr ⟨by omega, rfl, hv hb⟩)
        have ecell : cellsP v (z, widK z y) = [.int .i64 v, .int .u64 (hiQ z), .int .u64 (loQ z), .int .i64 ((bitsV v : Int) - widK z y)] := rfl
        have HC := Lib.hid hcase
        clear hcase hLok hL1 hLy hp2 hL hfit hkb R2 A2 hown1 B1 af1 hsz1 kf ff hh hkb0 hz128 hzy
        generalize z + 2 ^ widK z y = z2 at *
        generalize nextV v L = nv at *
        generalize nextX v L = nx at *
        generalize nextB v L = nb at *
        generalize widK z y = k at *
        obtain ⟨n, hn⟩ : ∃ n, (bitsV v : Int) - k = n := ⟨_, rfl⟩
        rw [hn] at PX ecell KL
        clear hn
        obtain ⟨p0, p1, p2, p3, pl⟩ := id PX
        go_wp2_with (at_builtin; refine wpList_append_lies _ (by rfl) _ _ 45 (by rfl) (w.heap.size + 2) 34 i0 (.agg #[.int .i64 0, .int .u64 0, .int .u64 0, .int .i64 0]) 4 32 Tryz.underlying45 hi hz0 hz1 hz2 rfl (by decide) _ _ _ (by rfl) (hown3.alloc _) ⟨wc.heap.size, 0, none⟩ 1 1 [.int .i64 v, .int .u64 (hiQ z), .int .u64 (loQ z), .int .i64 n] (by rfl) (by rfl) four_new (fun x hx => by simp at hx; rcases hx with rfl | rfl | rfl | rfl <;> rfl) (by decide) (by unfold maxLen; omega) (by omega) (by simp; omega) (wc.heap.size + 1) (by simp) ?_)
        intro g3 cap w4 hown4 hgrow hat4 hlt4
        have B4 : Below w.heap.size w w4 := (ball B3).grown hgrow (by simp; omega) (fun k hk => by have := (hown3.lt k hk).1; omega)
        obtain ⟨kp, fp, lp⟩ := grown_keep hgrow N (by simp; omega) (fun e => by have := hpN N e.symm; omega)
        obtain ⟨ka, fa, la⟩ := grown_keep hgrow (w.heap.size + 1) (by simp; omega) (fun e => by have := hpN _ e.symm; omega)
        obtain ⟨kr, fr, lr⟩ := grown_keep hgrow w.heap.size (by simp; omega) (fun e => by have := hpN _ e.symm; omega)
        have PA := PX.alloc (.cells #[.int .i64 v, .int .u64 (hiQ z), .int .u64 (loQ z), .int .i64 n] 34)
        have RA := R3.alloc (.cells #[.int .i64 v, .int .u64 (hiQ z), .int .u64 (loQ z), .int .i64 n] 34)
        have AA := A3.alloc (.cells #[.int .i64 v, .int .u64 (hiQ z), .int .u64 (loQ z), .int .i64 n] 34)
        have P4 : Pl w4 N v (hiQ z) (loQ z) n := ⟨(kp 0).trans PA.c0, (kp 1).trans PA.c1, (kp 2).trans PA.c2, (kp 3).trans PA.c3, lp⟩
        have A4 : Cl w4 (w.heap.size + 1) v (hiQ z) (loQ z) := ⟨(ka 0).trans AA.c0, (ka 1).trans AA.c1, (ka 2).trans AA.c2, la⟩
        have R4 : Rl w4 w.heap.size v (hiQ x) (loQ x) v (hiQ y) (loQ y) := ⟨(kr 0).trans RA.c0, (kr 1).trans RA.c1, (kr 2).trans RA.c2, (kr 3).trans RA.c3, (kr 4).trans RA.c4, (kr 5).trans RA.c5, lr⟩
        have af4 : ∀ o, w4.frozen? ⟨w.heap.size + 1, o, none⟩ = false := fun o => by
          rw [fa, (keepf (ball (o := .cells #[.int .i64 v, .int .u64 (hiQ z), .int .u64 (loQ z), .int .i64 n] 34) (Below.refl _ wc)) _ lf3).2.1 o]; exact af3 o
        have hg3 : w.heap.size + 2 ≤ g3 := by
          rcases hat4 with h | h
          · exact (hpN g3 h).2
          · omega
        rw [← ecell] at hown4
        clear PX PA RA AA kp fp ka fa kr fr hgrow hat4 hown3 B3 hpN p0 p1 p2 p3 pl R3 A3 af3 hsz3 lf3 pf CX ecell
        obtain ⟨p0, p1, p2, p3, pl⟩ := id P4
        go_wp2_with fail
        refine (KL.out _).mono ?_
        rintro e w5 ⟨rfl, hb5⟩
        have R5 := R4.below hb5
        have A5 := A4.below hb5
        have hown5 := own_next hown4 hb5
        have B5 := below_next B4 hb5
        obtain ⟨kf, ff, lf5⟩ := keepf hb5 (w.heap.size + 1) A4.lt
        have af5 : ∀ o, w5.frozen? ⟨w.heap.size + 1, o, none⟩ = false := fun o => (ff o).trans (af4 o)
        clear P4 p0 p1 p2 p3 pl R4 A4 hown4 B4 kf ff af4 KL
        go_wp2_with fail
        refine (KN.out _).mono ?_
        rintro e w6 ⟨rfl, hb6⟩
        have R6 := R5.below hb6
        have A6 := A5.below hb6
        have hown6 := own_next hown5 hb6
        have B6 := below_next B5 hb6
        obtain ⟨kf, ff, lf6⟩ := keepf hb6 (w.heap.size + 1) A5.lt
        have af6 : ∀ o, w6.frozen? ⟨w.heap.size + 1, o, none⟩ = false := fun o => (ff o).trans (af5 o)
        have hlt6 : g3 < w6.heap.size := Nat.lt_of_lt_of_le hlt4 (Nat.le_trans hb5.size hb6.size)
        clear R5 A5 hown5 B5 kf ff af5 KN hb5 hb6 hlt4
        have R7 := R6.alloc (.cells #[.int .i64 nv, .int .u64 (hiQ nx), .int .u64 (loQ nx)] 28)
        have A7 := A6.alloc (.cells #[.int .i64 nv, .int .u64 (hiQ nx), .int .u64 (loQ nx)] 28)
        have N7 := cl_new w6 nv (hiQ nx) (loQ nx)
        have B7 := ball (o := .cells #[.int .i64 nv, .int .u64 (hiQ nx), .int .u64 (loQ nx)] 28) B6
        have hown7 := hown6.alloc (.cells #[.int .i64 nv, .int .u64 (hiQ nx), .int .u64 (loQ nx)] 28)
        have af7 : ∀ o, (w6.alloc (.cells #[.int .i64 nv, .int .u64 (hiQ nx), .int .u64 (loQ nx)] 28)).frozen? ⟨w.heap.size + 1, o, none⟩ = false := fun o => by
          rw [(keepf (ball (o := .cells #[.int .i64 nv, .int .u64 (hiQ nx), .int .u64 (loQ nx)] 28) (Below.refl _ w6)) _ lf6).2.1 o]; exact af6 o
        have hlt7 : g3 < (w6.alloc (.cells #[.int .i64 nv, .int .u64 (hiQ nx), .int .u64 (loQ nx)] 28)).heap.size := by simp; omega
        have hs7 : w.heap.size + 2 ≤ (w6.alloc (.cells #[.int .i64 nv, .int .u64 (hiQ nx), .int .u64 (loQ nx)] 28)).heap.size := by simp; have := lf6; omega
        have hn7 : w6.heap.size ≠ w.heap.size + 1 := by have := lf6; omega
        clear R6 A6 hown6 B6 af6 hlt6
        obtain ⟨X, hX⟩ : ∃ X, X = w6.alloc (.cells #[.int .i64 nv, .int .u64 (hiQ nx), .int .u64 (loQ nx)] 28) := ⟨_, rfl⟩
        rw [← hX] at R7 A7 N7 B7 hown7 af7 hlt7 hs7
        go_upto_region 11 with fail
        rw [← hX]
        generalize w6.heap.size = H6 at *
        clear hX
        obtain ⟨r0, r1, r2, r3, r4, r5, lr7⟩ := id R7
        obtain ⟨a0, a1, a2, la7⟩ := id A7
        obtain ⟨m0, m1, m2, lm7⟩ := id N7
        rcases HC.out with ⟨hle, rfl, rfl, rfl⟩ | ⟨hlt, rfl⟩ | ⟨hlt, rfl, rfl, rfl⟩
        · have KS := Lib.hid (fun w => refLessA_b nv y nx false (decide_eq_false (by omega)) w)
          have HLE := Lib.hid hle
          clear HC hle
          go_wp2_with fail
          refine (KS.out _).mono ?_
          rintro e w8 ⟨rfl, hb8⟩
          have R8 := R7.below hb8
          have N8 := N7.below hb8
          have hown8 := own_next hown7 hb8
          have B8 := below_next B7 hb8
          obtain ⟨kf, ff, lf8⟩ := keepf hb8 (w.heap.size + 1) la7
          have a0' := (kf 0).trans a0
          have a1' := (kf 1).trans a1
          have a2' := (kf 2).trans a2
          have af8 : ∀ o, w8.frozen? ⟨w.heap.size + 1, o, none⟩ = false := fun o => (ff o).trans (af7 o)
          have hs8 : w.heap.size + 2 ≤ w8.heap.size := Nat.le_trans hs7 hb8.size
          clear r0 r1 r2 r3 r4 r5 a0 a1 a2 m0 m1 m2 R7 A7 N7 hown7 B7 kf ff af7
          obtain ⟨m0, m1, m2, lm8⟩ := id N8
          go_wp2
          go_roundw
          case rel =>
            have hne : (Value.slice (some (⟨g3, 0, none⟩ : Addr)) (acc.length + 1) cap).ownBlock ≠ some (w.heap.size + 1) := by simp [Value.ownBlock]; omega
            have hownV := ownsRow_setCell_other (a := ⟨w.heap.size + 1, 2, none⟩) (ownsRow_setCell_other (a := ⟨w.heap.size + 1, 1, none⟩) (ownsRow_setCell_other (a := ⟨w.heap.size + 1, 0, none⟩) hown8 hne (.int .i64 nv)) hne (.int .u64 (hiQ nx))) hne (.int .u64 (loQ nx))
            refine ⟨acc ++ [(z, k)], nx, some ⟨g3, 0, none⟩, cap, by simp, ⟨HF.out, HLE.out⟩, by simpa using hownV, ⟨?_, ?_, ?_, ?_, ?_, ?_, by simp; exact R8.lt⟩, ⟨?_, ?_, ?_, by simp; exact lf8⟩, fun o => by simp [af8], by simp; exact hs8, aset3 B8 (Nat.le_succ _)⟩
            · simp [go_sem, R8.c0]
            · simp [go_sem, R8.c1]
            · simp [go_sem, R8.c2]
            · simp [go_sem, R8.c3]
            · simp [go_sem, R8.c4]
            · simp [go_sem, R8.c5]
            · simp [go_sem, a0']
            · simp [go_sem, a1']
            · simp [go_sem, a2']
          case measure => simp [lenOf]; omega
        · have HE : Hid (R = acc ++ [(z, k)]) := by show _ = _; rw [HF.out, coverX_no hlt, List.append_nil]
          clear HC hlt HF
          go_wp2
          go_ret
          refine ⟨B7, some ⟨g3, 0, none⟩, cap, by rw [HE.out]; simp, ?_, Or.inr ⟨g3, rfl, by omega, hlt7, ?_⟩⟩
          · rcases hown7.2 with ⟨h0, _⟩ | ⟨g, cp, cur, hv, b, hg2, hcap, _⟩
            · cases h0
            · injection hv with _ _ e; rw [HE.out]; simp; omega
          · rw [HE.out]; exact rowP_own (by simpa using hown7)
        · have KS := Lib.hid (fun w => refLessA_b nv y nx true (decide_eq_true hlt) w)
          have HE : Hid (R = acc ++ [(z, k)]) := by show _ = _; rw [HF.out, coverX_no hlt, List.append_nil]
          clear HC hlt HF
          go_wp2_with fail
          refine (KS.out _).mono ?_
          rintro e w8 ⟨rfl, hb8⟩
          have hown8 := own_next hown7 hb8
          have B8 := below_next B7 hb8
          have hlt8 : g3 < w8.heap.size := Nat.lt_of_lt_of_le hlt7 hb8.size
          clear r0 r1 r2 r3 r4 r5 a0 a1 a2 m0 m1 m2 R7 A7 N7 hown7 B7 af7
          go_wp2
          go_ret
          refine ⟨B8, some ⟨g3, 0, none⟩, cap, by rw [HE.out]; simp, ?_, Or.inr ⟨g3, rfl, by omega, hlt8, ?_⟩⟩
          · rcases hown8.2 with ⟨h0, _⟩ | ⟨g, cp, cur, hv, b, hg2, hcap, _⟩
            · cases h0
            · injection hv with _ _ e; rw [HE.out]; simp; omega
          · rw [HE.out]; exact rowP_own (by simpa using hown8)
theorem refCover_x (v : Int) (x : Nat) (u : Int) (y : Nat) (w : World) (hx : x < 340282366920938463463374607431768211456) (hy : y < 340282366920938463463374607431768211456) :
    Calls Tryz.prog 21 #[rgV v x u y] w fun e w' => CoverE w u (coverR v x u y) e w' := by
  cases h : okR v x u y with
  | false => exact refCover_no v x u y w hx hy h
  | true =>
    obtain ⟨_, _, rfl, _⟩ := okR_is h
    exact refCover_yes v x y w hx hy h
end Go.Proofs.YtmnemjhkmllniaaGreatDoor
