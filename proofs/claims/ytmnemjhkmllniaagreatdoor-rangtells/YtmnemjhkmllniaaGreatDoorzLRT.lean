/- RangTells: whatever the bytes, numbers and range, the law answers true. -/
import Derived.Test.YtmnemjhkmllniaaGreatDoorzLT1
import Derived.Test.YtmnemjhkmllniaaGreatDoorzRj
import Derived.Test.YtmnemjhkmllniaaGreatDoorzRc
namespace Go.Proofs.YtmnemjhkmllniaaGreatDoor
open Go.ChangeShapes Go.WideShapes Go.RowKit Go.Sort

/-- Four strings, none of them long, lie in block b. -/
def FourS (w : World) (b : Nat) : Prop := ∀ j, j < 4 → ∃ s : Bs, w.cell? ⟨b, j, none⟩ = some (.string (baS s)) ∧ s.length ≤ 1000
theorem fourS_new (w : World) (s0 s1 s2 s3 : Bs) (h0 : s0.length ≤ 1000) (h1 : s1.length ≤ 1000) (h2 : s2.length ≤ 1000) (h3 : s3.length ≤ 1000) : FourS (w.alloc (.cells #[.string (baS s0), .string (baS s1), .string (baS s2), .string (baS s3)] 9)) w.heap.size := fun j hj => by
  rcases (show j = 0 ∨ j = 1 ∨ j = 2 ∨ j = 3 by omega) with rfl | rfl | rfl | rfl
  · exact ⟨s0, by simp [go_sem], h0⟩
  · exact ⟨s1, by simp [go_sem], h1⟩
  · exact ⟨s2, by simp [go_sem], h2⟩
  · exact ⟨s3, by simp [go_sem], h3⟩
/-- Three ranges lie in block b. -/
def ThreeR (w : World) (b : Nat) : Prop := ∀ j, j < 3 → ∃ (v : Int) (x : Nat) (u : Int) (y : Nat), (x < 340282366920938463463374607431768211456 ∧ y < 340282366920938463463374607431768211456) ∧ w.cell? ⟨b, j * 6, none⟩ = some (.int .i64 v) ∧ w.cell? ⟨b, j * 6 + 1, none⟩ = some (.int .u64 (hiQ x)) ∧ w.cell? ⟨b, j * 6 + 2, none⟩ = some (.int .u64 (loQ x)) ∧ w.cell? ⟨b, j * 6 + 3, none⟩ = some (.int .i64 u) ∧ w.cell? ⟨b, j * 6 + 4, none⟩ = some (.int .u64 (hiQ y)) ∧ w.cell? ⟨b, j * 6 + 5, none⟩ = some (.int .u64 (loQ y))
theorem threeR_new (w : World) (v1 u1 v2 u2 v3 u3 : Int) (x1 y1 x2 y2 x3 y3 : Nat) (h1 : x1 < 340282366920938463463374607431768211456 ∧ y1 < 340282366920938463463374607431768211456) (h2 : x2 < 340282366920938463463374607431768211456 ∧ y2 < 340282366920938463463374607431768211456) (h3 : x3 < 340282366920938463463374607431768211456 ∧ y3 < 340282366920938463463374607431768211456) :
    ThreeR (w.alloc (.cells #[.int .i64 v1, .int .u64 (hiQ x1), .int .u64 (loQ x1), .int .i64 u1, .int .u64 (hiQ y1), .int .u64 (loQ y1), .int .i64 v2, .int .u64 (hiQ x2), .int .u64 (loQ x2), .int .i64 u2, .int .u64 (hiQ y2), .int .u64 (loQ y2), .int .i64 v3, .int .u64 (hiQ x3), .int .u64 (loQ x3), .int .i64 u3, .int .u64 (hiQ y3), .int .u64 (loQ y3)] 30)) w.heap.size := fun j hj => by
  rcases (show j = 0 ∨ j = 1 ∨ j = 2 by omega) with rfl | rfl | rfl
  · exact ⟨v1, x1, u1, y1, h1, by simp [go_sem], by simp [go_sem], by simp [go_sem], by simp [go_sem], by simp [go_sem], by simp [go_sem]⟩
  · exact ⟨v2, x2, u2, y2, h2, by simp [go_sem], by simp [go_sem], by simp [go_sem], by simp [go_sem], by simp [go_sem], by simp [go_sem]⟩
  · exact ⟨v3, x3, u3, y3, h3, by simp [go_sem], by simp [go_sem], by simp [go_sem], by simp [go_sem], by simp [go_sem], by simp [go_sem]⟩
theorem rangR_part (r : Option (Nat × Nat × Nat)) : ∃ (a h l b i m : Int) (c : Bool), rangR r = .tuple #[.agg #[.int .i64 a, .int .u64 h, .int .u64 l, .int .i64 b, .int .u64 i, .int .u64 m], .bool c] := by
  cases r with
  | none => exact ⟨_, _, _, _, _, _, _, rfl⟩
  | some p => exact ⟨_, _, _, _, _, _, _, rfl⟩
theorem parseG_b (s : Bs) (w : World) (hg : Gl w) (hs : s.length ≤ 100000) :
    Calls Tryz.prog 9 #[.string (baS s)] w fun e w' => e = .returned (rangR (rangV s)) ∧ Below w.heap.size w w' := parseG_x (baS s) w hg (show s.length < 4294967281 by omega)
set_option maxHeartbeats 32000000 in
set_option maxRecDepth 100000 in
theorem rtells_walk (pr : Option Addr) (raw : Bs) (cr : Nat) (v a b n : Int) (pl : Option Addr) (nl cl : Nat) (xv : Int) (xx : Nat) (xu : Int) (xy : Nat) (c m : Int) (w : World) (hg : Gl w) (hraw : BytesAt w pr raw) (ha : 0 ≤ a ∧ a < 18446744073709551616) (hb : 0 ≤ b ∧ b < 18446744073709551616) (hn : 0 ≤ n ∧ n < 18446744073709551616) (hp : IntsAt w pl nl) (hnl : nl ≤ 9223372036854775807) (hxx : xx < 340282366920938463463374607431768211456 ∧ xy < 340282366920938463463374607431768211456) (_hc : 0 ≤ c ∧ c < 18446744073709551616) :
    Calls Tryz.prog 3 #[.slice pr raw.length cr, .int .i64 v, .int .u64 a, .int .u64 b, .int .u64 n, .slice pl nl cl, rgV xv xx xu xy, .int .u64 c, .int .i64 m] w fun e w' => e = .returned (.bool true) ∧ Below w.heap.size w w' := by
  have HXX := Lib.hid hxx
  have HAB := Lib.hid (And.intro ha (And.intro hb hn))
  obtain ⟨W0, hW0⟩ : ∃ W0, W0 = w.alloc (.cells #[.int .i64 xv, .int .u64 (hiQ xx), .int .u64 (loQ xx), .int .i64 xu, .int .u64 (hiQ xy), .int .u64 (loQ xy)] 30) := ⟨_, rfl⟩
  have B0 : Below w.heap.size w W0 := hW0 ▸ ball (Below.refl _ _)
  have G0 : Gl W0 := hg.below B0
  have X0 : Rl W0 w.heap.size xv (hiQ xx) (loQ xx) xu (hiQ xy) (loQ xy) := hW0 ▸ rl_new w _ _ _ _ _ _
  have R0 := hraw.below B0
  have I0 := hp.below B0
  clear hxx ha hb hn _hc hg hraw hp
  by_cases h100 : 100 < raw.length
  · have h1 : (100 : Int) < raw.length := by omega
    have h2 : decide ((raw.length : Int) > 100) = true := decide_eq_true h1
    clear h100
    go_enter Tryz.func3, Tryz.ntmps3
    go_wp2_with fail
    rw [← hW0]
    clear hW0
    refine (awake4_x _ G0).mono ?_
    rintro e w1 ⟨rfl, hb1⟩
    have B1 := below_next B0 hb1
    go_wp2
    go_ret
    exact ⟨rfl, B1⟩
  · have h1 : ¬ ((100 : Int) < raw.length) := by omega
    have HRL : Hid (raw.length ≤ 1000) := by show _ ≤ _; omega
    have HRg := Lib.hid (fun w b' (h : 0 ≤ b' ∧ b' < 18446744073709551616) => rang_x v a b' n w HAB.out.1 h HAB.out.2.2)
    have HPre := Lib.hid (fun w => pre_x v a b m w HAB.out.1 HAB.out.2.1)
    go_enter Tryz.func3, Tryz.ntmps3
    go_wp2_with fail
    rw [← hW0]
    clear hW0 h100
    refine (HRg.out _ _ HAB.out.2.1).mono ?_
    rintro e w1 ⟨⟨ru, rx, ry, rfl, hok1, hrx, hry, _⟩, hb1⟩
    go_wp2_with fail
    refine (HRg.out _ _ (xor_in _ _)).mono ?_
    rintro e w2 ⟨⟨su, sx, sy, rfl, hok2, hsx, hsy, _⟩, hb2⟩
    obtain ⟨W2, hW2⟩ : ∃ W2, W2 = (w2.alloc (.cells #[.int .i64 ru, .int .u64 (hiQ rx), .int .u64 (loQ rx), .int .i64 ru, .int .u64 (hiQ ry), .int .u64 (loQ ry)] 30)).alloc (.cells #[.int .i64 su, .int .u64 (hiQ sx), .int .u64 (loQ sx), .int .i64 su, .int .u64 (hiQ sy), .int .u64 (loQ sy)] 30) := ⟨_, rfl⟩
    have RR : Rl W2 w2.heap.size ru (hiQ rx) (loQ rx) ru (hiQ ry) (loQ ry) := hW2 ▸ (rl_new w2 _ _ _ _ _ _).alloc _
    have SS : Rl W2 (w2.heap.size + 1) su (hiQ sx) (loQ sx) su (hiQ sy) (loQ sy) := by
      have := rl_new (w2.alloc (.cells #[.int .i64 ru, .int .u64 (hiQ rx), .int .u64 (loQ rx), .int .i64 ru, .int .u64 (hiQ ry), .int .u64 (loQ ry)] 30)) su (hiQ sx) (loQ sx) su (hiQ sy) (loQ sy)
      rw [World.size_alloc, ← hW2] at this; exact this
    have K2 : Below w2.heap.size w2 W2 := hW2 ▸ ball (ball (Below.refl _ _))
    go_wp2_with fail
    rw [← hW2]
    clear hW2
    refine (HPre.out _).mono ?_
    rintro e w3 ⟨⟨qv, qx, qn, rfl, hoq, hqx⟩, hb3⟩
    have HB := Lib.hid (And.intro (And.intro hrx hry) (And.intro (And.intro hsx hsy) hqx))
    have K3 := ball (o := .cells #[.int .i64 qv, .int .u64 (hiQ qx), .int .u64 (loQ qx), .int .i64 qn] 34) hb3
    have KA : Below W0.heap.size W0 _ := below_next (below_next (below_next hb1 hb2) K2) K3
    have B1 := below_next B0 KA
    have G1 := G0.below KA
    have X1 := X0.below KA
    have R1 := R0.below KA
    have I1 := I0.below KA
    have RR1 := RR.below K3
    have SS1 := SS.below K3
    have Q1 := pl_new w3 qv (hiQ qx) (loQ qx) qn
    clear hok1 hok2 hrx hry hsx hsy hoq hqx B0 G0 X0 R0 I0 RR SS KA K3 K2 hb1 hb2 hb3 HRg HPre
    go_upto_region 5 with fail
    generalize w3.alloc (.cells #[.int .i64 qv, .int .u64 (hiQ qx), .int .u64 (loQ qx), .int .i64 qn] 34) = X at *
    generalize w3.heap.size = E at *
    generalize w2.heap.size = D at *
    have HT := Lib.hid (fun w p n c (h : IntsAt w p n) (h' : n ≤ 9223372036854775807) => text_x v a b p n c w HAB.out.1 HAB.out.2.1 h h')
    have HI1 : Hid (∀ w, Below X.heap.size X w → IntsAt w pl nl) := fun w h => I1.below h
    have HI0 : Hid (∀ w, IntsAt w none 0) := fun w j hj => absurd hj (Nat.not_lt_zero _)
    have HPP := Lib.hid (fun w => refPrintR_x ru rx ru ry w HB.out.1.1 HB.out.1.2)
    have HPl := Lib.hid (tellR_len ru rx ru ry)
    generalize tellR ru rx ru ry = TP at *
    have HS : Hid (∀ w', Below X.heap.size X w' → w'.cell? ⟨D, 0, none⟩ = some (.int .i64 ru) ∧ w'.cell? ⟨D, 1, none⟩ = some (.int .u64 (hiQ rx)) ∧ w'.cell? ⟨D, 2, none⟩ = some (.int .u64 (loQ rx)) ∧ w'.cell? ⟨D, 3, none⟩ = some (.int .i64 ru) ∧ w'.cell? ⟨D, 4, none⟩ = some (.int .u64 (hiQ ry)) ∧ w'.cell? ⟨D, 5, none⟩ = some (.int .u64 (loQ ry)) ∧ (convert 22 9 (.slice pr raw.length cr)).run Tryz.prog w' = .ok (.string (baS raw)) w') := fun w' h => by
      have := RR1.below h
      exact ⟨this.c0, this.c1, this.c2, this.c3, this.c4, this.c5, conv_bytes cr (R1.below h)⟩
    go_cut [74, 75, 76] (fun s l z wx => ∃ H, s = .slice (some ⟨H, 0, none⟩) 4 4 ∧ l = .int .i64 4 ∧ z = .int .i64 0 ∧ H < wx.heap.size ∧ FourS wx H ∧ Below X.heap.size X wx)
    case first =>
     as_aux_lemma =>
      have C8 : Below X.heap.size X X := Below.refl _ _
      go_region_held3 (fun w' => w'.cell? ⟨D, 0, none⟩ = some (.int .i64 ru) ∧ w'.cell? ⟨D, 1, none⟩ = some (.int .u64 (hiQ rx)) ∧ w'.cell? ⟨D, 2, none⟩ = some (.int .u64 (loQ rx)) ∧ w'.cell? ⟨D, 3, none⟩ = some (.int .i64 ru) ∧ w'.cell? ⟨D, 4, none⟩ = some (.int .u64 (hiQ ry)) ∧ w'.cell? ⟨D, 5, none⟩ = some (.int .u64 (loQ ry)) ∧ (convert 22 9 (.slice pr raw.length cr)).run Tryz.prog w' = .ok (.string (baS raw)) w') (exact HS.out _ (by repeat (first | exact C8 | apply Below.drew | apply ball)))
        (first
          | (go_at_call 7; refine (HPP.out _).mono ?_; rintro e w8 ⟨rfl, hb8⟩; have C8 : Below X.heap.size X w8 := below_next (by repeat (first | exact C8 | apply Below.drew | apply ball)) hb8)
          | (go_at_call 8; have hyes := ht8; refine Calls.mono (HT.out _ _ _ _ ?_ ?_) ?_; (focus (refine HI1.out _ ?_; repeat (first | exact C8 | apply Below.drew | apply ball))); (focus (exact hnl)); intro e w8 hh; have hb8 := hh.2; have hT := hh.1; clear hh; obtain ⟨u8, he, hu8⟩ := hT; subst he; have C8 : Below X.heap.size X w8 := below_next (by repeat (first | exact C8 | apply Below.drew | apply ball)) hb8)
          | (go_at_call 8; have hyes := hs8; refine Calls.mono (HT.out _ _ _ _ ?_ ?_) ?_; (focus (refine HI1.out _ ?_; repeat (first | exact C8 | apply Below.drew | apply ball))); (focus (exact hnl)); intro e w8 hh; have hb8 := hh.2; have hT := hh.1; clear hh; obtain ⟨t8, he, ht8⟩ := hT; subst he; have ha2 := addS (s8 ++ [45]) t8 (by simp; omega) (by omega); have C8 : Below X.heap.size X w8 := below_next (by repeat (first | exact C8 | apply Below.drew | apply ball)) hb8)
          | (go_at_call 8; refine Calls.mono (HT.out _ _ _ _ ?_ ?_) ?_; (focus (exact HI0.out _)); (focus (omega)); intro e w8 hh; have hb8 := hh.2; have hT := hh.1; clear hh; obtain ⟨s8, he, hs8⟩ := hT; subst he; have ha1 : ∀ V, (Op.stringOp .add (baS s8) ⟨#[45]⟩).run Tryz.prog V = .ok (.string (baS (s8 ++ [45]))) V := addS s8 [45] (by omega) (by decide); have C8 : Below X.heap.size X w8 := below_next (by repeat (first | exact C8 | apply Below.drew | apply ball)) hb8))
      all_goals
        go_wp2_with fail
        go_meet
      all_goals exact ⟨_, rfl, rfl, rfl, by simp, fourS_new _ _ _ _ _ HRL.out (by have := HPl.out; omega) (by simp; omega) (by omega), ball C8⟩
    case rest =>
      obtain ⟨H, rfl, rfl, rfl, hH, hF, KX⟩ := hcut
      have BX := below_next B1 KX
      have GX := Lib.hid (G1.below KX)
      have XX := X1.below KX
      have RX := RR1.below KX
      have SX := SS1.below KX
      have QX := Q1.below KX
      have HF := Lib.hid hF
      clear hF G1 X1 RR1 SS1 R1 I1 Q1 B1 KX HT HI1 HI0 HPP HS
      go_upto_block 0 with fail
      go_cut [76] (fun _ wx => Below wc.heap.size wc wx)
      case first =>
       as_aux_lemma =>
        go_wp2_with fail
        go_loopw [76] (fun iv wr => ∃ (i : Nat), iv = .int .i64 i ∧ i ≤ 4 ∧ Below wc.heap.size wc wr)
          (fun iv _ => 4 - (intOf iv).toNat)
        case atStart => exact ⟨0, rfl, by omega, Below.refl _ _⟩
        case round =>
          obtain ⟨i, rfl, hi, hbr⟩ := hrel
          by_cases hi4 : i < 4
          · have hi0 : (i : Int) < 4 := by omega
            have hi1 : (0 : Int) ≤ i := by omega
            obtain ⟨s, hs, hsl⟩ := HF.out i hi4
            have e0 := (olds hbr H i hH).trans hs
            have HPs := Lib.hid (fun w hg => parseG_b s w hg (by omega))
            have HRf := Lib.hid (fun w => refRange_x s w (by omega))
            obtain ⟨a1, h1', l1, a2, h2', l2, b1, hr⟩ := rangR_part (rangV s)
            rw [hr] at HPs HRf
            clear hs hsl hr
            go_wp2_with fail
            refine (HPs.out _ (GX.out.below hbr)).mono ?_
            rintro e w4 ⟨rfl, hb4⟩
            have B4 := below_next hbr hb4
            clear e0
            go_wp2_with fail
            refine (HRf.out _).mono ?_
            rintro e w5 ⟨rfl, hb5⟩
            have B5 := below_next (ball B4) hb5
            obtain ⟨p0, p1, p2, p3, p4, p5, plt⟩ := (rl_new w4 a1 h1' l1 a2 h2' l2).below hb5
            clear hb4 hb5 HPs HRf
            go_wp2
            go_roundw
            case rel => exact ⟨i + 1, by go_num, by omega, ball B5⟩
            case measure => simp [intOf]; omega
          · obtain rfl : i = 4 := by omega
            go_wp2_with fail
            go_meet
            exact hbr
      case rest =>
        have B2 := below_next BX hcut
        have G2 := Lib.hid (GX.out.below hcut)
        have X2 := XX.below hcut
        have R2 := RX.below hcut
        have S2 := SX.below hcut
        have Q2 := QX.below hcut
        clear BX GX XX RX SX QX hcut HF hH
        obtain ⟨x0, x1, x2, x3, x4, x5, xl⟩ := id X2
        obtain ⟨r0, r1, r2, r3, r4, r5, rl⟩ := id R2
        obtain ⟨s0, s1, s2, s3, s4, s5, sl⟩ := id S2
        obtain ⟨U, hU⟩ : ∃ U, U = wc.alloc (.cells #[.int .i64 xv, .int .u64 (hiQ xx), .int .u64 (loQ xx), .int .i64 xu, .int .u64 (hiQ xy), .int .u64 (loQ xy), .int .i64 ru, .int .u64 (hiQ rx), .int .u64 (loQ rx), .int .i64 ru, .int .u64 (hiQ ry), .int .u64 (loQ ry), .int .i64 su, .int .u64 (hiQ sx), .int .u64 (loQ sx), .int .i64 su, .int .u64 (hiQ sy), .int .u64 (loQ sy)] 30) := ⟨_, rfl⟩
        have hT0 := threeR_new wc xv xu ru ru su su xx xy rx ry sx sy HXX.out HB.out.1 HB.out.2.1
        have KU : Below wc.heap.size wc U := by rw [hU]; exact ball (Below.refl _ _)
        have hHU : wc.heap.size < U.heap.size := by rw [hU]; simp
        rw [← hU] at hT0
        have HT0 := Lib.hid hT0
        have GU := Lib.hid (G2.out.below KU)
        have RU := R2.below KU
        have QU := Q2.below KU
        have BU := below_next B2 KU
        go_upto_block 2 with fail
        rw [← hU]
        generalize wc.heap.size = H2 at *
        clear hU x0 x1 x2 x3 x4 x5 xl r0 r1 r2 r3 r4 r5 rl s0 s1 s2 s3 s4 s5 sl X2 R2 S2 Q2 G2 B2 KU hT0
        go_wp2_with fail
        go_loopw [104] (fun iv wr => ∃ (i : Nat), iv = .int .i64 i ∧ i ≤ 3 ∧ Below U.heap.size U wr)
          (fun iv _ => 3 - (intOf iv).toNat)
        case atStart => exact ⟨0, rfl, by omega, Below.refl _ _⟩
        case round =>
          obtain ⟨i, rfl, hi, hbr⟩ := hrel
          by_cases hi3 : i < 3
          · have hi0 : (i : Int) < 3 := by omega
            have hi1 : (0 : Int) ≤ i := by omega
            obtain ⟨yv, yx, yu, yy, hyb, c0, c1, c2, c3, c4, c5⟩ := HT0.out i hi3
            obtain ⟨kc, lc⟩ := keep hbr H2 hHU
            have e0 := (kc _).trans c0; have e1 := (kc _).trans c1; have e2 := (kc _).trans c2; have e3 := (kc _).trans c3; have e4 := (kc _).trans c4; have e5 := (kc _).trans c5
            obtain ⟨Z, hZ⟩ : ∃ Z, Z = wr.alloc (.cells #[.int .i64 yv, .int .u64 (hiQ yx), .int .u64 (loQ yx), .int .i64 yu, .int .u64 (hiQ yy), .int .u64 (loQ yy)] 30) := ⟨_, rfl⟩
            have YZ : Rl Z wr.heap.size yv (hiQ yx) (loQ yx) yu (hiQ yy) (loQ yy) := hZ ▸ rl_new wr _ _ _ _ _ _
            have KZ : Below wr.heap.size wr Z := hZ ▸ ball (Below.refl _ _)
            have RZ := (RU.below hbr).below KZ
            have QZ := (QU.below hbr).below KZ
            have GZ := Lib.hid ((GU.out.below hbr).below KZ)
            have BZ := below_next hbr KZ
            have HYB := Lib.hid hyb
            clear c0 c1 c2 c3 c4 c5 kc lc hyb KZ
            have K1 := Lib.hid (fun w hg => printG_x yv yx yu yy w hg HYB.out.1 HYB.out.2)
            have K2 := Lib.hid (fun w => refPrintR_x yv yx yu yy w HYB.out.1 HYB.out.2)
            have K3 := Lib.hid (fun w => okRang_x yv yx yu yy w)
            have K4 := Lib.hid (fun w => refOkR_x yv yx yu yy w HYB.out.1 HYB.out.2)
            have K5 := Lib.hid (fun w => inRang_x yv yx yu yy qv qx qn w HYB.out.1 HYB.out.2 HB.out.2.2)
            have K6 := Lib.hid (fun w => refIn_x yv yx yu yy qv qx qn w HYB.out.1 HYB.out.2 HB.out.2.2)
            have K7 := Lib.hid (fun w => overRang_x yv yx yu yy ru rx ru ry w)
            have K8 := Lib.hid (fun w => refOverR_x yv yx yu yy ru rx ru ry w HYB.out.1 HYB.out.2 HB.out.1.1 HB.out.1.2)
            have K9 := Lib.hid (fun w => lessRang_x yv yx yu yy ru rx ru ry w)
            have K10 := Lib.hid (fun w => refLessR_x yv yx yu yy ru rx ru ry w HYB.out.1 HYB.out.2 HB.out.1.1 HB.out.1.2)
            have K11 := Lib.hid (fun w ht => cover_x yv yx yu yy w ht HYB.out.1 HYB.out.2)
            have K12 := Lib.hid (fun w => refCover_x yv yx yu yy w HYB.out.1 HYB.out.2)
            have hcn := Lib.hid (coverR_count (v := yv) (x := yx) (u := yu) HYB.out.2)
            generalize tellR yv yx yu yy = T at *
            generalize coverR yv yx yu yy = L at *
            generalize okR yv yx yu yy = t1 at *
            generalize inR yv yx yu yy qv qx qn = t2 at *
            generalize overR yv yx yu yy ru rx ru ry = t3 at *
            generalize lessR yv yx yu yy ru rx ru ry = t4 at *
            have y0 := cell_regrown YZ.c0; have y1 := cell_regrown YZ.c1; have y2 := cell_regrown YZ.c2; have y3 := cell_regrown YZ.c3; have y4 := cell_regrown YZ.c4; have y5 := cell_regrown YZ.c5
            have r0 := cell_regrown RZ.c0; have r1 := cell_regrown RZ.c1; have r2 := cell_regrown RZ.c2; have r3 := cell_regrown RZ.c3; have r4 := cell_regrown RZ.c4; have r5 := cell_regrown RZ.c5
            have q0 := cell_regrown QZ.c0; have q1 := cell_regrown QZ.c1; have q2 := cell_regrown QZ.c2; have q3 := cell_regrown QZ.c3
            go_wp2_with fail
            rw [← hZ]
            clear hZ e0 e1 e2 e3 e4 e5
            refine wp_region_quiet_below (by kernel_rfl) (by kernel_rfl) ?_
            repeat (go_big_quiet_step (first
              | (go_at_call 11; exact Calls.regrown_of (K1.out _ (GZ.out.below (below_regrown Z _ _))))
              | (go_at_call 7; exact Calls.regrown_of (K2.out _))
              | (go_at_call 12; exact Calls.regrown_of (K3.out _))
              | (go_at_call 13; exact Calls.regrown_of (K4.out _))
              | (go_at_call 14; exact Calls.regrown_of (K5.out _))
              | (go_at_call 15; exact Calls.regrown_of (K6.out _))
              | (go_at_call 16; exact Calls.regrown_of (K7.out _))
              | (go_at_call 17; exact Calls.regrown_of (K8.out _))
              | (go_at_call 18; exact Calls.regrown_of (K9.out _))
              | (go_at_call 19; exact Calls.regrown_of (K10.out _))))
            refine wpQuiet_nil ?_
            intro _ hw'
            obtain ⟨⟨dq, osq⟩, hw''⟩ := hw'
            subst hw''
            have YV := YZ.below (below_regrown Z dq osq)
            have GV := Lib.hid (GZ.out.below (below_regrown Z dq osq))
            have BV := below_next BZ (below_regrown Z dq osq)
            generalize grow (redrawn Z dq) osq = V at *
            generalize wr.heap.size = F at *
            clear y0 y1 y2 y3 y4 y5 r0 r1 r2 r3 r4 r5 q0 q1 q2 q3 YZ RZ QZ GZ BZ K1 K2 K3 K4 K5 K6 K7 K8 K9 K10
            obtain ⟨y0, y1, y2, y3, y4, y5, ylt⟩ := id YV
            go_upto_region 18 with fail
            go_cut [30, 31] (fun f g wx => ∃ p c p' c', f = .slice p L.length c ∧ g = .slice p' L.length c' ∧ (L = [] ∨ ∃ b b', p = some ⟨b, 0, none⟩ ∧ p' = some ⟨b', 0, none⟩ ∧ b < wx.heap.size ∧ b' < wx.heap.size ∧ RowP wx b yu L ∧ RowP wx b' yu L) ∧ Below V.heap.size V wx)
            case first =>
             as_aux_lemma =>
              go_region_held3 (fun w' => w'.cell? ⟨F, 0, none⟩ = some (.int .i64 yv) ∧ w'.cell? ⟨F, 1, none⟩ = some (.int .u64 (hiQ yx)) ∧ w'.cell? ⟨F, 2, none⟩ = some (.int .u64 (loQ yx)) ∧ w'.cell? ⟨F, 3, none⟩ = some (.int .i64 yu) ∧ w'.cell? ⟨F, 4, none⟩ = some (.int .u64 (hiQ yy)) ∧ w'.cell? ⟨F, 5, none⟩ = some (.int .u64 (loQ yy))) (go_keep)
                (first
                  | (go_at_call 20; refine (K11.out _ (GV.out.below (by repeat (first | exact Below.refl _ _ | apply Below.drew))).tz).mono ?_; rintro e w8 ⟨hb8, p8, c8, rfl, hc8, hr8⟩; have C8 : Below V.heap.size V w8 := below_next (by repeat (first | exact Below.refl _ _ | apply Below.drew)) hb8; obtain ⟨k8, l8⟩ := keep C8 F ylt)
                  | (go_at_call 21; refine (K12.out _).mono ?_; rintro e w9 ⟨hb9, p9, c9, rfl, hc9, hr9⟩; have M9 : Below w8.heap.size w8 w9 := below_next (by repeat (first | exact Below.refl _ _ | apply Below.drew)) hb9; have C9 : Below V.heap.size V w9 := below_next C8 M9; obtain ⟨k9, l9⟩ := keep C9 F ylt))
              all_goals
                go_wp2_with fail
                go_meet
              all_goals
                refine ⟨p8, c8, p9, c9, rfl, rfl, ?_, C9⟩
                rcases hr8 with ⟨h, _⟩ | ⟨b8, e8, _, hl8, hR8⟩
                · exact Or.inl h
                · rcases hr9 with ⟨h, _⟩ | ⟨b9, e9, _, hl9, hR9⟩
                  · exact Or.inl h
                  · exact Or.inr ⟨b8, b9, e8, e9, Nat.lt_of_lt_of_le hl8 M9.size, hl9, hR8.below M9 hl8, hR9⟩
            case rest =>
              obtain ⟨p8, c8, p9, c9, rfl, rfl, hrows, KC⟩ := hcut
              have HRo := Lib.hid hrows
              have BC := below_next BV KC
              have hk258 := hcn.out
              clear hrows KC y0 y1 y2 y3 y4 y5 ylt YV GV BV K11 K12
              obtain ⟨k, hkL⟩ : ∃ k, L.length = k := ⟨_, rfl⟩
              rw [hkL] at hk258 ⊢
              go_wp2_with fail
              go_loopw [158] (fun iv wx => ∃ (j : Nat), iv = .int .i64 j ∧ j ≤ k ∧ Below wc.heap.size wc wx)
                (fun iv _ => k - (intOf iv).toNat)
              case atStart => exact ⟨0, rfl, by omega, Below.refl _ _⟩
              case round =>
                obtain ⟨j, rfl, hj, hbj⟩ := hrel
                by_cases hjk : j < k
                · have hjL : j < L.length := by omega
                  obtain ⟨a2, k2, hak⟩ : ∃ a2 k2, L[j]? = some (a2, k2) := ⟨(L[j]'hjL).1, (L[j]'hjL).2, List.getElem?_eq_getElem hjL⟩
                  rcases HRo.out with h0 | ⟨b8, b9, rfl, rfl, hl8, hl9, hR8, hR9⟩
                  · exfalso; rw [h0] at hkL; simp at hkL; omega
                  · obtain ⟨f0, f1, f2, f3⟩ := (hR8.below hbj hl8) j a2 k2 hak
                    obtain ⟨g0, g1, g2, g3⟩ := (hR9.below hbj hl9) j a2 k2 hak
                    have hx1 := ixP b8 k c8 j hjk
                    have hx2 := ixP b9 k c9 j hjk
                    have hj0 : (j : Int) < k := by omega
                    clear hR8 hR9 hak hjL hl8 hl9
                    generalize (bitsV yu : Int) - k2 = n2 at *
                    go_wp2_with fail
                    go_quiet (fail)
                    go_wp2
                    go_roundw
                    case rel => exact ⟨j + 1, by go_num, by omega, bdrew hbj _⟩
                    case measure => simp [intOf]; omega
                · obtain rfl : j = k := by omega
                  have B9 := below_next BC hbj
                  go_wp2
                  go_roundw
                  case rel => exact ⟨i + 1, by go_num, by omega, B9⟩
                  case measure => simp [intOf]; omega
          · obtain rfl : i = 3 := by omega
            have B5 := below_next BU hbr
            have G5 := GU.out.below hbr
            go_wp2_with fail
            refine (awake4_x _ G5).mono ?_
            rintro e w5 ⟨rfl, hb5⟩
            go_wp2
            go_ret
            exact ⟨rfl, below_next B5 hb5⟩
end Go.Proofs.YtmnemjhkmllniaaGreatDoor
