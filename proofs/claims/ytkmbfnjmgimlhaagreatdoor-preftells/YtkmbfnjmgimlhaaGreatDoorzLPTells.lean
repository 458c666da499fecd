/- PrefTells: whatever the bytes, numbers, prefix and address, the law answers true. -/
import Derived.Test.YtkmbfnjmgimlhaaGreatDoorzLT1
namespace Go.Proofs.YtkmbfnjmgimlhaaGreatDoor
open Go.ChangeShapes Go.WideShapes Go.RowKit Go.Sort

/-- Four strings, none of them long, lie in block b. -/
def Four (w : World) (b : Nat) : Prop := ∀ j, j < 4 → ∃ s : Bs, w.cell? ⟨b, j, none⟩ = some (.string (baS s)) ∧ s.length ≤ 1000
theorem four_at {w : World} {b : Nat} {s0 s1 s2 s3 : Bs} (c0 : w.cell? ⟨b, 0, none⟩ = some (.string (baS s0))) (c1 : w.cell? ⟨b, 1, none⟩ = some (.string (baS s1))) (c2 : w.cell? ⟨b, 2, none⟩ = some (.string (baS s2))) (c3 : w.cell? ⟨b, 3, none⟩ = some (.string (baS s3)))
    (h0 : s0.length ≤ 1000) (h1 : s1.length ≤ 1000) (h2 : s2.length ≤ 1000) (h3 : s3.length ≤ 1000) : Four w b := fun j hj => by
  rcases (show j = 0 ∨ j = 1 ∨ j = 2 ∨ j = 3 by omega) with rfl | rfl | rfl | rfl
  · exact ⟨s0, c0, h0⟩
  · exact ⟨s1, c1, h1⟩
  · exact ⟨s2, c2, h2⟩
  · exact ⟨s3, c3, h3⟩
theorem four_new4 (w : World) (s0 s1 s2 s3 : Bs) (h0 : s0.length ≤ 1000) (h1 : s1.length ≤ 1000) (h2 : s2.length ≤ 1000) (h3 : s3.length ≤ 1000) : Four (w.alloc (.cells #[.string (baS s0), .string (baS s1), .string (baS s2), .string (baS s3)] 9)) w.heap.size :=
  four_at (by simp [go_sem]) (by simp [go_sem]) (by simp [go_sem]) (by simp [go_sem]) h0 h1 h2 h3
/-- Three prefixes lie in block b. -/
def Three (w : World) (b : Nat) : Prop := ∀ j, j < 3 → ∃ (v : Int) (x : Nat) (n : Int), x < 340282366920938463463374607431768211456 ∧ w.cell? ⟨b, j * 4, none⟩ = some (.int .i64 v) ∧ w.cell? ⟨b, j * 4 + 1, none⟩ = some (.int .u64 (hiQ x)) ∧ w.cell? ⟨b, j * 4 + 2, none⟩ = some (.int .u64 (loQ x)) ∧ w.cell? ⟨b, j * 4 + 3, none⟩ = some (.int .i64 n)
theorem three_new (w : World) (v1 v2 v3 n1 n2 n3 : Int) (x1 x2 x3 : Nat) (h1 : x1 < 340282366920938463463374607431768211456) (h2 : x2 < 340282366920938463463374607431768211456) (h3 : x3 < 340282366920938463463374607431768211456) :
    Three (w.alloc (.cells #[.int .i64 v1, .int .u64 (hiQ x1), .int .u64 (loQ x1), .int .i64 n1, .int .i64 v2, .int .u64 (hiQ x2), .int .u64 (loQ x2), .int .i64 n2, .int .i64 v3, .int .u64 (hiQ x3), .int .u64 (loQ x3), .int .i64 n3] 30)) w.heap.size := fun j hj => by
  rcases (show j = 0 ∨ j = 1 ∨ j = 2 by omega) with rfl | rfl | rfl
  · exact ⟨v1, x1, n1, h1, by simp [go_sem], by simp [go_sem], by simp [go_sem], by simp [go_sem]⟩
  · exact ⟨v2, x2, n2, h2, by simp [go_sem], by simp [go_sem], by simp [go_sem], by simp [go_sem]⟩
  · exact ⟨v3, x3, n3, h3, by simp [go_sem], by simp [go_sem], by simp [go_sem], by simp [go_sem]⟩
set_option maxHeartbeats 32000000 in
set_option maxRecDepth 100000 in
theorem ptells_walk (pr : Option Addr) (raw : Bs) (cr : Nat) (v a b n : Int) (pl : Option Addr) (nl cl : Nat) (pv : Int) (px : Nat) (pn : Int) (xv : Int) (xx : Nat) (w : World) (hg : Gl w) (hraw : BytesAt w pr raw) (ha : 0 ≤ a ∧ a < 18446744073709551616) (hb : 0 ≤ b ∧ b < 18446744073709551616) (hp : IntsAt w pl nl) (hnl : nl ≤ 9223372036854775807) (hpx : px < 340282366920938463463374607431768211456) (hxx : xx < 340282366920938463463374607431768211456) :
    Calls Tryz.prog 3 #[.slice pr raw.length cr, .int .i64 v, .int .u64 a, .int .u64 b, .int .i64 n, .slice pl nl cl, .agg #[.int .i64 pv, .int .u64 (hiQ px), .int .u64 (loQ px), .int .i64 pn], .agg #[.int .i64 xv, .int .u64 (hiQ xx), .int .u64 (loQ xx)]] w fun e w' => e = .returned (.bool true) ∧ Below w.heap.size w w' := by
  have HPX := Lib.hid hpx
  have HXX := Lib.hid hxx
  have HAB := Lib.hid (And.intro ha hb)
  obtain ⟨W0, hW0⟩ : ∃ W0, W0 = (w.alloc (.cells #[.int .i64 pv, .int .u64 (hiQ px), .int .u64 (loQ px), .int .i64 pn] 30)).alloc (.cells #[.int .i64 xv, .int .u64 (hiQ xx), .int .u64 (loQ xx)] 28) := ⟨_, rfl⟩
  have B0 : Below w.heap.size w W0 := hW0 ▸ below2 _ _ _
  have G0 : Gl W0 := hg.below B0
  have P0 : Pl W0 w.heap.size pv (hiQ px) (loQ px) pn := hW0 ▸ (pl_new w _ _ _ _).alloc _
  have X0 : Cl W0 (w.heap.size + 1) xv (hiQ xx) (loQ xx) := by
    have := cl_new (w.alloc (.cells #[.int .i64 pv, .int .u64 (hiQ px), .int .u64 (loQ px), .int .i64 pn] 30)) xv (hiQ xx) (loQ xx)
    rw [World.size_alloc, ← hW0] at this; exact this
  have R0 := hraw.below B0
  have I0 := hp.below B0
  clear hpx hxx ha hb hg hraw hp
  by_cases h100 : 100 < raw.length
  · have h1 : (100 : Int) < raw.length := by omega
    have h2 : decide ((raw.length : Int) > 100) = true := decide_eq_true h1
    clear h100
    go_enter Tryz.func3, Tryz.ntmps3
    go_wp2_with fail
    rw [← hW0]
    clear hW0
    refine (awake3_x _ G0).mono ?_
    rintro e w1 ⟨rfl, hb1⟩
    have B1 := below_next B0 hb1
    go_wp2
    go_ret
    exact ⟨rfl, B1⟩
  · have h1 : ¬ ((100 : Int) < raw.length) := by omega
    have HRL : Hid (raw.length ≤ 1000) := by show _ ≤ _; omega
    have HPre := Lib.hid (fun w => pre_x v a b n w HAB.out.1 HAB.out.2)
    go_enter Tryz.func3, Tryz.ntmps3
    go_wp2_with fail
    rw [← hW0]
    clear hW0 h100
    refine (HPre.out _).mono ?_
    rintro e w1 ⟨⟨qv, qx, qn, rfl, hoq, hqx⟩, hb1⟩
    have HQ := Lib.hid (And.intro hoq hqx)
    have B1 := ball (o := .cells #[.int .i64 qv, .int .u64 (hiQ qx), .int .u64 (loQ qx), .int .i64 qn] 30) (below_next B0 hb1)
    have K1 := ball (o := .cells #[.int .i64 qv, .int .u64 (hiQ qx), .int .u64 (loQ qx), .int .i64 qn] 30) hb1
    have G1 := G0.below K1
    have P1 := P0.below K1
    have X1 := X0.below K1
    have R1 := R0.below K1
    have I1 := I0.below K1
    have Q1 := pl_new w1 qv (hiQ qx) (loQ qx) qn
    clear hoq hqx B0 G0 P0 X0 R0 I0 hb1 K1
    obtain ⟨m, hm, hmm, hz⟩ := and255_nat n
    clear hz
    have hcm : IntKind.u64.wrap (m : Int) = (m : Int) := by rw [IntKind.wrap_u64]; omega
    have HM := Lib.hid hm
    go_upto_region 4 with fail
    generalize w1.alloc (.cells #[.int .i64 qv, .int .u64 (hiQ qx), .int .u64 (loQ qx), .int .i64 qn] 30) = X at *
    generalize w1.heap.size = E at *
    have HT := Lib.hid (fun w p n c (h : IntsAt w p n) (h' : n ≤ 9223372036854775807) => text_x v a b p n c w HAB.out.1 HAB.out.2 h h')
    have HI1 : Hid (∀ w, Below X.heap.size X w → IntsAt w pl nl) := fun w h => I1.below h
    have HI0 : Hid (∀ w, IntsAt w none 0) := fun w j hj => absurd hj (Nat.not_lt_zero _)
    have HPP := Lib.hid (fun w => refPrintP_x qv qx qn w HQ.out.2)
    have HTx := Lib.hid (fun w => textE_x m w HM.out)
    have hdl := (decS_len m).2
    have HDl := Lib.hid hdl
    have HPl := Lib.hid (tellP_len qv qx qn)
    generalize tellP qv qx qn = TP at *
    generalize decS m = D at *
    have HS : Hid (∀ w', Below X.heap.size X w' → w'.cell? ⟨E, 0, none⟩ = some (.int .i64 qv) ∧ w'.cell? ⟨E, 1, none⟩ = some (.int .u64 (hiQ qx)) ∧ w'.cell? ⟨E, 2, none⟩ = some (.int .u64 (loQ qx)) ∧ w'.cell? ⟨E, 3, none⟩ = some (.int .i64 qn) ∧ (convert 22 9 (.slice pr raw.length cr)).run Tryz.prog w' = .ok (.string (baS raw)) w') := fun w' h => by
      have := Q1.below h
      exact ⟨this.c0, this.c1, this.c2, this.c3, conv_bytes cr (R1.below h)⟩
    clear hdl hm
    go_cut [68, 69, 70] (fun s l z wx => ∃ H, s = .slice (some ⟨H, 0, none⟩) 4 4 ∧ l = .int .i64 4 ∧ z = .int .i64 0 ∧ H < wx.heap.size ∧ Four wx H ∧ Below X.heap.size X wx)
    case first =>
     as_aux_lemma =>
      have C8 : Below X.heap.size X X := Below.refl _ _
      go_region_held3 (fun w' => w'.cell? ⟨E, 0, none⟩ = some (.int .i64 qv) ∧ w'.cell? ⟨E, 1, none⟩ = some (.int .u64 (hiQ qx)) ∧ w'.cell? ⟨E, 2, none⟩ = some (.int .u64 (loQ qx)) ∧ w'.cell? ⟨E, 3, none⟩ = some (.int .i64 qn) ∧ (convert 22 9 (.slice pr raw.length cr)).run Tryz.prog w' = .ok (.string (baS raw)) w') (exact HS.out _ (by repeat (first | exact C8 | apply Below.drew | apply ball)))
        (first
          | (go_at_call 11; refine (HPP.out _).mono ?_; rintro e w8 ⟨rfl, hb8⟩; have C8 : Below X.heap.size X w8 := below_next (by repeat (first | exact C8 | apply Below.drew | apply ball)) hb8)
          | (go_at_call 13; refine (HTx.out _).mono ?_; rintro e w8 ⟨rfl, hb8⟩; have C8 : Below X.heap.size X w8 := below_next (by repeat (first | exact C8 | apply Below.drew | apply ball)) hb8)
          | (go_at_call 12; refine Calls.mono (HT.out _ _ _ _ ?_ ?_) ?_; (focus (first | exact HI0.out _ | (refine HI1.out _ ?_; repeat (first | exact C8 | apply Below.drew | apply ball)))); (focus (first | exact hnl | omega)); intro e w8 hh; have hb8 := hh.2; have hT := hh.1; clear hh; obtain ⟨s8, he, hs8⟩ := hT; subst he; have ha1 : ∀ V, (Op.stringOp .add (baS s8) ⟨#[47]⟩).run Tryz.prog V = .ok (.string (baS (s8 ++ [47]))) V := addS s8 [47] (by omega) (by decide); have ha2 := addS (s8 ++ [47]) D (by simp; omega) (by have := HDl.out; omega); have C8 : Below X.heap.size X w8 := below_next (by repeat (first | exact C8 | apply Below.drew | apply ball)) hb8))
      all_goals
        go_wp2_with fail
        go_meet
      all_goals exact ⟨_, rfl, rfl, rfl, by simp, four_new4 _ _ _ _ _ HRL.out (by have := HPl.out; omega) (by omega) (by have := HDl.out; simp; omega), ball C8⟩
    case rest =>
      obtain ⟨H, rfl, rfl, rfl, hH, hF, KX⟩ := hcut
      have BX := below_next B1 KX
      have GX := Lib.hid (G1.below KX)
      have PX := P1.below KX
      have XX := X1.below KX
      have QX := Q1.below KX
      have HF := Lib.hid hF
      clear hF G1 P1 X1 R1 I1 Q1 B1 KX HT HI1 HI0 HPP HTx HS hmm hcm HPre
      go_wp2_with fail
      go_loopw [70] (fun iv wr => ∃ (i : Nat), iv = .int .i64 i ∧ i ≤ 4 ∧ Below wc.heap.size wc wr)
        (fun iv _ => 4 - (intOf iv).toNat)
      case atStart => exact ⟨0, rfl, by omega, Below.refl _ _⟩
      case round =>
        obtain ⟨i, rfl, hi, hbr⟩ := hrel
        by_cases hi4 : i < 4
        · have hi0 : (i : Int) < 4 := by omega
          have hi1 : (0 : Int) ≤ i := by omega
          obtain ⟨s, hs, hsl⟩ := HF.out i hi4
          have e0 := (olds hbr H i hH).trans hs
          have HPs := Lib.hid (fun w hg => parseP_b s w hg (by omega))
          have HRf := Lib.hid (fun w => refPrefix_x s w (by omega))
          obtain ⟨a1, h1', l1, n1, b1, hr⟩ := prefR_part (prefV s)
          rw [hr] at HPs HRf
          clear hs hsl hr
          go_wp2_with fail
          refine (HPs.out _ (GX.out.below hbr)).mono ?_
          rintro e w2 ⟨rfl, hb2⟩
          have B2 := below_next hbr hb2
          clear e0
          go_wp2_with fail
          refine (HRf.out _).mono ?_
          rintro e w3 ⟨rfl, hb3⟩
          have B3 := below_next (ball B2) hb3
          obtain ⟨p0, p1, p2, p3, plt⟩ := (pl_new w2 a1 h1' l1 n1).below hb3
          clear hb2 hb3 HPs HRf
          go_wp2
          go_roundw
          case rel => exact ⟨i + 1, by go_num, by omega, ball B3⟩
          case measure => simp [intOf]; omega
        · obtain rfl : i = 4 := by omega
          have G2 := GX.out.below hbr
          have P2 := PX.below hbr
          have X2 := XX.below hbr
          have Q2 := QX.below hbr
          have B2 := below_next BX hbr
          have HPre := Lib.hid (fun w b' k (h : 0 ≤ b' ∧ b' < 18446744073709551616) => pre_x v a b' k w HAB.out.1 h)
          clear GX PX XX QX BX hbr HF hH
          go_wp2_with fail
          refine (HPre.out _ _ _ (xor_in _ _)).mono ?_
          rintro e w3 ⟨⟨rv, rx, rn, rfl, hor, hrx⟩, hb3⟩
          have G3 := G2.below hb3
          have P3 := P2.below hb3
          have X3 := X2.below hb3
          have Q3 := Q2.below hb3
          have B3 := below_next B2 hb3
          have HRX := Lib.hid hrx
          clear hor hrx G2 P2 X2 Q2 B2 hb3 HPre
          obtain ⟨p0, p1, p2, p3, plt⟩ := id P3
          obtain ⟨q0, q1, q2, q3, qlt⟩ := id Q3
          have hT0 := three_new (w3.alloc (.cells #[.int .i64 rv, .int .u64 (hiQ rx), .int .u64 (loQ rx), .int .i64 rn] 30)) pv qv rv pn qn rn px qx rx HPX.out HQ.out.2 HRX.out
          rw [World.size_alloc] at hT0
          obtain ⟨U, hU⟩ : ∃ U, U = (w3.alloc (.cells #[.int .i64 rv, .int .u64 (hiQ rx), .int .u64 (loQ rx), .int .i64 rn] 30)).alloc (.cells #[.int .i64 pv, .int .u64 (hiQ px), .int .u64 (loQ px), .int .i64 pn, .int .i64 qv, .int .u64 (hiQ qx), .int .u64 (loQ qx), .int .i64 qn, .int .i64 rv, .int .u64 (hiQ rx), .int .u64 (loQ rx), .int .i64 rn] 30) := ⟨_, rfl⟩
          have KU : Below w3.heap.size w3 U := by rw [hU]; exact below2 _ _ _
          have hHU : w3.heap.size + 1 < U.heap.size := by rw [hU]; simp
          rw [← hU] at hT0
          have HT0 := Lib.hid hT0
          have GU := Lib.hid (G3.below KU)
          have XU := X3.below KU
          have QU := Q3.below KU
          have BU := below_next B3 KU
          clear G3 P3 X3 Q3 B3 KU hT0
          go_wp2_with fail
          rw [← hU]
          clear hU p0 p1 p2 p3 plt q0 q1 q2 q3 qlt
          generalize w3.heap.size + 1 = H2 at *
          go_loopw [110] (fun iv wr => ∃ (i : Nat), iv = .int .i64 i ∧ i ≤ 3 ∧ Below U.heap.size U wr)
            (fun iv _ => 3 - (intOf iv).toNat)
          case atStart => exact ⟨0, rfl, by omega, Below.refl _ _⟩
          case round =>
            obtain ⟨i, rfl, hi, hbr⟩ := hrel
            by_cases hi3 : i < 3
            · have hi0 : (i : Int) < 3 := by omega
              have hi1 : (0 : Int) ≤ i := by omega
              obtain ⟨yv, yx, yn, hyx, c0, c1, c2, c3⟩ := HT0.out i hi3
              obtain ⟨kc, lc⟩ := keep hbr H2 hHU
              have e0 := (kc _).trans c0; have e1 := (kc _).trans c1; have e2 := (kc _).trans c2; have e3 := (kc _).trans c3
              have HYX := Lib.hid hyx
              have HOk := Lib.hid (fun w => refOkP_x yv yx yn w hyx)
              clear c0 c1 c2 c3 kc lc hyx
              have XR := XU.below hbr
              have QR := QU.below hbr
              have GR := GU.out.below hbr
              go_wp2_with fail
              refine (HOk.out _).mono ?_
              rintro e w4 ⟨rfl, hb4⟩
              have Y4 := ((pl_new wr yv (hiQ yx) (loQ yx) yn).alloc (.cells #[.int .i64 0, .int .u64 0, .int .u64 0] 28)).below hb4
              have F4 : Za w4 (wr.heap.size + 1) := by
                have := (za_new (wr.alloc (.cells #[.int .i64 yv, .int .u64 (hiQ yx), .int .u64 (loQ yx), .int .i64 yn] 30))).below hb4
                rw [World.size_alloc] at this; exact this
              have K4 : Below wr.heap.size wr w4 := below_next (below2 wr _ _) hb4
              clear e0 e1 e2 e3 hb4 HOk
              go_upto_if 116 with fail
              go_cut [117] (fun _ wx => Pl wx wr.heap.size yv (hiQ yx) (loQ yx) yn ∧ Cl wx (wr.heap.size + 1) (firstV yv yx yn) (hiQ (firstX yv yx yn)) (loQ (firstX yv yx yn)) ∧ Below wr.heap.size wr wx)
              case first =>
               as_aux_lemma =>
                cases ho : okP yv yx yn
                · have HE : Hid (firstV yv yx yn = 0 ∧ firstX yv yx yn = 0) := ⟨by simp [firstV, ho], by simp [firstX, ho]⟩
                  clear ho
                  go_wp2_with fail
                  go_meet
                  rw [HE.out.1, HE.out.2, hiQ_zero, loQ_zero]
                  exact ⟨Y4, ⟨F4.c0, F4.c1, F4.c2, F4.lt⟩, K4⟩
                · have HE : Hid (firstV yv yx yn = yv ∧ firstX yv yx yn = yx) := ⟨by simp [firstV, ho], by simp [firstX, ho]⟩
                  obtain ⟨y0, y1, y2, y3, ylt⟩ := id Y4
                  obtain ⟨f0, f1, f2, ff, flt⟩ := id F4
                  clear ho
                  go_wp2_with fail
                  go_meet
                  rw [HE.out.1, HE.out.2]
                  refine ⟨⟨?_, ?_, ?_, ?_, ?_⟩, ⟨?_, ?_, ?_, ?_⟩, aset3 K4 (Nat.le_succ _)⟩
                  all_goals first
                    | (simp [go_sem, *]; done)
                    | (simp; omega)
              case rest =>
               as_aux_lemma =>
                obtain ⟨Y5, F5, K5⟩ := hcut
                have X5 := XR.below K5
                have Q5 := QR.below K5
                have G5 := GR.below K5
                have B5 := below_next hbr K5
                have HN1 := Lib.hid (fun w => nm_all yv yx yn w HYX.out)
                have HN2 := Lib.hid (fun w => refNm_all yv yx yn w HYX.out)
                have HO1 := Lib.hid (fun w ht => of_x xv xx (nmV yv yx yn) (nmY yv yx yn) w ht HXX.out (nmY_lt yv yx yn))
                have HO2 := Lib.hid (fun w => refOf_x xv xx (nmV yv yx yn) (nmY yv yx yn) w HXX.out)
                have HO3 := Lib.hid (fun w ht => of_x qv qx xv xx w ht HQ.out.2 HXX.out)
                have HO4 := Lib.hid (fun w => refOf_x qv qx xv xx w HQ.out.2)
                obtain ⟨o1, o2, o3, o4, o5, ho⟩ := ofR_parts xv xx (nmV yv yx yn) (nmY yv yx yn)
                obtain ⟨j1, j2, j3, j4, j5, hj⟩ := ofR_parts qv qx xv xx
                rw [ho] at HO1 HO2
                rw [hj] at HO3 HO4
                generalize nmV yv yx yn = mv at *
                generalize hiQ (nmY yv yx yn) = mh at *
                generalize loQ (nmY yv yx yn) = ml at *
                generalize nmB yv yx yn = mb at *
                obtain ⟨y0, y1, y2, y3, ylt⟩ := id Y5
                clear XR QR GR Y4 F4 K4 K5 hbr ho hj
                go_wp2_with fail
                refine (HN1.out _).mono ?_
                rintro e w6 ⟨rfl, hb6⟩
                have K6 := ball (o := .cells #[.int .i64 mv, .int .u64 mh, .int .u64 ml] 28) hb6
                have Y6 := Y5.below K6
                have F6 := F5.below K6
                have X6 := X5.below K6
                have Q6 := Q5.below K6
                have G6 := G5.below K6
                have B6 := below_next B5 K6
                have M6 := cl_new w6 mv mh ml
                clear y0 y1 y2 y3 ylt Y5 F5 X5 Q5 G5 B5 K6 hb6 HN1
                obtain ⟨y0, y1, y2, y3, ylt⟩ := id Y6
                go_wp2_with fail
                refine (HN2.out _).mono ?_
                rintro e w7 ⟨rfl, hb7⟩
                have K7 := ball (o := .cells #[.int .i64 mv, .int .u64 mh, .int .u64 ml] 28) hb7
                have Y7 := Y6.below K7
                have F7 := F6.below K7
                have X7 := X6.below K7
                have Q7 := Q6.below K7
                have G7 := G6.below K7
                have B7 := below_next B6 K7
                have M7 := M6.below K7
                have N7 := cl_new w7 mv mh ml
                clear y0 y1 y2 y3 ylt Y6 F6 X6 Q6 G6 B6 M6 K7 hb7 HN2
                obtain ⟨x0, x1, x2, xlt⟩ := id X7
                obtain ⟨m0, m1, m2, mlt⟩ := id M7
                go_wp2_with fail
                refine (HO1.out _ G7.tz).mono ?_
                rintro e w8 ⟨rfl, hb8⟩
                have K8 := ball (o := .cells #[.int .i64 o1, .int .u64 o2, .int .u64 o3, .int .i64 o4] 30) hb8
                have K8' := below_next ((Below.refl w7.heap.size w7).alloc (Nat.le_refl _) (.cells #[.int .i64 mv, .int .u64 mh, .int .u64 ml] 28)) K8
                have Y8 := Y7.below K8
                have F8 := F7.below K8
                have X8 := X7.below K8
                have Q8 := Q7.below K8
                have G8 := G7.below K8
                have B8 := below_next B7 K8
                have M8 := M7.below K8
                have N8 := N7.below K8
                have O8 := pl_new w8 o1 o2 o3 o4
                clear x0 x1 x2 xlt m0 m1 m2 mlt Y7 F7 X7 Q7 G7 B7 M7 N7 K8 K8' hb8 HO1
                obtain ⟨x0, x1, x2, xlt⟩ := id X8
                obtain ⟨m0, m1, m2, mlt⟩ := id N8
                go_wp2_with fail
                refine (HO2.out _).mono ?_
                rintro e w9 ⟨rfl, hb9⟩
                have K9 := ball (o := .cells #[.int .i64 o1, .int .u64 o2, .int .u64 o3, .int .i64 o4] 30) hb9
                have Y9 := Y8.below K9
                have F9 := F8.below K9
                have X9 := X8.below K9
                have Q9 := Q8.below K9
                have G9 := Lib.hid (G8.below K9)
                have B9 := below_next B8 K9
                have M9 := M8.below K9
                have N9 := N8.below K9
                have O9 := O8.below K9
                have T9 := pl_new w9 o1 o2 o3 o4
                clear x0 x1 x2 xlt m0 m1 m2 mlt Y8 F8 X8 Q8 G8 B8 M8 N8 O8 K9 hb9 HO2
                go_upto_region 23 with fail
                generalize w9.alloc (.cells #[.int .i64 o1, .int .u64 o2, .int .u64 o3, .int .i64 o4] 30) = Z at *
                have HPr := Lib.hid (fun w hg => printP_x yv yx yn w hg HYX.out)
                have HPP := Lib.hid (fun w => refPrintP_x yv yx yn w HYX.out)
                have HK1 := Lib.hid (fun w => okPref_x yv yx yn w HYX.out)
                have HK2 := Lib.hid (fun w => refOkP_x yv yx yn w HYX.out)
                have HF1 := Lib.hid (fun w => first_x yv yx yn w HYX.out)
                have HL1 := Lib.hid (fun w => last_x yv yx yn w HYX.out)
                have HL2 := Lib.hid (fun w => refLast_x yv yx yn w HYX.out)
                have HH1 := Lib.hid (fun w => has_p yv yx yn xv xx w HYX.out HXX.out)
                have HH2 := Lib.hid (fun w => refHas_x yv yx yn xv xx w HYX.out HXX.out)
                have HV1 := Lib.hid (fun w => over_x yv yx yn qv qx qn w HYX.out HQ.out.2)
                have HV2 := Lib.hid (fun w => refOver_x yv yx yn qv qx qn w HYX.out HQ.out.2)
                have HS1 := Lib.hid (fun w => lessPref_x yv yx yn qv qx qn w HYX.out HQ.out.2)
                have HS2 := Lib.hid (fun w => refLessP_x yv yx yn qv qx qn w HYX.out HQ.out.2)
                generalize tellP yv yx yn = T1 at *
                generalize okP yv yx yn = t1 at *
                generalize hasP yv yx yn xv xx = t2 at *
                generalize overP yv yx yn qv qx qn = t3 at *
                generalize lessP yv yx yn qv qx qn = t4 at *
                generalize firstV yv yx yn = fv at *
                generalize hiQ (firstX yv yx yn) = fh at *
                generalize loQ (firstX yv yx yn) = fl at *
                generalize hiQ (lastX yv yx yn) = lh at *
                generalize loQ (lastX yv yx yn) = ll at *
                have y0 := cell_regrown Y9.c0; have y1 := cell_regrown Y9.c1; have y2 := cell_regrown Y9.c2; have y3 := cell_regrown Y9.c3
                have f0 := cell_regrown F9.c0; have f1 := cell_regrown F9.c1; have f2 := cell_regrown F9.c2
                have x0 := cell_regrown X9.c0; have x1 := cell_regrown X9.c1; have x2 := cell_regrown X9.c2
                have q0 := cell_regrown Q9.c0; have q1 := cell_regrown Q9.c1; have q2 := cell_regrown Q9.c2; have q3 := cell_regrown Q9.c3
                have m0 := cell_regrown M9.c0; have m1 := cell_regrown M9.c1; have m2 := cell_regrown M9.c2
                have n0 := cell_regrown N9.c0; have n1 := cell_regrown N9.c1; have n2 := cell_regrown N9.c2
                have o0' := cell_regrown O9.c0; have o1' := cell_regrown O9.c1; have o2' := cell_regrown O9.c2; have o3' := cell_regrown O9.c3
                have t0' := cell_regrown T9.c0; have t1' := cell_regrown T9.c1; have t2' := cell_regrown T9.c2; have t3' := cell_regrown T9.c3
                refine wp_region_quiet_below (by kernel_rfl) (by kernel_rfl) ?_
                dsimp only [List.append]
                repeat (go_big_quiet_step (fail))
                go_big_quiet_step ((go_at_call 21; exact Calls.regrown_of (HPr.out _ (G9.out.below (below_regrown Z _ _)))))
                repeat (go_big_quiet_step (fail))
                go_big_quiet_step ((go_at_call 11; exact Calls.regrown_of (HPP.out _)))
                repeat (go_big_quiet_step (fail))
                go_big_quiet_step ((go_at_call 22; exact Calls.regrown_of (HK1.out _)))
                repeat (go_big_quiet_step (fail))
                go_big_quiet_step ((go_at_call 16; exact Calls.regrown_of (HK2.out _)))
                repeat (go_big_quiet_step (fail))
                go_big_quiet_step ((go_at_call 23; exact Calls.regrown_of (HF1.out _)))
                repeat (go_big_quiet_step (fail))
                go_big_quiet_step ((go_at_call 24; exact Calls.regrown_of (HL1.out _)))
                repeat (go_big_quiet_step (fail))
                go_big_quiet_step ((go_at_call 25; exact Calls.regrown_of (HL2.out _)))
                repeat (go_big_quiet_step (fail))
                go_big_quiet_step ((go_at_call 26; exact Calls.regrown_of (HH1.out _)))
                repeat (go_big_quiet_step (fail))
                go_big_quiet_step ((go_at_call 27; exact Calls.regrown_of (HH2.out _)))
                repeat (go_big_quiet_step (fail))
                go_big_quiet_step ((go_at_call 28; exact Calls.regrown_of (HV1.out _)))
                repeat (go_big_quiet_step (fail))
                go_big_quiet_step ((go_at_call 29; exact Calls.regrown_of (HV2.out _)))
                repeat (go_big_quiet_step (fail))
                go_big_quiet_step ((go_at_call 30; exact Calls.regrown_of (HS1.out _)))
                repeat (go_big_quiet_step (fail))
                go_big_quiet_step ((go_at_call 31; exact Calls.regrown_of (HS2.out _)))
                repeat (go_big_quiet_step (fail))
                refine wpQuiet_nil ?_
                intro _ hw'
                obtain ⟨⟨dq, osq⟩, hw''⟩ := hw'
                subst hw''
                have KR := below_regrown Z dq osq
                have BR := below_next B9 KR
                have XR := X9.below KR
                have QR := Q9.below KR
                have GR := G9.out.below KR
                dsimp only at *
                generalize grow (redrawn Z dq) osq = V at *
                clear y0 y1 y2 y3 f0 f1 f2 x0 x1 x2 q0 q1 q2 q3 m0 m1 m2 n0 n1 n2 o0' o1' o2' o3' t0' t1' t2' t3' Y9 F9 X9 Q9 M9 N9 O9 T9 G9 B9 KR HPr HPP HK1 HK2 HF1 HL1 HL2 HH1 HH2 HV1 HV2 HS1 HS2
                obtain ⟨q0, q1, q2, q3, qlt⟩ := id QR
                obtain ⟨x0, x1, x2, xlt⟩ := id XR
                go_wp2_with fail
                refine (HO3.out _ GR.tz).mono ?_
                rintro e w10 ⟨rfl, hb10⟩
                have K10 := ball (o := .cells #[.int .i64 j1, .int .u64 j2, .int .u64 j3, .int .i64 j4] 30) hb10
                have QS := QR.below K10
                have XS := XR.below K10
                have BS := below_next BR K10
                have J10 := pl_new w10 j1 j2 j3 j4
                clear q0 q1 q2 q3 qlt x0 x1 x2 xlt QR XR BR K10 hb10 HO3 GR
                obtain ⟨q0, q1, q2, q3, qlt⟩ := id QS
                obtain ⟨x0, x1, x2, xlt⟩ := id XS
                go_wp2_with fail
                refine (HO4.out _).mono ?_
                rintro e w11 ⟨rfl, hb11⟩
                have B11 := below_next BS hb11
                obtain ⟨a0, a1, a2, a3, alt⟩ := J10.below hb11
                clear q0 q1 q2 q3 qlt x0 x1 x2 xlt QS XS BS hb11 HO4 J10
                go_wp2
                go_roundw
                case rel => exact ⟨i + 1, by go_num, by omega, ball B11⟩
                case measure => simp [intOf]; omega
            · obtain rfl : i = 3 := by omega
              go_wp2_with fail
              refine (awake3_x _ (GU.out.below hbr)).mono ?_
              rintro e w4 ⟨rfl, hb4⟩
              have B4 := below_next (below_next BU hbr) hb4
              go_wp2
              go_ret
              exact ⟨rfl, B4⟩
end Go.Proofs.YtkmbfnjmgimlhaaGreatDoor
