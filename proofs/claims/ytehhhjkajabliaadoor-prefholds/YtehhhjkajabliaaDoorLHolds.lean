/- PrefHolds: for any two prefixes of numbers and any address the law answers true. -/
import Derived.Test.YtehhhjkajabliaaDoorF3
import Derived.Test.YtehhhjkajabliaaDoorRs
import Derived.Test.YtehhhjkajabliaaDoorAw3
namespace Go.Proofs.YtehhhjkajabliaaDoor
open Go.ChangeShapes Go.WideShapes Go.RowKit Go.Sort

theorem ifne4 {v u : Int} {x y : Nat} {n m : Int} (h : ¬ (v = u ∧ x = y ∧ n = m)) (α : Type) (A B : α) : (if v = u then (if hiQ x = hiQ y then (if loQ x = loQ y then (if n = m then A else B) else B) else B) else B) = B := by
  by_cases h1 : v = u
  · rw [if_pos h1]
    by_cases h2 : hiQ x = hiQ y
    · rw [if_pos h2]
      by_cases h3 : loQ x = loQ y
      · rw [if_pos h3, if_neg (fun h4 => h ⟨h1, q_inj h2 h3, h4⟩)]
      · rw [if_neg h3]
    · rw [if_neg h2]
  · rw [if_neg h1]
set_option maxHeartbeats 16000000 in
set_option maxRecDepth 100000 in
theorem holds_walk (v a b n s c d m : Int) (w : World) (hg : Gl w) (ha : 0 ≤ a ∧ a < 18446744073709551616) (hb : 0 ≤ b ∧ b < 18446744073709551616) (hc : 0 ≤ c ∧ c < 18446744073709551616) (hd : 0 ≤ d ∧ d < 18446744073709551616) :
    Calls Tryd.prog 5 #[.int .i64 v, .int .u64 a, .int .u64 b, .int .i64 n, .int .i64 s, .int .u64 c, .int .u64 d, .int .i64 m] w fun e w' => e = .returned (.bool true) ∧ Below w.heap.size w w' := by
  have HA := Lib.hid (And.intro ha (And.intro hb (And.intro hc hd)))
  have HG := Lib.hid hg
  clear ha hb hc hd hg
  go_enter Tryd.func5, Tryd.ntmps5
  go_wp2_with fail
  refine (pre_x v a b n _ HA.out.1 HA.out.2.1).mono ?_
  rintro e w1 ⟨⟨u, x, i, rfl, ho, hx⟩, hb1⟩
  go_wp2_with fail
  refine (pre_x s c d m _ HA.out.2.2.1 HA.out.2.2.2).mono ?_
  rintro e w2 ⟨⟨t, y, j, rfl, ho', hy⟩, hb2⟩
  have B2 := below_next hb1 hb2
  have P := (pl_new w2 u (hiQ x) (loQ x) i).alloc (.cells #[.int .i64 t, .int .u64 (hiQ y), .int .u64 (loQ y), .int .i64 j] 30)
  have Q := pl_new (w2.alloc (.cells #[.int .i64 u, .int .u64 (hiQ x), .int .u64 (loQ x), .int .i64 i] 30)) t (hiQ y) (loQ y) j
  rw [show (w2.alloc (.cells #[.int .i64 u, .int .u64 (hiQ x), .int .u64 (loQ x), .int .i64 i] 30)).heap.size = w2.heap.size + 1 by simp] at Q
  have HX := Lib.hid (And.intro ho hx)
  have HY := Lib.hid (And.intro ho' hy)
  clear ho hx ho' hy hb1 hb2
  go_wp2_with fail
  refine (addr_x v c d _ HA.out.2.2.1 HA.out.2.2.2).mono ?_
  rintro e w3 ⟨⟨g, z, rfl, hoz, hz⟩, hb3⟩
  have HZ := Lib.hid (And.intro hoz hz)
  have B3 := below_next (ball (ball B2)) hb3
  replace P := (P.below hb3).alloc (.cells #[.int .i64 g, .int .u64 (hiQ z), .int .u64 (loQ z)] 28)
  replace Q := (Q.below hb3).alloc (.cells #[.int .i64 g, .int .u64 (hiQ z), .int .u64 (loQ z)] 28)
  have Z := cl_new w3 g (hiQ z) (loQ z)
  have BW := ball (o := .cells #[.int .i64 g, .int .u64 (hiQ z), .int .u64 (loQ z)] 28) B3
  clear hoz hz hb3 B2 B3 HA
  obtain ⟨W, hW⟩ : ∃ W, W = w3.alloc (.cells #[.int .i64 g, .int .u64 (hiQ z), .int .u64 (loQ z)] 28) := ⟨_, rfl⟩
  rw [← hW] at P Q Z BW
  have HF : Hid (∀ w, Calls Tryd.prog 9 #[.agg #[.int .i64 u, .int .u64 (hiQ x), .int .u64 (loQ x), .int .i64 i]] w fun e w' => e = .returned (.agg #[.int .i64 u, .int .u64 (hiQ x), .int .u64 (loQ x)]) ∧ Below w.heap.size w w') := fun w => by
    have := first_x u x i w HX.out.2
    rw [show firstV u x i = u by simp [firstV, HX.out.1], show firstX u x i = x by simp [firstX, HX.out.1]] at this
    exact this
  have HF2 : Hid (∀ w, Calls Tryd.prog 9 #[.agg #[.int .i64 t, .int .u64 (hiQ y), .int .u64 (loQ y), .int .i64 j]] w fun e w' => e = .returned (.agg #[.int .i64 t, .int .u64 (hiQ y), .int .u64 (loQ y)]) ∧ Below w.heap.size w w') := fun w => by
    have := first_x t y j w HY.out.2
    rw [show firstV t y j = t by simp [firstV, HY.out.1], show firstX t y j = y by simp [firstX, HY.out.1]] at this
    exact this
  obtain ⟨L, hL⟩ : ∃ L, x + (2 ^ hostK u i - 1) = L := ⟨_, rfl⟩
  have HLc : Hid (∀ w, Calls Tryd.prog 10 #[.agg #[.int .i64 u, .int .u64 (hiQ x), .int .u64 (loQ x), .int .i64 i]] w fun e w' => e = .returned (.agg #[.int .i64 u, .int .u64 (hiQ L), .int .u64 (loQ L)]) ∧ Below w.heap.size w w') := fun w => by
    have := last_x u x i w HX.out.2
    rw [show firstV u x i = u by simp [firstV, HX.out.1], show lastX u x i = L by simp [lastX, HX.out.1, hL]] at this
    exact this
  have HL : Hid (okV u L = true ∧ L < 340282366920938463463374607431768211456 ∧ hasP u x i u L = true ∧ hasP u x i u (L + 1) = false ∧ hasP u x i g z = (decide (g = u) && ((!ltB z x) && !ltB L z))) :=
    ⟨hL ▸ okV_last HX.out.1 HX.out.2, hL ▸ Nat.lt_of_lt_of_le (last_ok HX.out.1 HX.out.2) (pow_bits_le u), hL ▸ has_last HX.out.1 HX.out.2, hL ▸ has_beyond HX.out.1, hL ▸ has_in HX.out.1 HZ.out.1⟩
  clear hL
  go_upto_region 3 with fail
  rw [← hW]
  clear hW
  obtain ⟨p0, p1, p2, p3, la⟩ := id P
  go_cut [20, 21] (fun pa pb wx => ∃ N1 N2, pa = .pointer (some ⟨N1, 0, none⟩) ∧ pb = .pointer (some ⟨N2, 0, none⟩) ∧ Cl wx N1 u (hiQ x) (loQ x) ∧ Cl wx N2 u (hiQ L) (loQ L) ∧ Below W.heap.size W wx)
  case first =>
    have C8 : Below W.heap.size W W := Below.refl _ _
    have nX := Nat.ne_of_gt la
    go_region_held3 (fun w' => w'.cell? ⟨w2.heap.size, 0, none⟩ = some (.int .i64 u) ∧ w'.cell? ⟨w2.heap.size, 1, none⟩ = some (.int .u64 (hiQ x)) ∧ w'.cell? ⟨w2.heap.size, 2, none⟩ = some (.int .u64 (loQ x)) ∧ w'.cell? ⟨w2.heap.size, 3, none⟩ = some (.int .i64 i)) (go_keep)
      (first
        | (go_at_call 9; refine (HF.out _).mono ?_; rintro e w8 ⟨rfl, hb8⟩; (first | (have T := f3_aad hb8 C8; obtain ⟨F1, F2, KW⟩ := T; obtain ⟨g0, g1, g2, gf, gl, ge⟩ := id F1; have gn := fresh_ne la ge; obtain ⟨i0, i1, i2, jf, il, ie⟩ := id F2; have jn := fresh_ne la ie) | (have T := f3_ad hb8 C8; obtain ⟨F1, KW⟩ := T; obtain ⟨g0, g1, g2, gf, gl, ge⟩ := id F1; have gn := fresh_ne la ge) | (have KW := drew_below hb8)); have C8 := below_next C8 KW; obtain ⟨k8, l8⟩ := keep C8 w2.heap.size la; have n8 := Nat.ne_of_gt l8)
        | (go_at_call 10; refine (HLc.out _).mono ?_; rintro e w9 ⟨rfl, hb9⟩; (first | (have T := f3_aa hb9 C8; obtain ⟨F1, F2, KW⟩ := T; obtain ⟨g0, g1, g2, gf, gl, ge⟩ := id F1; have gn := fresh_ne la ge; obtain ⟨i0, i1, i2, jf, il, ie⟩ := id F2; have jn := fresh_ne la ie) | (have T := f3_a hb9 C8; obtain ⟨F2, KW⟩ := T; obtain ⟨i0, i1, i2, jf, il, ie⟩ := id F2; have jn := fresh_ne la ie; (first | (have hne := Nat.ne_of_lt F1.lt; have F1 := f3_c KW F1; obtain ⟨g0, g1, g2, gf, gl, ge⟩ := id F1; have gn := fresh_ne la ge) | skip)) | (have KW := hb9; (first | (have F1 := f3_c KW F1; obtain ⟨g0, g1, g2, gf, gl, ge⟩ := id F1; have gn := fresh_ne la ge) | skip); (first | (have F2 := f3_c KW F2; obtain ⟨i0, i1, i2, jf, il, ie⟩ := id F2; have jn := fresh_ne la ie) | skip))); have C8 := below_next C8 KW; obtain ⟨k9, l9⟩ := keep C8 w2.heap.size la; have n9 := Nat.ne_of_gt l9))
    all_goals
      go_wp2_with fail
      go_meet
    all_goals refine ⟨_, _, rfl, rfl, ?_⟩
    all_goals first
      | with_reducible exact endA C8 _ _ _ _ _ _
      | with_reducible exact swap_ends (endA C8 _ _ _ _ _ _)
      | with_reducible exact endBx F1 C8 _ _ _ _ _ _
      | with_reducible exact swap_ends (endBx F1 C8 _ _ _ _ _ _)
      | with_reducible exact endBx F2 C8 _ _ _ _ _ _
      | with_reducible exact swap_ends (endBx F2 C8 _ _ _ _ _ _)
      | with_reducible exact endCx F1 F2 hne C8 _ _ _ _ _ _
      | with_reducible exact swap_ends (endCx F1 F2 hne C8 _ _ _ _ _ _)
      | with_reducible exact endCx F1 F2 (Nat.ne_of_lt (Nat.lt_succ_self _)) C8 _ _ _ _ _ _
      | with_reducible exact endCx F2 F1 (Nat.ne_of_gt (Nat.lt_succ_self _)) C8 _ _ _ _ _ _
      | with_reducible exact endCx F2 F1 hne.symm C8 _ _ _ _ _ _
  case rest =>
    obtain ⟨N1, N2, rfl, rfl, CA, CB, CX⟩ := hcut
    have B3 := below_next BW CX
    replace P := P.below CX
    replace Q := Q.below CX
    replace Z := Z.below CX
    clear p0 p1 p2 p3 la BW CX
    obtain ⟨I, hI⟩ : ∃ I, hasP u x i g z = I := ⟨_, rfl⟩
    obtain ⟨p0, p1, p2, p3, pl⟩ := id P
    obtain ⟨z0, z1, z2, zl⟩ := id Z
    obtain ⟨a0, a1, a2, al⟩ := id CA
    obtain ⟨b0, b1, b2, bl⟩ := id CB
    go_upto_region 4 with fail
    go_cut [22] (fun bv wx => bv = .bool I ∧ Below wc.heap.size wc wx)
    case first =>
      have hin := HL.out.2.2.2.2
      rw [hI] at hin
      by_cases hgu : g = u
      · subst hgu
        have K1 := Lib.hid (refLess_x z x)
        have K2 := Lib.hid (refLess_x L z)
        rw [decide_eq_true rfl, Bool.true_and] at hin
        obtain ⟨b1', hb1'⟩ : ∃ b, ltB z x = b := ⟨_, rfl⟩
        obtain ⟨b2', hb2'⟩ : ∃ b, ltB L z = b := ⟨_, rfl⟩
        rw [hb1'] at K1 hin
        rw [hb2'] at K2 hin
        have HI := Lib.hid hin
        clear hin hb1' hb2'
        cases b1'
        · go_wp2_with fail
          refine (K1.out _).mono ?_
          rintro e w5 ⟨rfl, hb5⟩
          obtain ⟨kz, lz⟩ := keep hb5 w3.heap.size zl
          have y1 := (kz 1).trans z1
          have y2 := (kz 2).trans z2
          obtain ⟨kb, lb⟩ := keep hb5 N2 bl
          have x1 := (kb 1).trans b1
          have x2 := (kb 2).trans b2
          clear kz kb
          go_wp2_with fail
          refine (K2.out _).mono ?_
          rintro e w6 ⟨rfl, hb6⟩
          go_wp2_with fail
          go_meet
          case rel => exact ⟨by rw [HI.out]; rfl, below_next hb5 hb6⟩
        · go_wp2_with fail
          refine (K1.out _).mono ?_
          rintro e w5 ⟨rfl, hb5⟩
          go_wp2_with fail
          go_meet
          case rel => exact ⟨by rw [HI.out]; rfl, hb5⟩
      · have hn : (g == u) = false := by simpa using hgu
        have HI : Hid (I = false) := by show _ = _; rw [hin]; simp [hgu]
        clear hin hgu
        go_wp2_with fail
        go_meet
        case rel => exact ⟨by rw [HI.out], Below.refl _ _⟩
    case rest =>
      obtain ⟨rfl, CX⟩ := hcut
      have B4 := below_next B3 CX
      replace P := P.below CX
      replace Q := Q.below CX
      replace Z := Z.below CX
      replace CA := CA.below CX
      replace CB := CB.below CX
      have G4 := HG.out.below B4
      clear p0 p1 p2 p3 pl z0 z1 z2 zl a0 a1 a2 al b0 b1 b2 bl B3 CX
      obtain ⟨p0, p1, p2, p3, pl⟩ := id P
      have HS : Hid (prefV (baS (tellP u x i)).data.toList = some (u.toNat, x, i)) := by
        show _ = _
        have := pref_tell u x i HX.out.1 HX.out.2
        rw [Int.toNat_natCast] at this
        rw [← this]; simp [baS]
      have HSz : Hid ((baS (tellP u x i)).size < 4294967281) := by
        show _ < _
        have := tellP_len u x i
        have e : (baS (tellP u x i)).size = (tellP u x i).length := by simp [baS, ByteArray.size]
        omega
      have hun : ((u.toNat : Nat) : Int) = u := by rcases okV_v (okP_is HX.out.1).1 with rfl | rfl <;> rfl
      have HPr := Lib.hid (fun w hg => printP_x u x i w hg HX.out.2)
      have HPa : Hid (∀ w, Gl w → Calls Tryd.prog 6 #[.string (baS (tellP u x i))] w fun e w' => e = .returned (.tuple #[.agg #[.int .i64 u, .int .u64 (hiQ x), .int .u64 (loQ x), .int .i64 i], .bool true]) ∧ Below w.heap.size w w') := fun w hg => by
        have := parseP_some _ _ _ _ w hg HSz.out HS.out
        rw [hun] at this; exact this
      generalize baS (tellP u x i) = T at *
      clear hun HS HSz
      go_wp2_with fail
      refine (HPr.out _ G4).mono ?_
      rintro e w5 ⟨rfl, hb5⟩
      go_wp2_with fail
      refine (HPa.out _ (G4.below hb5)).mono ?_
      rintro e w6 ⟨rfl, hb6⟩
      have D6 := below_next hb5 hb6
      have B5 := ball (o := .cells #[.int .i64 u, .int .u64 (hiQ x), .int .u64 (loQ x), .int .i64 i] 30) (below_next B4 D6)
      have Y := pl_new w6 u (hiQ x) (loQ x) i
      replace P := (P.below D6).alloc (.cells #[.int .i64 u, .int .u64 (hiQ x), .int .u64 (loQ x), .int .i64 i] 30)
      replace Q := (Q.below D6).alloc (.cells #[.int .i64 u, .int .u64 (hiQ x), .int .u64 (loQ x), .int .i64 i] 30)
      replace Z := (Z.below D6).alloc (.cells #[.int .i64 u, .int .u64 (hiQ x), .int .u64 (loQ x), .int .i64 i] 30)
      replace CA := (CA.below D6).alloc (.cells #[.int .i64 u, .int .u64 (hiQ x), .int .u64 (loQ x), .int .i64 i] 30)
      replace CB := (CB.below D6).alloc (.cells #[.int .i64 u, .int .u64 (hiQ x), .int .u64 (loQ x), .int .i64 i] 30)
      clear p0 p1 p2 p3 pl hb5 hb6 D6 B4 G4 HPr HPa
      obtain ⟨V, hV⟩ : ∃ V, V = w6.alloc (.cells #[.int .i64 u, .int .u64 (hiQ x), .int .u64 (loQ x), .int .i64 i] 30) := ⟨_, rfl⟩
      rw [← hV] at Y P Q Z CA CB B5
      go_upto_region 6 with fail
      rw [← hV]
      clear hV
      go_cut [136] (fun bv wx => bv = .bool false ∧ Pl wx w2.heap.size u (hiQ x) (loQ x) i ∧ Cl wx N2 u (hiQ L) (loQ L) ∧ Below w.heap.size w wx)
      case first =>
        have p0 := cell_regrown P.c0; have p1 := cell_regrown P.c1; have p2 := cell_regrown P.c2; have p3 := cell_regrown P.c3
        have q0 := cell_regrown Q.c0; have q1 := cell_regrown Q.c1; have q2 := cell_regrown Q.c2; have q3 := cell_regrown Q.c3
        have y0 := cell_regrown Y.c0; have y1 := cell_regrown Y.c1; have y2 := cell_regrown Y.c2; have y3 := cell_regrown Y.c3
        have z0 := cell_regrown Z.c0; have z1 := cell_regrown Z.c1; have z2 := cell_regrown Z.c2
        have a0 := cell_regrown CA.c0; have a1 := cell_regrown CA.c1; have a2 := cell_regrown CA.c2
        have b0 := cell_regrown CB.c0; have b1 := cell_regrown CB.c1; have b2 := cell_regrown CB.c2
        have H1 := Lib.hid (fun w => has_pis u x i u x w HX.out.2 HX.out.2 true (has_first HX.out.1))
        have H2 := Lib.hid (fun w => has_pis u x i u L w HX.out.2 HL.out.2.1 true HL.out.2.2.1)
        have H3 := Lib.hid (fun w => has_pis u x i g z w HX.out.2 HZ.out.2 I hI)
        have hov := over_ok HX.out.1 HY.out.1
        have htri := less_tri HX.out.1 HY.out.1
        clear Y Q Z CA
        obtain ⟨h1, e1⟩ : ∃ b, hasP u x i t y = b := ⟨_, rfl⟩
        obtain ⟨h2, e2⟩ : ∃ b, hasP t y j u x = b := ⟨_, rfl⟩
        obtain ⟨l1, e3⟩ : ∃ b, lessP u x i t y j = b := ⟨_, rfl⟩
        obtain ⟨l2, e4⟩ : ∃ b, lessP t y j u x i = b := ⟨_, rfl⟩
        rw [e1, e2] at hov
        rw [e3, e4] at htri
        have H4 := Lib.hid (fun w => over_is u x i t y j w HX.out.2 HY.out.2 _ hov)
        have H5 := Lib.hid (fun w => over_is t y j u x i w HY.out.2 HX.out.2 _ ((over_swap t y j u x i).trans hov))
        have H6 := Lib.hid (fun w => has_pis u x i t y w HX.out.2 HY.out.2 _ e1)
        have H7 := Lib.hid (fun w => has_pis t y j u x w HY.out.2 HX.out.2 _ e2)
        have H8 := Lib.hid (fun w => lessPref_is u x i t y j w HX.out.2 HY.out.2 _ e3)
        have H9 := Lib.hid (fun w => lessPref_is t y j u x i w HY.out.2 HX.out.2 _ e4)
        clear hov e1 e2 e3 e4
        have hpq : (u = t ∧ x = y ∧ (i : Int) = j) ∨ ¬ (u = t ∧ x = y ∧ (i : Int) = j) := Decidable.em _
        cases l1
        · rw [Bool.false_or] at htri
          rcases hpq with hpq | hpq
          · rw [decide_eq_true hpq] at htri
            obtain ⟨rfl, rfl, hij⟩ := hpq
            obtain rfl : i = j := by omega
            subst htri
            cases h1
            · refine wp_region_quiet_below (by kernel_rfl) (by kernel_rfl) ?_
              repeat (go_big_quiet_step (fail))
              go_big_quiet_step ((go_at_call 15; exact Calls.regrown_of (H1.out _)))
              repeat (go_big_quiet_step (fail))
              go_big_quiet_step ((go_at_call 15; exact Calls.regrown_of (H2.out _)))
              repeat (go_big_quiet_step (fail))
              go_big_quiet_step ((go_at_call 15; exact Calls.regrown_of (H3.out _)))
              repeat (go_big_quiet_step (fail))
              go_big_quiet_step ((go_at_call 18; exact Calls.regrown_of (H4.out _)))
              repeat (go_big_quiet_step (fail))
              go_big_quiet_step ((go_at_call 18; exact Calls.regrown_of (H5.out _)))
              repeat (go_big_quiet_step (fail))
              go_big_quiet_step ((go_at_call 18; exact Calls.regrown_of (H4.out _)))
              repeat (go_big_quiet_step (fail))
              go_big_quiet_step ((go_at_call 9; exact Calls.regrown_of (HF2.out _)))
              repeat (go_big_quiet_step (fail))
              go_big_quiet_step ((go_at_call 15; exact Calls.regrown_of (H6.out _)))
              repeat (go_big_quiet_step (fail))
              go_big_quiet_step ((go_at_call 15; exact Calls.regrown_of (H7.out _)))
              repeat (go_big_quiet_step (fail))
              go_big_quiet_step ((go_at_call 19; exact Calls.regrown_of (H8.out _)))
              repeat (go_big_quiet_step (fail))
              go_big_quiet_step ((go_at_call 19; exact Calls.regrown_of (H9.out _)))
              repeat (go_big_quiet_step (fail))
              refine wpQuiet_nil ?_
              intro _ hw'
              obtain ⟨⟨dq, osq⟩, hw''⟩ := hw'
              subst hw''
              go_wp2_with fail
              go_meet
              case rel => exact ⟨rfl, P.below (below_regrown _ dq osq), CB.below (below_regrown _ dq osq), below_next B5 (below_regrown _ dq osq)⟩
            · refine wp_region_quiet_below (by kernel_rfl) (by kernel_rfl) ?_
              repeat (go_big_quiet_step (fail))
              go_big_quiet_step ((go_at_call 15; exact Calls.regrown_of (H1.out _)))
              repeat (go_big_quiet_step (fail))
              go_big_quiet_step ((go_at_call 15; exact Calls.regrown_of (H2.out _)))
              repeat (go_big_quiet_step (fail))
              go_big_quiet_step ((go_at_call 15; exact Calls.regrown_of (H3.out _)))
              repeat (go_big_quiet_step (fail))
              go_big_quiet_step ((go_at_call 18; exact Calls.regrown_of (H4.out _)))
              repeat (go_big_quiet_step (fail))
              go_big_quiet_step ((go_at_call 18; exact Calls.regrown_of (H5.out _)))
              repeat (go_big_quiet_step (fail))
              go_big_quiet_step ((go_at_call 18; exact Calls.regrown_of (H4.out _)))
              repeat (go_big_quiet_step (fail))
              go_big_quiet_step ((go_at_call 9; exact Calls.regrown_of (HF2.out _)))
              repeat (go_big_quiet_step (fail))
              go_big_quiet_step ((go_at_call 15; exact Calls.regrown_of (H6.out _)))
              repeat (go_big_quiet_step (fail))
              go_big_quiet_step ((go_at_call 19; exact Calls.regrown_of (H8.out _)))
              repeat (go_big_quiet_step (fail))
              go_big_quiet_step ((go_at_call 19; exact Calls.regrown_of (H9.out _)))
              repeat (go_big_quiet_step (fail))
              refine wpQuiet_nil ?_
              intro _ hw'
              obtain ⟨⟨dq, osq⟩, hw''⟩ := hw'
              subst hw''
              go_wp2_with fail
              go_meet
              case rel => exact ⟨rfl, P.below (below_regrown _ dq osq), CB.below (below_regrown _ dq osq), below_next B5 (below_regrown _ dq osq)⟩
          · rw [decide_eq_false hpq] at htri
            subst htri
            have hq := ifne4 hpq
            clear hpq
            cases h1
            · refine wp_region_quiet_below (by kernel_rfl) (by kernel_rfl) ?_
              repeat (go_big_quiet_step (fail))
              go_big_quiet_step ((go_at_call 15; exact Calls.regrown_of (H1.out _)))
              repeat (go_big_quiet_step (fail))
              go_big_quiet_step ((go_at_call 15; exact Calls.regrown_of (H2.out _)))
              repeat (go_big_quiet_step (fail))
              go_big_quiet_step ((go_at_call 15; exact Calls.regrown_of (H3.out _)))
              repeat (go_big_quiet_step (fail))
              go_big_quiet_step ((go_at_call 18; exact Calls.regrown_of (H4.out _)))
              repeat (go_big_quiet_step (fail))
              go_big_quiet_step ((go_at_call 18; exact Calls.regrown_of (H5.out _)))
              repeat (go_big_quiet_step (fail))
              go_big_quiet_step ((go_at_call 18; exact Calls.regrown_of (H4.out _)))
              repeat (go_big_quiet_step (fail))
              go_big_quiet_step ((go_at_call 9; exact Calls.regrown_of (HF2.out _)))
              repeat (go_big_quiet_step (fail))
              go_big_quiet_step ((go_at_call 15; exact Calls.regrown_of (H6.out _)))
              repeat (go_big_quiet_step (fail))
              go_big_quiet_step ((go_at_call 15; exact Calls.regrown_of (H7.out _)))
              repeat (go_big_quiet_step (fail))
              go_big_quiet_step ((go_at_call 19; exact Calls.regrown_of (H8.out _)))
              repeat (go_big_quiet_step (fail))
              go_big_quiet_step ((go_at_call 19; exact Calls.regrown_of (H9.out _)))
              repeat (go_big_quiet_step (fail))
              refine wpQuiet_nil ?_
              intro _ hw'
              obtain ⟨⟨dq, osq⟩, hw''⟩ := hw'
              subst hw''
              go_wp2_with fail
              go_meet
              case rel => exact ⟨rfl, P.below (below_regrown _ dq osq), CB.below (below_regrown _ dq osq), below_next B5 (below_regrown _ dq osq)⟩
            · refine wp_region_quiet_below (by kernel_rfl) (by kernel_rfl) ?_
              repeat (go_big_quiet_step (fail))
              go_big_quiet_step ((go_at_call 15; exact Calls.regrown_of (H1.out _)))
              repeat (go_big_quiet_step (fail))
              go_big_quiet_step ((go_at_call 15; exact Calls.regrown_of (H2.out _)))
              repeat (go_big_quiet_step (fail))
              go_big_quiet_step ((go_at_call 15; exact Calls.regrown_of (H3.out _)))
              repeat (go_big_quiet_step (fail))
              go_big_quiet_step ((go_at_call 18; exact Calls.regrown_of (H4.out _)))
              repeat (go_big_quiet_step (fail))
              go_big_quiet_step ((go_at_call 18; exact Calls.regrown_of (H5.out _)))
              repeat (go_big_quiet_step (fail))
              go_big_quiet_step ((go_at_call 18; exact Calls.regrown_of (H4.out _)))
              repeat (go_big_quiet_step (fail))
              go_big_quiet_step ((go_at_call 9; exact Calls.regrown_of (HF2.out _)))
              repeat (go_big_quiet_step (fail))
              go_big_quiet_step ((go_at_call 15; exact Calls.regrown_of (H6.out _)))
              repeat (go_big_quiet_step (fail))
              go_big_quiet_step ((go_at_call 19; exact Calls.regrown_of (H8.out _)))
              repeat (go_big_quiet_step (fail))
              go_big_quiet_step ((go_at_call 19; exact Calls.regrown_of (H9.out _)))
              repeat (go_big_quiet_step (fail))
              refine wpQuiet_nil ?_
              intro _ hw'
              obtain ⟨⟨dq, osq⟩, hw''⟩ := hw'
              subst hw''
              go_wp2_with fail
              go_meet
              case rel => exact ⟨rfl, P.below (below_regrown _ dq osq), CB.below (below_regrown _ dq osq), below_next B5 (below_regrown _ dq osq)⟩
        · rw [Bool.true_or] at htri
          have hpq' : ¬ (u = t ∧ x = y ∧ (i : Int) = j) := fun h => by rw [decide_eq_true h] at htri; cases htri
          have hq := ifne4 hpq'
          clear hpq hpq' htri
          cases h1
          · refine wp_region_quiet_below (by kernel_rfl) (by kernel_rfl) ?_
            repeat (go_big_quiet_step (fail))
            go_big_quiet_step ((go_at_call 15; exact Calls.regrown_of (H1.out _)))
            repeat (go_big_quiet_step (fail))
            go_big_quiet_step ((go_at_call 15; exact Calls.regrown_of (H2.out _)))
            repeat (go_big_quiet_step (fail))
            go_big_quiet_step ((go_at_call 15; exact Calls.regrown_of (H3.out _)))
            repeat (go_big_quiet_step (fail))
            go_big_quiet_step ((go_at_call 18; exact Calls.regrown_of (H4.out _)))
            repeat (go_big_quiet_step (fail))
            go_big_quiet_step ((go_at_call 18; exact Calls.regrown_of (H5.out _)))
            repeat (go_big_quiet_step (fail))
            go_big_quiet_step ((go_at_call 18; exact Calls.regrown_of (H4.out _)))
            repeat (go_big_quiet_step (fail))
            go_big_quiet_step ((go_at_call 9; exact Calls.regrown_of (HF2.out _)))
            repeat (go_big_quiet_step (fail))
            go_big_quiet_step ((go_at_call 15; exact Calls.regrown_of (H6.out _)))
            repeat (go_big_quiet_step (fail))
            go_big_quiet_step ((go_at_call 15; exact Calls.regrown_of (H7.out _)))
            repeat (go_big_quiet_step (fail))
            go_big_quiet_step ((go_at_call 19; exact Calls.regrown_of (H8.out _)))
            repeat (go_big_quiet_step (fail))
            refine wpQuiet_nil ?_
            intro _ hw'
            obtain ⟨⟨dq, osq⟩, hw''⟩ := hw'
            subst hw''
            go_wp2_with fail
            go_meet
            case rel => exact ⟨rfl, P.below (below_regrown _ dq osq), CB.below (below_regrown _ dq osq), below_next B5 (below_regrown _ dq osq)⟩
          · refine wp_region_quiet_below (by kernel_rfl) (by kernel_rfl) ?_
            repeat (go_big_quiet_step (fail))
            go_big_quiet_step ((go_at_call 15; exact Calls.regrown_of (H1.out _)))
            repeat (go_big_quiet_step (fail))
            go_big_quiet_step ((go_at_call 15; exact Calls.regrown_of (H2.out _)))
            repeat (go_big_quiet_step (fail))
            go_big_quiet_step ((go_at_call 15; exact Calls.regrown_of (H3.out _)))
            repeat (go_big_quiet_step (fail))
            go_big_quiet_step ((go_at_call 18; exact Calls.regrown_of (H4.out _)))
            repeat (go_big_quiet_step (fail))
            go_big_quiet_step ((go_at_call 18; exact Calls.regrown_of (H5.out _)))
            repeat (go_big_quiet_step (fail))
            go_big_quiet_step ((go_at_call 18; exact Calls.regrown_of (H4.out _)))
            repeat (go_big_quiet_step (fail))
            go_big_quiet_step ((go_at_call 9; exact Calls.regrown_of (HF2.out _)))
            repeat (go_big_quiet_step (fail))
            go_big_quiet_step ((go_at_call 15; exact Calls.regrown_of (H6.out _)))
            repeat (go_big_quiet_step (fail))
            go_big_quiet_step ((go_at_call 19; exact Calls.regrown_of (H8.out _)))
            repeat (go_big_quiet_step (fail))
            refine wpQuiet_nil ?_
            intro _ hw'
            obtain ⟨⟨dq, osq⟩, hw''⟩ := hw'
            subst hw''
            go_wp2_with fail
            go_meet
            case rel => exact ⟨rfl, P.below (below_regrown _ dq osq), CB.below (below_regrown _ dq osq), below_next B5 (below_regrown _ dq osq)⟩
      case rest =>
        obtain ⟨rfl, P, CB, B6⟩ := hcut
        have G6 := HG.out.below B6
        have HNx := Lib.hid (fun w => refNext_x u L w HL.out.2.1 HL.out.1)
        obtain ⟨nb, hnb⟩ : ∃ b, nextB u L = b := ⟨_, rfl⟩
        obtain ⟨b0, b1, b2, bl⟩ := id CB
        cases nb
        · rw [show nextV u L = 0 by simp [nextV, hnb], show nextX u L = 0 by simp [nextX, hnb], hnb, hiQ_zero, loQ_zero] at HNx
          clear hnb
          go_wp2_with fail
          refine (HNx.out _).mono ?_
          rintro e w8 ⟨rfl, hb8⟩
          go_wp2_with fail
          refine (awake3_x _ ((G6.below hb8).alloc _)).mono ?_
          rintro e w9 ⟨rfl, hb9⟩
          go_wp2
          go_ret
          exact ⟨rfl, below_next (ball (below_next B6 hb8)) hb9⟩
        · rw [show nextV u L = u by simp [nextV, hnb], show nextX u L = L + 1 by simp [nextX, hnb], hnb] at HNx
          have hL1 : L + 1 < 340282366920938463463374607431768211456 := by
            simp [nextB, addB] at hnb; exact hnb.2.1
          have HH := Lib.hid (fun w => has_pis u x i u (L + 1) w HX.out.2 hL1 false HL.out.2.2.2.1)
          clear hnb hL1
          go_wp2_with fail
          refine (HNx.out _).mono ?_
          rintro e w8 ⟨rfl, hb8⟩
          obtain ⟨p0, p1, p2, p3, pl⟩ := P.below hb8
          go_wp2_with fail
          refine (HH.out _).mono ?_
          rintro e w9 ⟨rfl, hb9⟩
          have B9 := below_next (ball (below_next B6 hb8)) hb9
          go_wp2_with fail
          refine (awake3_x _ (HG.out.below B9)).mono ?_
          rintro e w10 ⟨rfl, hb10⟩
          go_wp2
          go_ret
          exact ⟨rfl, below_next B9 hb10⟩
end Go.Proofs.YtehhhjkajabliaaDoor
