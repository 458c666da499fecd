/- RangCount: whatever the numbers, the law answers true. -/
import Derived.Test.YtkmbfnjmgimlhaaGreatDoorzLCover
namespace Go.Proofs.YtkmbfnjmgimlhaaGreatDoor
open Go.ChangeShapes Go.WideShapes Go.RowKit Go.Sort

theorem i64_and4095 (n : Int) : bits .and .i64 n 4095 = n % 4096 := by
  have h255 : (BitVec.ofInt 64 4095).toNat = 2 ^ 12 - 1 := by decide
  have h : (BitVec.ofInt 64 n &&& BitVec.ofInt 64 4095).toNat = (n % ((2 ^ 64 : Nat) : Int)).toNat % 2 ^ 12 := by
    rw [BitVec.toNat_and, BitVec.toNat_ofInt, h255, Nat.and_two_pow_sub_one_eq_mod]
  show IntKind.i64.wrap ((BitVec.ofInt 64 n &&& BitVec.ofInt 64 4095).toNat : Nat) = n % 4096
  rw [h, IntKind.wrap_i64]
  omega
theorem and4095_nat (n : Int) : ∃ k : Nat, k < 4096 ∧ bits .and .i64 n 4095 = (k : Int) := ⟨(n % 4096).toNat, by omega, by rw [i64_and4095]; omega⟩
theorem pow_le_log {k n : Nat} (h : 2 ^ k ≤ n) (hn : n < 2 ^ 13) : k ≤ 12 := by
  have := pow_lt_iff (Nat.lt_of_le_of_lt h hn); omega
theorem w64_small (n : Nat) (h : n < 1000000000) : wrap64 (n : Int) = (n : Int) := by unfold wrap64; omega
theorem sum_small (s q : Nat) (hs : s ≤ 5000000) (hq : q ≤ 2 ^ 12) : wrap64 ((s : Int) + wrap64 (q : Int)) = ((s + q : Nat) : Int) := by
  have hq' : q ≤ 4096 := hq
  rw [w64_small q (by omega), ← Int.natCast_add, w64_small (s + q) (by omega)]
theorem sizes_take {l : List (Nat × Nat)} {i : Nat} {p : Nat × Nat} (h : l[i]? = some p) : sizes (l.take (i + 1)) = sizes (l.take i) + 2 ^ p.2 := by
  rw [List.take_add_one, h, sizes_append]; simp [sizes]
set_option maxHeartbeats 16000000 in
set_option maxRecDepth 100000 in
theorem count_walk (v a b n k : Int) (w : World) (hg : Gl w) (ha : 0 ≤ a ∧ a < 18446744073709551616) (hb : 0 ≤ b ∧ b < 18446744073709551616) :
    Calls Tryz.prog 6 #[.int .i64 v, .int .u64 a, .int .u64 b, .int .i64 n, .int .i64 k] w fun e w' => e = .returned (.bool true) ∧ Below w.heap.size w w' := by
  have HG := Lib.hid hg
  have HA := Lib.hid (fun w => addr_x v a b w ha hb)
  have HPre := Lib.hid (fun w => pre_x v a b k w ha hb)
  obtain ⟨m, hm, hmn⟩ := and4095_nat n
  have hcv : IntKind.u64.wrap (m : Int) = (m : Int) := by rw [IntKind.wrap_u64]; omega
  clear hg ha hb
  go_enter Tryz.func6, Tryz.ntmps6
  go_wp2_with fail
  refine (HA.out _).mono ?_
  rintro e w1 ⟨⟨u, x, rfl, ho, hx⟩, hb1⟩
  have HAdd := Lib.hid (fun w => refAddS_x x (m : Int) w hx (by omega) (by omega))
  rw [Int.toNat_natCast] at HAdd
  have HO := Lib.hid (And.intro ho hx)
  have G1 := HG.out.below hb1
  clear ho hx HG HA
  go_wp2_with fail
  refine (HAdd.out _).mono ?_
  rintro e w2 ⟨rfl, hb2⟩
  have C2 := (cl_new w1 u (hiQ x) (loQ x)).below hb2
  have G2 := (G1.alloc (.cells #[.int .i64 u, .int .u64 (hiQ x), .int .u64 (loQ x)] 28)).below hb2
  have B2 := below_next (ball hb1) hb2
  have HY := Lib.hid (addR_lt x m)
  have hY1 : addB x m = true → addR x m = x + m := fun h => if_pos (of_decide_eq_true h)
  have HY1 := Lib.hid hY1
  generalize addB x m = bb at *
  generalize addR x m = y at *
  clear hY1 hb1 hb2 G1 HAdd
  obtain ⟨c0, c1, c2, cl⟩ := id C2
  have D3 : Cl ((w2.alloc (.cells #[.int .u64 (hiQ y), .int .u64 (loQ y)] 26)).alloc (.cells #[.int .i64 u, .int .u64 (hiQ y), .int .u64 (loQ y)] 28)) (w2.heap.size + 1) u (hiQ y) (loQ y) := by
    have := cl_new (w2.alloc (.cells #[.int .u64 (hiQ y), .int .u64 (loQ y)] 26)) u (hiQ y) (loQ y)
    rw [World.size_alloc] at this; exact this
  have C3 := (C2.alloc (.cells #[.int .u64 (hiQ y), .int .u64 (loQ y)] 26)).alloc (.cells #[.int .i64 u, .int .u64 (hiQ y), .int .u64 (loQ y)] 28)
  have G3 := (G2.alloc (.cells #[.int .u64 (hiQ y), .int .u64 (loQ y)] 26)).alloc (.cells #[.int .i64 u, .int .u64 (hiQ y), .int .u64 (loQ y)] 28)
  have B3 := ball (o := .cells #[.int .i64 u, .int .u64 (hiQ y), .int .u64 (loQ y)] 28) (ball (o := .cells #[.int .u64 (hiQ y), .int .u64 (loQ y)] 26) B2)
  go_upto_region 5 with fail
  clear c0 c1 c2 cl C2 G2 B2
  generalize (w2.alloc (.cells #[.int .u64 (hiQ y), .int .u64 (loQ y)] 26)).alloc (.cells #[.int .i64 u, .int .u64 (hiQ y), .int .u64 (loQ y)] 28) = U at *
  obtain ⟨d0, d1, d2, dl⟩ := id D3
  cases bb
  · go_wp2_with fail
    refine (awake4_x _ G3).mono ?_
    rintro e w5 ⟨rfl, hb5⟩
    have B5 := below_next B3 hb5
    clear d0 d1 d2 dl
    go_wp2
    go_ret
    exact ⟨rfl, B5⟩
  · have hy : Hid (y = x + m) := HY1.out rfl
    cases hk : okV u y
    · have HK := Lib.hid hk
      clear hk
      go_wp2_with fail
      refine (refOkA_is _ _ _ HY.out _ HK.out).mono ?_
      rintro e w5 ⟨rfl, hb5⟩
      have G5 := G3.below hb5
      have B5 := below_next B3 hb5
      clear d0 d1 d2 dl
      go_wp2_with fail
      refine (awake4_x _ G5).mono ?_
      rintro e w6 ⟨rfl, hb6⟩
      have B6 := below_next B5 hb6
      go_wp2
      go_ret
      exact ⟨rfl, B6⟩
    · have HK := Lib.hid hk
      have hok : okR u x u y = true := okR_of HO.out.1 hk (by rw [hy.out]; omega)
      have HC := Lib.hid (fun w hg => cover_x u x u y w hg HO.out.2 HY.out)
      have hcov := cov_of hok HY.out
      have hsz : sizes (coverR u x u y) = m + 1 := by rw [coverR_yes hok, cover_sizes (by rw [hy.out]; omega), hy.out]; omega
      have hcnt : (coverR u x u y).length ≤ 258 := coverR_count HY.out
      have h13 : ∀ p ∈ coverR u x u y, p.2 ≤ 12 := fun p hp => by
        obtain ⟨_, _, _, _, e1, e2⟩ := hcov.each p hp
        exact pow_le_log (n := 4096) (by have := hy.out; omega) (by decide)
      generalize coverR u x u y = l at *
      have HCov := Lib.hid (And.intro hcov (And.intro hsz h13))
      clear hk hok hcov hsz h13
      go_wp2_with fail
      refine (refOkA_is _ _ _ HY.out _ HK.out).mono ?_
      rintro e w5 ⟨rfl, hb5⟩
      have G5 := G3.below hb5
      have B5 := below_next B3 hb5
      have C5 := C3.below hb5
      have D5 := D3.below hb5
      clear d0 d1 d2 dl C3 D3 G3 B3 hb5
      obtain ⟨c0, c1, c2, cl⟩ := id C5
      obtain ⟨d0, d1, d2, dl⟩ := id D5
      go_wp2_with fail
      refine (HC.out _ G5.tz).mono ?_
      rintro e w6 ⟨hb6, pc, c, rfl, hcc, hrow⟩
      obtain ⟨k0, r0, hl0⟩ := HCov.out.1.head
      obtain ⟨gc, rfl, hgc0, hgcl, hR⟩ := hrow.resolve_left (fun h => by rw [h.1] at hl0; cases hl0)
      have G6 := Lib.hid (G5.below hb6)
      have B6 := below_next B5 hb6
      have C6 := C5.below hb6
      obtain ⟨L, hL⟩ : ∃ L, l.length = L := ⟨_, rfl⟩
      have HL := Lib.hid hL
      have HR := Lib.hid hR
      rw [hL] at hcc hcnt ⊢
      clear c0 c1 c2 cl d0 d1 d2 dl C5 D5 G5 B5 hb6 hrow hR hl0 hL HC hgc0
      go_wp2_with fail
      go_loopw [15, 52] (fun sv iv wr => ∃ i s : Nat, sv = .int .i64 s ∧ iv = .int .i64 i ∧ i ≤ L ∧ Hid (s = sizes (l.take i)) ∧ s ≤ 5000000 ∧ s ≤ i * 4096 ∧ Below w6.heap.size w6 wr)
        (fun _ iv _ => L - (intOf iv).toNat)
      case atStart => exact ⟨0, 0, rfl, rfl, by omega, rfl, by omega, by omega, Below.refl _ _⟩
      case round =>
        obtain ⟨i, s, rfl, rfl, hi, hs, hs2, hs3, hbr⟩ := hrel
        by_cases hiL : i < L
        · have hi1 : (i : Int) < L := by omega
          have hi2 : (i : Int) < c := by omega
          have hi0 : (0 : Int) ≤ i := by omega
          obtain ⟨⟨a1, k1⟩, hget⟩ : ∃ p, l[i]? = some p := ⟨_, List.getElem?_eq_getElem (by rw [HL.out]; exact hiL)⟩
          have hk12 := HCov.out.2.2 _ (List.mem_of_getElem? hget)
          have hp12 := pow_le hk12
          obtain ⟨x1, x2, x3, x4, _⟩ := HCov.out.1.each _ (List.mem_of_getElem? hget)
          simp only at hk12 hp12 x2
          obtain ⟨p0, p1, p2, p3⟩ := HR.out i a1 k1 hget
          obtain ⟨kc, lc⟩ := keep hbr gc hgcl
          have e0 := (kc _).trans p0; have e1 := (kc _).trans p1; have e2 := (kc _).trans p2; have e3 := (kc _).trans p3
          have C7 := C6.below hbr
          have hst := sizes_take hget
          have HN : Hid (s + 2 ^ k1 = sizes (l.take (i + 1))) := by show _ = _; rw [hst, ← hs.out]
          have hbit := bitsV_le u
          have HBits := Lib.hid (refBits_x u)
          have hs1 : IntKind.i64.wrap ((bitsV u : Int) - ((bitsV u : Int) - k1)) = (k1 : Int) := by rw [IntKind.wrap_i64]; omega
          generalize bitsV u = b0 at *
          clear p0 p1 p2 p3 kc hget x1 x3 x4 hst hs
          go_upto_region 11 with fail
          have P8 := pl_new wr u (hiQ a1) (loQ a1) ((b0 : Int) - k1)
          have C8 := C7.alloc (.cells #[.int .i64 u, .int .u64 (hiQ a1), .int .u64 (loQ a1), .int .i64 ((b0 : Int) - k1)] 30)
          have B8 := ball (o := .cells #[.int .i64 u, .int .u64 (hiQ a1), .int .u64 (loQ a1), .int .i64 ((b0 : Int) - k1)] 30) hbr
          clear e0 e1 e2 e3 C7 hbr lc
          generalize wr.alloc (.cells #[.int .i64 u, .int .u64 (hiQ a1), .int .u64 (loQ a1), .int .i64 ((b0 : Int) - k1)] 30) = X at *
          generalize wr.heap.size = E at *
          have f0 := cell_regrown C8.c0; have f3 := cell_regrown P8.c3
          have hqi : ((2 : Int) ^ k1) = ((2 ^ k1 : Nat) : Int) := (Int.natCast_pow 2 k1).symm
          have hfin : wrap64 ((s : Int) + wrap64 ((2 : Int) ^ k1)) = ((s + 2 ^ k1 : Nat) : Int) := by
            rw [hqi]; exact sum_small s _ hs2 hp12
          have HFin := Lib.hid hfin
          have HQ : Hid ((2 : Nat) ^ k1 ≤ 4096) := hp12
          clear hqi hfin hp12
          have hku : IntKind.u64.wrap (k1 : Int) = (k1 : Int) := by rw [IntKind.wrap_u64]; omega
          refine wp_region_quiet_below (by kernel_rfl) (by kernel_rfl) ?_
          repeat (go_big_quiet_step (first
            | (go_at_call 45; exact Calls.regrown_of (HBits.out _))))
          refine wpQuiet_nil ?_
          intro _ hw'
          obtain ⟨⟨dq, osq⟩, hw''⟩ := hw'
          subst hw''
          have BR := below_next B8 (below_regrown X dq osq)
          dsimp only at *
          generalize grow (redrawn X dq) osq = Y at *
          clear f0 f3 P8 C8 B8 hku hs1 HBits
          go_wp2
          go_roundw
          case rel =>
            have hq := HQ.out
            exact ⟨i + 1, s + 2 ^ k1, by rw [HFin.out], by go_num, by omega, HN.out, by omega, by omega, BR⟩
          case measure => simp [intOf]; omega
        · obtain rfl : i = L := by omega
          have hil : ¬ ((i : Int) < i) := by omega
          have hsm : s = m + 1 := by rw [hs.out, List.take_of_length_le (by rw [HL.out]; omega)]; exact HCov.out.2.1
          subst hsm
          have G7 := G6.out.below hbr
          have B7 := below_next B6 hbr
          clear hs hs2 hs3 C6 G6 B6 hbr HR hcc hcnt hi
          go_wp2_with fail
          refine (HPre.out _).mono ?_
          rintro e w7 ⟨⟨u', z, m', rfl, hop, hzl⟩, hb7⟩
          obtain ⟨oz, _, om, od⟩ := okP_is hop
          have hm128 := bitsV_le u'
          obtain ⟨kk, hkk⟩ : ∃ kk : Nat, hostK u' m' = kk := ⟨_, rfl⟩
          have hkm : (m' : Int) = (bitsV u' : Int) - kk := by rw [← hkk]; unfold hostK; omega
          have hkb : kk ≤ bitsV u' := by rw [← hkk]; unfold hostK; omega
          rw [hkk] at od
          obtain ⟨z2, hz2⟩ : ∃ z2, z + (2 ^ kk - 1) = z2 := ⟨_, rfl⟩
          have hz2l := last_ok hop hzl
          rw [hkk, hz2] at hz2l
          have hz2b : z2 < 340282366920938463463374607431768211456 := Nat.lt_of_lt_of_le hz2l (pow_bits_le u')
          have HLst := Lib.hid (fun w => refLast_is u' z kk w hzl hkb oz (cutK_dvd.1 od) z2 hz2)
          have hok2 : okR u' z u' z2 = true := okR_of oz (okV_of (okV_v oz) hz2l) (by omega)
          have HCv := Lib.hid (fun w ht => cover_x u' z u' z2 w ht hzl hz2b)
          rw [coverR_yes hok2, ← hz2, cover_one (by omega) (cutK_dvd.1 od), hz2] at HCv
          rw [hkm]
          have G8 := (G7.below hb7).alloc (.cells #[.int .i64 u', .int .u64 (hiQ z), .int .u64 (loQ z), .int .i64 ((bitsV u' : Int) - kk)] 30)
          have B8 := ball (o := .cells #[.int .i64 u', .int .u64 (hiQ z), .int .u64 (loQ z), .int .i64 ((bitsV u' : Int) - kk)] 30) (below_next B7 hb7)
          have P8 := pl_new w7 u' (hiQ z) (loQ z) ((bitsV u' : Int) - kk)
          have hrowK : Hid (∀ (W : World) (g : Nat), RowP W g u' [(z, kk)] → W.cell? ⟨g, 0, none⟩ = some (.int .i64 u') ∧ W.cell? ⟨g, 1, none⟩ = some (.int .u64 (hiQ z)) ∧ W.cell? ⟨g, 2, none⟩ = some (.int .u64 (loQ z)) ∧ W.cell? ⟨g, 3, none⟩ = some (.int .i64 ((bitsV u' : Int) - kk))) := fun W g h => h 0 z kk rfl
          clear hop hzl oz om od hm128 hkk hkm hkb hz2 hz2l hz2b hok2 hb7 G7 B7 HPre HCov
          go_upto_region 14 with fail
          generalize (bitsV u' : Int) - kk = n7 at *
          generalize w7.alloc (.cells #[.int .i64 u', .int .u64 (hiQ z), .int .u64 (loQ z), .int .i64 n7] 30) = X at *
          generalize w7.heap.size = E at *
          obtain ⟨p0, p1, p2, p3, pl⟩ := id P8
          go_cut [19] (fun sv wx => ∃ g c, sv = .slice (some ⟨g, 0, none⟩) 1 c ∧ 1 ≤ c ∧ g < wx.heap.size ∧ wx.cell? ⟨g, 0, none⟩ = some (.int .i64 u') ∧ wx.cell? ⟨g, 1, none⟩ = some (.int .u64 (hiQ z)) ∧ wx.cell? ⟨g, 2, none⟩ = some (.int .u64 (loQ z)) ∧ wx.cell? ⟨g, 3, none⟩ = some (.int .i64 n7) ∧ Below X.heap.size X wx)
          case first =>
            go_region_held3 (fun w' => w'.cell? ⟨E, 0, none⟩ = some (.int .i64 u') ∧ w'.cell? ⟨E, 1, none⟩ = some (.int .u64 (hiQ z)) ∧ w'.cell? ⟨E, 2, none⟩ = some (.int .u64 (loQ z)) ∧ w'.cell? ⟨E, 3, none⟩ = some (.int .i64 n7)) (go_keep)
              (first
                | (go_at_call 25; refine (HLst.out _).mono ?_; rintro e w8 ⟨rfl, hb8⟩; obtain ⟨k8, l8⟩ := keep hb8 E (by first | omega | (simp; omega)); have K8 : Below X.heap.size X w8 := below_next (by repeat (first | exact Below.refl _ _ | apply Below.drew)) hb8)
                | (go_at_call 33; refine (HCv.out _ (G8.below (by repeat (first | exact K8 | apply Below.drew))).tz).mono ?_; rintro e w9 ⟨hb9, pc9, c9, rfl, hc9, hr9⟩; have T9 := hr9.resolve_left (fun h => by cases h.1); obtain ⟨g9, rfl, hg90, hg9, hR9⟩ := T9; obtain ⟨i0, i1, i2, i3⟩ := hrowK.out _ _ hR9; have K9 : Below X.heap.size X w9 := below_next (by repeat (first | exact K8 | apply Below.drew)) hb9; obtain ⟨k9, l9⟩ := keep K9 E pl))
            all_goals
              go_wp2_with fail
              go_meet
            all_goals exact ⟨g9, c9, rfl, hc9, hg9, i0, i1, i2, i3, K9⟩
          case rest =>
            obtain ⟨g9, c9, rfl, hc9, hg9, i0, i1, i2, i3, K9⟩ := hcut
            have B9 := below_next B8 K9
            have G9 := Lib.hid (G8.below K9)
            have P9 := P8.below K9
            have f0 := cell_regrown i0; have f1 := cell_regrown i1; have f2 := cell_regrown i2; have f3 := cell_regrown i3
            have q0 := cell_regrown P9.c0; have q1 := cell_regrown P9.c1; have q2 := cell_regrown P9.c2; have q3 := cell_regrown P9.c3
            have hwm : IntKind.i64.wrap ((m : Int) + 1) = (m : Int) + 1 := by rw [IntKind.wrap_i64]; omega
            clear p0 p1 p2 p3 pl G8 P8 B8 i0 i1 i2 i3 HCv HLst
            go_wp2_with fail
            refine wp_region_quiet_below (by kernel_rfl) (by kernel_rfl) ?_
            repeat (go_big_quiet_step (first
              | (go_at_call 34; exact Calls.regrown_of (awake4_x _ (G9.out.below (below_regrown wc _ _))))))
            refine wpQuiet_nil ?_
            intro _ hw'
            obtain ⟨⟨dq, osq⟩, hw''⟩ := hw'
            subst hw''
            have BR := below_next B9 (below_regrown wc dq osq)
            dsimp only at *
            go_wp2
            go_ret
            exact ⟨rfl, BR⟩
end Go.Proofs.YtkmbfnjmgimlhaaGreatDoor
