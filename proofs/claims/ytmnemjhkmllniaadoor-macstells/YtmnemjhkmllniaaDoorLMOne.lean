/- MacsOne: for every number and every place the law answers true. -/
import Derived.Test.YtmnemjhkmllniaaDoorMs
namespace Go.Proofs.YtmnemjhkmllniaaDoor
open Go.ChangeShapes Go.WideShapes Go.RowKit Go.Sort

theorem and48 (a : Nat) (h : a < 18446744073709551616) : bits .and .u64 (a : Int) 281474976710655 = ((a % 281474976710656 : Nat) : Int) := by
  rw [show (281474976710655 : Int) = ((281474976710655 : Nat) : Int) by rfl, u64_and_nat _ _ h (by omega), show (281474976710655 : Nat) = 2 ^ 48 - 1 by rfl, Nat.and_two_pow_sub_one_eq_mod]
theorem byteC (w : World) (c : UInt8) (z : Int) (h : z = c.toNat) : (convert 32 9 (.slice (some ⟨w.heap.size, 0, none⟩) 1 1)).run Tryd.prog (w.alloc (.cells #[.int .u8 z] 5)) = .ok (.string (baS [c])) (w.alloc (.cells #[.int .u8 z] 5)) := by
  have := byteE w c.toNat c.toNat_lt
  rw [UInt8.ofNat_toNat] at this
  rw [h]; exact this
theorem byteD (w : World) (c : UInt8) (z : Int) (h : z = c.toNat) : (convert 32 9 (.slice (some ⟨w.heap.size, 0, none⟩) 1 1)).run Tryd.prog (w.alloc (.cells #[.int .u8 z] 5)).drew = .ok (.string (baS [c])) (w.alloc (.cells #[.int .u8 z] 5)).drew := by
  subst h
  refine run_convert_bytes_back (P := Tryd.prog) _ 32 9 5 ⟨w.heap.size, 0, none⟩ 1 [c] Tryd.underlying32 Tryd.underlying5 Tryd.underlying9 (fun j hj => ?_)
  show (w.alloc (.cells #[.int .u8 c.toNat] 5)).cell? _ = _
  obtain rfl : j = 0 := by simpa using hj
  simp [go_sem]
theorem upC_small {c : UInt8} (h : 97 ≤ c.toNat ∧ c.toNat ≤ 102) : ((c.toNat : Int) - 32) = (upC c).toNat := by
  unfold upC
  rw [if_pos h, UInt8.toNat_sub_of_le _ _ (by rw [UInt8.le_iff_toNat_le]; show 32 ≤ c.toNat; omega)]
  show (c.toNat : Int) - 32 = ((c.toNat - 32 : Nat) : Int)
  omega
theorem upC_else {c : UInt8} (h : ¬ (97 ≤ c.toNat ∧ c.toNat ≤ 102)) : (c.toNat : Int) = (upC c).toNat := by unfold upC; rw [if_neg h]
theorem take_up {s : Bs} {k : Nat} (hk : k < s.length) : (s.take (k + 1)).map upC = (s.take k).map upC ++ [upC (s[k]'hk)] := by
  rw [List.take_succ_eq_append_getElem hk, List.map_append]; rfl
set_option maxHeartbeats 8000000 in
set_option maxRecDepth 100000 in
theorem one_walk (n at_ : Int) (w : World) (hg : Gl w) (hn : 0 ≤ n ∧ n < 18446744073709551616) :
    Calls Tryd.prog 4 #[.int .u64 n, .int .i64 at_] w fun e w' => e = .returned (.bool true) ∧ Below w.heap.size w w' := by
  obtain ⟨a, rfl⟩ := Int.eq_ofNat_of_zero_le hn.1
  have hand := and48 a (by omega)
  have hM : a % 281474976710656 < 281474976710656 := Nat.mod_lt _ (by decide)
  generalize a % 281474976710656 = M at hand hM
  obtain ⟨q, hq, hqe⟩ : ∃ q : Nat, q < 17 ∧ (bits BinOp.and IntKind.i64 at_ 255).tmod 17 = (q : Int) := by
    rw [i64_and255, Int.tmod_eq_emod_of_nonneg (by omega)]
    exact ⟨(at_ % 256 % 17).toNat, by omega, by omega⟩
  have HG := Lib.hid hg
  have HP := Lib.hid (fun w hg => printM_yes M w hg hM)
  have hlen := tellM_len M
  have HB := Lib.hid (mac_back M hM)
  have HT := Lib.hid (fun z hz => turned M q hM hq z hz)
  generalize tellM M = s at *
  have hsz : (baS s).size = 17 := by rw [baS_len]; exact hlen
  clear hg hn hM
  go_enter Tryd.func4, Tryd.ntmps4
  go_wp2_with fail
  refine (HP.out _ HG.out).mono ?_
  rintro e w1 ⟨rfl, B1⟩
  clear HP hand
  go_wp2
  go_loopw [7, 8] (fun uv iv wr => ∃ (k : Nat), k ≤ 17 ∧ uv = .string (baS ((s.take k).map upC)) ∧ iv = .int .i64 k ∧ Below w.heap.size w wr)
    (fun _ iv _ => 17 - (intOf iv).toNat)
  case atStart => exact ⟨0, by omega, rfl, rfl, B1⟩
  case round =>
    obtain ⟨k, hk, rfl, rfl, hb⟩ := hrel
    by_cases hk17 : k < 17
    · have hk17' : (k : Int) < 17 := by omega
      have hkl : k < s.length := by omega
      have hat := baS_at s k hkl
      have HU := Lib.hid (take_up hkl)
      have hul : ((s.take k).map upC).length ≤ 17 := by rw [List.length_map, List.length_take]; omega
      generalize s[k]'hkl = c at hat HU
      generalize (s.take k).map upC = u at hul HU
      have hadd : ∀ V, (Op.stringOp .add (baS u) (baS [upC c])).run Tryd.prog V = .ok (.string (baS (u ++ [upC c]))) V := addS u [upC c] (by omega) (by simp)
      have hc256 : c.toNat < 256 := c.toNat_lt
      by_cases hc : 97 ≤ c.toNat ∧ c.toNat ≤ 102
      · have hcv := byteC wr (upC c) _ (upC_small hc)
        obtain ⟨h1, h2⟩ := hc
        have a1 : (97 : Int) ≤ c.toNat := by omega
        have a2 : (c.toNat : Int) ≤ 102 := by omega
        clear hkl hul
        go_wp2
        go_roundw
        case rel => exact ⟨k + 1, by omega, by rw [HU.out], by go_num, ball hb⟩
        case measure => simp [intOf]; omega
      · have hcv := byteC wr (upC c) _ (upC_else hc)
        clear hkl hul
        rcases (show c.toNat < 97 ∨ (97 ≤ c.toNat ∧ 102 < c.toNat) by omega) with h1 | ⟨h1, h2⟩
        · have a1 : ¬ (97 : Int) ≤ c.toNat := by omega
          clear hc
          go_wp2
          go_roundw
          case rel => exact ⟨k + 1, by omega, by rw [HU.out], by go_num, ball hb⟩
          case measure => simp [intOf]; omega
        · have a1 : (97 : Int) ≤ c.toNat := by omega
          have a2 : ¬ (c.toNat : Int) ≤ 102 := by omega
          clear hc
          go_wp2
          go_roundw
          case rel => exact ⟨k + 1, by omega, by rw [HU.out], by go_num, ball hb⟩
          case measure => simp [intOf]; omega
    · obtain rfl : k = 17 := by omega
      have eall : (s.take 17).map upC = s.map upC := by rw [List.take_of_length_le (by omega)]
      rw [eall]
      have HP2 : Hid (∀ w, Gl w → Calls Tryd.prog 6 #[.string (baS (s.map upC))] w fun e w' => e = .returned (.tuple #[.int .u64 (M : Nat), .bool true]) ∧ Below w.heap.size w w') := fun w hg =>
        parseM_is (baS (s.map upC)) (some M) w hg (by rw [baS_len, List.length_map]; omega) ((mac_up s).trans HB.out)
      generalize s.map upC = up at HP2
      have hql : q < s.length := by omega
      have hat := baS_at s q hql
      have hz := HT.out (s[q]'hql) (List.getElem?_eq_getElem hql)
      generalize s[q]'hql = z at hat hz
      have hq0 : (0 : Int) ≤ q := by omega
      have hq17 : (q : Int) < 17 := by omega
      have hsl1 := sliceTo s q (by omega)
      have hsl2 : ∀ V, (Instr.slice 9 (.string (baS s)) (some (.int .i64 ((q : Int) + 1))) none none).run Tryd.prog V = .ok (.string (baS (s.drop (q + 1)))) V := fun V => by
        have := sliceFrom s (q + 1) (by omega) V
        rw [show ((q + 1 : Nat) : Int) = (q : Int) + 1 by omega] at this; exact this
      have hwq : IntKind.i64.wrap ((q : Int) + 1) = (q : Int) + 1 := by rw [IntKind.wrap_i64]; omega
      have HZ := Lib.hid hz
      clear eall hql hz HT
      go_wp2_with fail
      refine (HP2.out _ (HG.out.below hb)).mono ?_
      rintro e w2 ⟨rfl, hb2⟩
      have B2 := below_next hb hb2
      clear hb hb2 HP2
      by_cases hz48 : z = 48
      · have e1 : ((z.toNat : Int) == 48) = true := by rw [hz48]; rfl
        have e2 : ((z.toNat : Int) != 58) = true := by rw [hz48]; rfl
        have hz := HZ.out
        rw [if_pos hz48] at hz
        rcases hz with ⟨h, _⟩ | ⟨_, r, hmac, hne⟩
        · exfalso; rw [hz48] at h; revert h; decide
        · have e3 : ((r : Int) != (M : Int)) = true := by rw [bne_iff_ne]; omega
          clear hz48 HZ hne
          have hcv1 := byteC w2 49 49 rfl
          have hcv2 := byteD w2 49 49 rfl
          have hadd1 : ∀ V, (Op.stringOp .add (baS (s.take q)) (baS [49])).run Tryd.prog V = .ok (.string (baS (s.take q ++ [49]))) V := addS _ [49] (by rw [List.length_take]; omega) (by simp)
          have hadd2 : ∀ V, (Op.stringOp .add (baS (s.take q ++ [49])) (baS (s.drop (q + 1)))).run Tryd.prog V = .ok (.string (baS (turnS s q 49))) V := addS _ _ (by rw [List.length_append, List.length_take]; simp; omega) (by rw [List.length_drop]; omega)
          have HP3 : Hid (∀ w, Gl w → Calls Tryd.prog 6 #[.string (baS (turnS s q 49))] w fun e w' => e = .returned (.tuple #[.int .u64 (r : Nat), .bool true]) ∧ Below w.heap.size w w') := fun w hg =>
            parseM_is (baS (turnS s q 49)) (some r) w hg (by rw [baS_len]; unfold turnS; simp; omega) hmac
          generalize turnS s q 49 = t at *
          clear hmac hlen
          have hgl := HG.out.below B2
          have HW := Lib.hid hgl
          clear hgl
          go_upto_region 76 with fail
          have GA := Lib.hid (HW.out.alloc (.cells #[.int .u8 49] 5))
          have GB : Hid (Gl (w2.alloc (.cells #[.int .u8 49] 5)).drew) := HW.out.below (Below.drew (ball (Below.refl _ _)))
          have HPa := Lib.hid (HP3.out _ GA.out)
          have HPb := Lib.hid (HP3.out _ GB.out)
          go_region_with (go_at_call 6; (first | refine HPa.out.mono ?_ | refine HPb.out.mono ?_); rintro e w3 ⟨rfl, hb3⟩)
          have B3 : Below w.heap.size w w3 := below_next (by first | exact ball B2 | exact Below.drew (ball B2) | exact ball (Below.drew B2)) hb3
          clear hb3 hcv1 hcv2 hadd1 hadd2
          go_wp2_with fail
          refine (awake5_x _ (HG.out.below (by first | exact B3 | exact Below.drew B3))).mono ?_
          rintro e w4 ⟨rfl, hb4⟩
          go_wp2
          go_ret
          exact ⟨rfl, below_next (by first | exact B3 | exact Below.drew B3) hb4⟩
      · have e1 : ((z.toNat : Int) == 48) = false := by
          rw [beq_eq_false_iff_ne]; intro e; exact hz48 (UInt8.toNat_inj.1 (by simpa using Int.ofNat_inj.1 e))
        have hz := HZ.out
        rw [if_neg hz48] at hz
        rcases hz with ⟨h, hmac⟩ | ⟨h, r, hmac, hne⟩
        · have e2 : ((z.toNat : Int) != 58) = false := by rw [h]; rfl
          clear hz48 HZ h
          have hcv1 := byteC w2 48 48 rfl
          have hcv2 := byteD w2 48 48 rfl
          have hadd1 : ∀ V, (Op.stringOp .add (baS (s.take q)) (baS [48])).run Tryd.prog V = .ok (.string (baS (s.take q ++ [48]))) V := addS _ [48] (by rw [List.length_take]; omega) (by simp)
          have hadd2 : ∀ V, (Op.stringOp .add (baS (s.take q ++ [48])) (baS (s.drop (q + 1)))).run Tryd.prog V = .ok (.string (baS (turnS s q 48))) V := addS _ _ (by rw [List.length_append, List.length_take]; simp; omega) (by rw [List.length_drop]; omega)
          have HP3 : Hid (∀ w, Gl w → Calls Tryd.prog 6 #[.string (baS (turnS s q 48))] w fun e w' => e = .returned (.tuple #[.int .u64 0, .bool false]) ∧ Below w.heap.size w w') := fun w hg =>
            parseM_is (baS (turnS s q 48)) (none) w hg (by rw [baS_len]; unfold turnS; simp; omega) hmac
          generalize turnS s q 48 = t at *
          clear hmac hlen
          have hgl := HG.out.below B2
          have HW := Lib.hid hgl
          clear hgl
          go_upto_region 76 with fail
          have GA := Lib.hid (HW.out.alloc (.cells #[.int .u8 48] 5))
          have GB : Hid (Gl (w2.alloc (.cells #[.int .u8 48] 5)).drew) := HW.out.below (Below.drew (ball (Below.refl _ _)))
          have HPa := Lib.hid (HP3.out _ GA.out)
          have HPb := Lib.hid (HP3.out _ GB.out)
          go_region_with (go_at_call 6; (first | refine HPa.out.mono ?_ | refine HPb.out.mono ?_); rintro e w3 ⟨rfl, hb3⟩)
          have B3 : Below w.heap.size w w3 := below_next (by first | exact ball B2 | exact Below.drew (ball B2) | exact ball (Below.drew B2)) hb3
          clear hb3 hcv1 hcv2 hadd1 hadd2
          go_wp2_with fail
          refine (awake5_x _ (HG.out.below (by first | exact B3 | exact Below.drew B3))).mono ?_
          rintro e w4 ⟨rfl, hb4⟩
          go_wp2
          go_ret
          exact ⟨rfl, below_next (by first | exact B3 | exact Below.drew B3) hb4⟩
        · have e2 : ((z.toNat : Int) != 58) = true := by
            rw [bne_iff_ne]; intro e; exact h (UInt8.toNat_inj.1 (by simpa using Int.ofNat_inj.1 e))
          have e3 : ((r : Int) != (M : Int)) = true := by rw [bne_iff_ne]; omega
          clear hz48 HZ h hne
          have hcv1 := byteC w2 48 48 rfl
          have hcv2 := byteD w2 48 48 rfl
          have hadd1 : ∀ V, (Op.stringOp .add (baS (s.take q)) (baS [48])).run Tryd.prog V = .ok (.string (baS (s.take q ++ [48]))) V := addS _ [48] (by rw [List.length_take]; omega) (by simp)
          have hadd2 : ∀ V, (Op.stringOp .add (baS (s.take q ++ [48])) (baS (s.drop (q + 1)))).run Tryd.prog V = .ok (.string (baS (turnS s q 48))) V := addS _ _ (by rw [List.length_append, List.length_take]; simp; omega) (by rw [List.length_drop]; omega)
          have HP3 : Hid (∀ w, Gl w → Calls Tryd.prog 6 #[.string (baS (turnS s q 48))] w fun e w' => e = .returned (.tuple #[.int .u64 (r : Nat), .bool true]) ∧ Below w.heap.size w w') := fun w hg =>
            parseM_is (baS (turnS s q 48)) (some r) w hg (by rw [baS_len]; unfold turnS; simp; omega) hmac
          generalize turnS s q 48 = t at *
          clear hmac hlen
          have hgl := HG.out.below B2
          have HW := Lib.hid hgl
          clear hgl
          go_upto_region 76 with fail
          have GA := Lib.hid (HW.out.alloc (.cells #[.int .u8 48] 5))
          have GB : Hid (Gl (w2.alloc (.cells #[.int .u8 48] 5)).drew) := HW.out.below (Below.drew (ball (Below.refl _ _)))
          have HPa := Lib.hid (HP3.out _ GA.out)
          have HPb := Lib.hid (HP3.out _ GB.out)
          go_region_with (go_at_call 6; (first | refine HPa.out.mono ?_ | refine HPb.out.mono ?_); rintro e w3 ⟨rfl, hb3⟩)
          have B3 : Below w.heap.size w w3 := below_next (by first | exact ball B2 | exact Below.drew (ball B2) | exact ball (Below.drew B2)) hb3
          clear hb3 hcv1 hcv2 hadd1 hadd2
          go_wp2_with fail
          refine (awake5_x _ (HG.out.below (by first | exact B3 | exact Below.drew B3))).mono ?_
          rintro e w4 ⟨rfl, hb4⟩
          go_wp2
          go_ret
          exact ⟨rfl, below_next (by first | exact B3 | exact Below.drew B3) hb4⟩
end Go.Proofs.YtmnemjhkmllniaaDoor
