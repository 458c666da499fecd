/- DateNums: for any number, bound and noughts ahead the law answers true. -/
import Derived.Test.YtjoiedomdliadaaDoorDe
namespace Go.Proofs.YtjoiedomdliadaaDoor
open Go.ChangeShapes Go.WideShapes Go.RowKit Go.Sort

theorem i64_and3 (n : Int) : bits .and .i64 n 3 = n % 4 := by
  have h255 : (BitVec.ofInt 64 3).toNat = 2 ^ 2 - 1 := by decide
  have h : (BitVec.ofInt 64 n &&& BitVec.ofInt 64 3).toNat = (n % ((2 ^ 64 : Nat) : Int)).toNat % 2 ^ 2 := by
    rw [BitVec.toNat_and, BitVec.toNat_ofInt, h255, Nat.and_two_pow_sub_one_eq_mod]
  show IntKind.i64.wrap ((BitVec.ofInt 64 n &&& BitVec.ofInt 64 3).toNat : Nat) = n % 4
  rw [h, IntKind.wrap_i64]
  omega
theorem and3_nat (n : Int) : ∃ k : Nat, k < 4 ∧ bits .and .i64 n 3 = (k : Int) := ⟨(n % 4).toNat, by omega, by rw [i64_and3]; omega⟩
def zerosT (k : Nat) : Bs := List.replicate k 48
theorem zerosT_next (k : Nat) : zerosT k ++ [48] = zerosT (k + 1) := by unfold zerosT; rw [← List.replicate_succ']
theorem num_zeros (M k : Nat) (l : Bs) (h : l ≠ []) : numU M (zerosT (k + 1) ++ l) = none := by
  unfold zerosT
  rw [List.replicate_succ, List.cons_append]
  exact num_zero M _ (by intro e; exact h (List.append_eq_nil_iff.1 e).2)
theorem numD_none (s : ByteArray) (l : Bs) (w : World) (hg : Gl w) (hs : s = baS l) (hl : l.length < 4294967281) (h : numU 18446744073709551615 l = none) :
    Calls Tryd.prog 12 #[.string s, .int .u64 18446744073709551615] w fun e w' => e = .returned (.tuple #[.int .u64 0, .bool false]) ∧ Below w.heap.size w w' := by
  have := numD_x l 18446744073709551615 w hg hl (by decide)
  rw [h] at this
  rw [hs]
  exact this
set_option maxHeartbeats 4000000 in
set_option maxRecDepth 100000 in
theorem dnums_walk (n most k : Int) (w : World) (hg : Gl w) (hn : 0 ≤ n ∧ n < 18446744073709551616) (hm : 0 ≤ most ∧ most < 18446744073709551616) :
    Calls Tryd.prog 4 #[.int .u64 n, .int .u64 most, .int .i64 k] w fun e w' => e = .returned (.bool true) ∧ Below w.heap.size w w' := by
  obtain ⟨a, rfl⟩ := Int.eq_ofNat_of_zero_le hn.1
  obtain ⟨M, rfl⟩ := Int.eq_ofNat_of_zero_le hm.1
  have ha : a < 18446744073709551616 := by omega
  have hM : M < 18446744073709551616 := by omega
  obtain ⟨z, hz, hze⟩ := and3_nat k
  have HG := Lib.hid hg
  have hlen := digs_len a ha
  have hne := digs_ne a
  have KT := Lib.hid (fun w hg => textD_x a w hg ha)
  have K0 := Lib.hid (fun w hg => numD_x (Lib.decDigits a) M w hg (by omega) hM)
  have K1 : Hid (∀ w, Gl w → Calls Tryd.prog 12 #[.string (baS (zerosT (z + 1) ++ Lib.decDigits a)), .int .u64 18446744073709551615] w fun e w' => e = .returned (.tuple #[.int .u64 0, .bool false]) ∧ Below w.heap.size w w') := fun w hg =>
    numD_none _ _ w hg rfl (by simp [zerosT]; omega) (num_zeros _ _ _ hne)
  have K2 : Hid (∀ w, Gl w → Calls Tryd.prog 12 #[.string (baS (43 :: Lib.decDigits a)), .int .u64 18446744073709551615] w fun e w' => e = .returned (.tuple #[.int .u64 0, .bool false]) ∧ Below w.heap.size w w') := fun w hg =>
    numD_none _ _ w hg rfl (by simp; omega) (num_sign _ _ _ (by decide))
  have K3 : Hid (∀ w, Gl w → Calls Tryd.prog 12 #[.string ⟨#[]⟩, .int .u64 18446744073709551615] w fun e w' => e = .returned (.tuple #[.int .u64 0, .bool false]) ∧ Below w.heap.size w w') := fun w hg =>
    numD_none _ [] w hg rfl (by simp) (num_empty _)
  have K4 : Hid (∀ w, Gl w → Calls Tryd.prog 12 #[.string (baS (Lib.decDigits a)), .int .u64 (a : Nat)] w fun e w' => e = .returned (.tuple #[.int .u64 (a : Nat), .bool true]) ∧ Below w.heap.size w w') := fun w hg => by
    have := numD_x (Lib.decDigits a) a w hg (by omega) ha
    rw [num_back, if_pos (Nat.le_refl _)] at this
    exact this
  have K5 : Hid (∀ w, Gl w → Calls Tryd.prog 12 #[.string (baS (Lib.decDigits a ++ zerosT 20)), .int .u64 18446744073709551615] w fun e w' => e = .returned (.tuple #[.int .u64 0, .bool false]) ∧ Below w.heap.size w w') := fun w hg =>
    numD_none _ _ w hg rfl (by simp [zerosT]; omega) (num_far _ _ _ (by decide) hne (by simp [zerosT]))
  have hb := num_back M a
  rw [hb] at K0
  have ad1 : ∀ V, (Op.stringOp .add (baS (zerosT (z + 1))) (baS (Lib.decDigits a))).run Tryd.prog V = .ok (.string (baS (zerosT (z + 1) ++ Lib.decDigits a))) V := addS _ _ (by simp [zerosT]; omega) (by omega)
  have ad2 : ∀ V, (Op.stringOp .add ⟨#[43]⟩ (baS (Lib.decDigits a))).run Tryd.prog V = .ok (.string (baS (43 :: Lib.decDigits a))) V := addS [43] _ (by simp) (by omega)
  have ad3 : ∀ V, (Op.stringOp .add (baS (Lib.decDigits a)) ⟨#[48, 48, 48, 48, 48, 48, 48, 48, 48, 48, 48, 48, 48, 48, 48, 48, 48, 48, 48, 48]⟩).run Tryd.prog V = .ok (.string (baS (Lib.decDigits a ++ zerosT 20))) V := addS _ (zerosT 20) (by omega) (by simp [zerosT])
  have hzero : Hid (a = 0 → Lib.decDigits a = [48]) := fun h => by rw [h, digs_one (by decide)]; rfl
  have hhead : Hid (0 < a → ∀ h, ∃ c : UInt8, (baS (Lib.decDigits a))[0]'h = c ∧ ((c.toNat : Int) != 48) = true) := fun h0 h => by
    refine ⟨_, rfl, ?_⟩
    have hl0 : 0 < (Lib.decDigits a).length := by omega
    rw [baS_at _ 0 hl0, bne_iff_ne]
    intro e
    apply digs_head a h0
    rw [List.head?_eq_getElem?, List.getElem?_eq_getElem hl0]
    exact congrArg some (UInt8.toNat_inj.1 (by simpa using Int.ofNat_inj.1 e))
  have hsz : (baS (Lib.decDigits a)).size = (Lib.decDigits a).length := baS_len _
  generalize hS : Lib.decDigits a = S at *
  have HS := Lib.hid hS
  clear hS hb hg hn hm
  have hz3 : z ≤ 3 := by omega
  have hzi : (z : Int) + 1 ≤ 4 := by omega
  have hwz : IntKind.i64.wrap ((z : Int) + 1) = (z : Int) + 1 := by rw [IntKind.wrap_i64]; omega
  have HMa := Lib.hid (And.intro ha hM)
  have HLn := Lib.hid hlen
  clear ha hM hlen hne hsz
  go_enter Tryd.func4, Tryd.ntmps4
  go_wp2_with fail
  refine (KT.out _ HG.out).mono ?_
  rintro e w1 ⟨rfl, B1⟩
  go_wp2_with fail
  refine (K0.out _ (HG.out.below B1)).mono ?_
  rintro e w2 ⟨rfl, hb2⟩
  have B2 := below_next B1 hb2
  have hcase : ∃ (m : Nat) (b : Bool), numR (if a ≤ M then some a else none) = .tuple #[.int .u64 m, .bool b] ∧ ((b = true ∧ m = a ∧ a ≤ M) ∨ (b = false ∧ m = 0 ∧ M < a)) := by
    by_cases h : a ≤ M
    · exact ⟨a, true, by rw [if_pos h]; rfl, Or.inl ⟨rfl, rfl, h⟩⟩
    · exact ⟨0, false, by rw [if_neg h]; rfl, Or.inr ⟨rfl, rfl, by omega⟩⟩
  obtain ⟨m, b, hcv, hcc⟩ := hcase
  rw [hcv]
  clear hcv
  have HCC := Lib.hid hcc
  clear hcc
  go_wp2
  go_loop [10, 11] (fun sv iv => ∃ (j : Nat), sv = .string (baS (zerosT j)) ∧ iv = .int .i64 j ∧ j ≤ z + 1) (fun _ iv => z + 1 - (intOf iv).toNat)
  case atStart => exact ⟨0, rfl, rfl, by omega⟩
  case round =>
    obtain ⟨j, rfl, rfl, hj⟩ := hrel
    by_cases hjz : j < z + 1
    · have hjz' : (j : Int) < (z : Int) + 1 := by omega
      have adz : ∀ V, (Op.stringOp .add (baS (zerosT j)) ⟨#[48]⟩).run Tryd.prog V = .ok (.string (baS (zerosT (j + 1)))) V := fun V => by
        rw [← zerosT_next]
        exact addS (zerosT j) [48] (by simp [zerosT]; omega) (by simp) V
      go_wp2
      refine ⟨⟨j + 1, rfl, (by first | rfl | (congr 1; omega)), by omega⟩, by simp [intOf]; omega⟩
    · obtain rfl : j = z + 1 := by omega
      have hjz' : ¬ ((z + 1 : Nat) : Int) < (z : Int) + 1 := by omega
      go_wp2_with fail
      refine (K1.out _ (HG.out.below B2)).mono ?_
      rintro e w3 ⟨rfl, hb3⟩
      have B3 := below_next B2 hb3
      go_wp2_with fail
      refine (K2.out _ (HG.out.below B3)).mono ?_
      rintro e w4 ⟨rfl, hb4⟩
      have B4 := below_next B3 hb4
      go_wp2_with fail
      refine (K3.out _ (HG.out.below B4)).mono ?_
      rintro e w5 ⟨rfl, hb5⟩
      have B5 := below_next B4 hb5
      go_wp2_with fail
      refine (K4.out _ (HG.out.below B5)).mono ?_
      rintro e w6 ⟨rfl, hb6⟩
      have B6 := below_next B5 hb6
      go_wp2_with fail
      refine (K5.out _ (HG.out.below B6)).mono ?_
      rintro e w7 ⟨rfl, hb7⟩
      have B7 := below_next B6 hb7
      by_cases ha0 : a = 0
      · subst ha0
        have hS0 := hzero.out rfl
        subst hS0
        have h48 : (baS [48]).toList = [48] := by decide +kernel
        rcases HCC.out with ⟨rfl, rfl, _⟩ | ⟨_, _, h⟩
        · go_wp2_with fail
          refine (awake6_x _ (HG.out.below B7)).mono ?_
          rintro e w8 ⟨rfl, hb8⟩
          go_wp2
          go_ret
          exact ⟨rfl, below_next B7 hb8⟩
        · omega
      · have ha0' : ((a : Int) == 0) = false := by rw [beq_eq_false_iff_ne]; omega
        have hlt : 0 < (baS S).size := by rw [baS_len]; exact HLn.out.1
        obtain ⟨c, hc1, hc2⟩ := hhead.out (by omega) hlt
        have hc1' : ∀ h, (baS S)[0]'h = c := fun h => hc1
        obtain ⟨L, hL⟩ : ∃ L, (baS S).size = L := ⟨_, rfl⟩
        rw [hL] at hlt
        have hlt' : (0 : Int) < L := by omega
        clear hc1
        rcases HCC.out with ⟨rfl, rfl, h⟩ | ⟨rfl, rfl, h⟩
        · have h' : (m : Int) ≤ M := by omega
          go_wp2_with fail
          refine (awake6_x _ (HG.out.below B7)).mono ?_
          rintro e w8 ⟨rfl, hb8⟩
          go_wp2
          go_ret
          exact ⟨rfl, below_next B7 hb8⟩
        · have h' : ¬ (a : Int) ≤ M := by omega
          go_wp2_with fail
          refine (awake6_x _ (HG.out.below B7)).mono ?_
          rintro e w8 ⟨rfl, hb8⟩
          go_wp2
          go_ret
          exact ⟨by show Ending.returned (.bool (!decide (a ≤ M))) = _; rw [decide_eq_false (by omega)]; rfl, below_next B7 hb8⟩
end Go.Proofs.YtjoiedomdliadaaDoor
