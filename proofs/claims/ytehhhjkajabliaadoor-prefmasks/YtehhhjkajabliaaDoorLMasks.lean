/- PrefMasks: for any address, any length and any mask the law answers true. -/
import Derived.Test.YtehhhjkajabliaaDoorRr
import Derived.Test.YtehhhjkajabliaaDoorAw3
namespace Go.Proofs.YtehhhjkajabliaaDoor
open Go.ChangeShapes Go.WideShapes Go.RowKit Go.Sort

/-- A number and the next have no bit in common just if all bits of the one are its lowest. -/
theorem and_succ (c : Nat) (h : c &&& (c + 1) = 0) (hc : c < 4294967296) : ∃ k, k ≤ 32 ∧ c + 1 = 2 ^ k := by
  obtain ⟨m, h1, h2⟩ := ctz_odd 33 (c + 1) (by omega) (by omega)
  generalize Lib.ctz 33 (c + 1) = k at *
  have hp : 0 < 2 ^ k := Nat.pow_pos (by decide)
  have e2 : 2 ^ (k + 1) = 2 ^ k * 2 := Nat.pow_succ ..
  have a1 : (c + 1) / 2 ^ (k + 1) = m := by
    rw [h1]
    apply Nat.div_eq_of_lt_le
    · rw [e2, Nat.mul_comm m, Nat.mul_assoc]; exact Nat.mul_le_mul_left _ (by omega)
    · rw [e2, show m.succ * (2 ^ k * 2) = 2 ^ k * (2 * m + 2) by rw [Nat.mul_comm, Nat.mul_assoc]; congr 1]; exact Nat.mul_lt_mul_of_pos_left (by omega) hp
  have a2 : c / 2 ^ (k + 1) = m := by
    have hc1 : c = 2 ^ k * (2 * m + 1) - 1 := by omega
    have hge : 2 ^ k * (2 * m) + 1 ≤ 2 ^ k * (2 * m + 1) := by rw [Nat.mul_add, Nat.mul_one]; omega
    apply Nat.div_eq_of_lt_le
    · rw [e2, Nat.mul_comm m, Nat.mul_assoc]; omega
    · rw [e2, show m.succ * (2 ^ k * 2) = 2 ^ k * (2 * m + 1) + 2 ^ k by rw [Nat.mul_comm, Nat.mul_assoc, ← Nat.mul_succ]; congr 1]
      omega
  have hm : m = 0 := by
    have : (c &&& (c + 1)) / 2 ^ (k + 1) = m &&& m := by rw [Nat.and_div_two_pow, a1, a2]
    rw [h, Nat.zero_div, Nat.and_self] at this
    exact this.symm
  subst hm
  exact ⟨k, by omega, by simpa using h1⟩
theorem low_and (k : Nat) : (2 ^ k - 1) &&& (2 ^ k - 1 + 1) = 0 := by
  have hp : 0 < 2 ^ k := Nat.pow_pos (by decide)
  rw [Nat.sub_add_cancel hp, Nat.and_comm, Nat.and_two_pow_sub_one_eq_mod, Nat.mod_self]
theorem gap_is (y : Nat) (hy : y < 4294967296) : (y = nmX (ofN y)) ↔ (4294967295 - y) &&& (4294967295 - y + 1) = 0 := by
  constructor
  · intro h
    have hp : 0 < 2 ^ (32 - ofN y) := Nat.pow_pos (by decide)
    have hle : 2 ^ (32 - ofN y) ≤ 2 ^ 32 := Nat.pow_le_pow_right (by decide) (by omega)
    have e : 4294967295 - y = 2 ^ (32 - ofN y) - 1 := by
      unfold nmX at h; rw [Int.toNat_natCast] at h; omega
    rw [e]; exact low_and _
  · intro h
    obtain ⟨k, hk, he⟩ := and_succ _ h (by omega)
    have hle : 2 ^ k ≤ 2 ^ 32 := Nat.pow_le_pow_right (by decide) hk
    have e : y = nmX ((32 - k : Nat) : Int) := by
      unfold nmX; rw [Int.toNat_natCast, show 32 - (32 - k) = k by omega]; omega
    have := ofN_nmX (32 - k) (by omega)
    rw [← e] at this
    rw [this]; exact e
theorem and32_nat (a : Int) (h0 : 0 ≤ a) (h1 : a < 18446744073709551616) : ∃ X : Nat, X < 4294967296 ∧ bits .and .u64 a 4294967295 = (X : Int) := by
  have := and32 a h0 h1
  exact ⟨(bits .and .u64 a 4294967295).toNat, by omega, by omega⟩
theorem xor32 (y : Nat) (hy : y < 4294967296) : bits .and .u64 (bits .xor .u64 IntKind.u64.max (y : Int)) 4294967295 = ((4294967295 - y : Nat) : Int) := by
  rw [u64_not _ (by omega) (by omega), u64_and _ _ (by omega) (by omega) (by decide) (by decide)]
  rw [show (18446744073709551615 - (y : Int)).toNat = 18446744073709551615 - y by omega, show (4294967295 : Int).toNat = 2 ^ 32 - 1 from rfl, Nat.and_two_pow_sub_one_eq_mod]
  omega
theorem and_next (c : Nat) (h : c < 4294967296) : bits .and .u64 (c : Int) ((c : Int) + 1) = ((c &&& (c + 1) : Nat) : Int) := by
  rw [u64_and _ _ (by omega) (by omega) (by omega) (by omega)]
  simp only [Int.toNat_natCast]
  rw [show ((c : Int) + 1).toNat = c + 1 by omega]
set_option maxHeartbeats 1000000 in
theorem addr4_x (a : Int) (X : Nat) (hl : X < 4294967296) (hX : bits .and .u64 a 4294967295 = (X : Int)) (w : World) :
    Calls Tryd.prog 16 #[.int .i64 0, .int .u64 a, .int .u64 0] w fun e w' => e = .returned (.agg #[.int .i64 4, .int .u64 (hiQ X), .int .u64 (loQ X)]) ∧ Below w.heap.size w w' := by
  rw [hiQ_small hl, loQ_small hl]
  have h1 : (bits .and .i64 0 1 == 0) = true := by decide +kernel
  have h2 : bits .and .i64 0 3 = 0 := by decide +kernel
  clear hl
  go_enter Tryd.func16, Tryd.ntmps16
  go_wp2
  exact bodyPost_ret (v := .agg #[.int .i64 4, .int .u64 0, .int .u64 X]) (by simp [results, Tryd.results16, go_sem]) rfl ⟨rfl, (Below.refl _ _).alloc (Nat.le_refl _) _⟩
theorem pre4_x (a : Int) (X n : Nat) (hl : X < 4294967296) (hX : bits .and .u64 a 4294967295 = (X : Int)) (hn : n ≤ 32) (w : World) :
    Calls Tryd.prog 13 #[.int .i64 0, .int .u64 a, .int .u64 0, .int .i64 n] w fun e w' => e = .returned (.agg #[.int .i64 4, .int .u64 (hiQ (cutK (32 - n) X)), .int .u64 (loQ (cutK (32 - n) X)), .int .i64 n]) ∧ Below w.heap.size w w' := by
  refine (pre_of (fun u x => u = 4 ∧ x = X) 0 a 0 n w (fun w => (addr4_x a X hl hX w).mono ?_)).mono ?_
  · rintro e w' ⟨rfl, hb⟩
    exact ⟨⟨4, X, rfl, by simp [okV, hl], by omega, rfl, rfl⟩, hb⟩
  · rintro e w' ⟨⟨u, x, m, ⟨rfl, rfl⟩, h1, h2, hm, h3, h4⟩, hb⟩
    rw [bitsV_4] at hm
    have : m = n := by omega
    subst this
    exact ⟨h4, hb⟩
theorem has4 (x n : Nat) (hx : x < 4294967296) (hn : n ≤ 32) : hasP 4 (cutK (32 - n) x) n 4 x = true := by
  have h := ok4cut x n hn hx
  have ho : okV 4 x = true := by simp [okV, hx]
  simp [hasP, h, ho, host4]
set_option maxHeartbeats 8000000 in
set_option maxRecDepth 100000 in
theorem masks_walk (a n b : Int) (w : World) (hg : Gl w) (ha : 0 ≤ a ∧ a < 18446744073709551616) (hb : 0 ≤ b ∧ b < 18446744073709551616) :
    Calls Tryd.prog 4 #[.int .u64 a, .int .i64 n, .int .u64 b] w fun e w' => e = .returned (.bool true) ∧ Below w.heap.size w w' := by
  obtain ⟨X, hX, eX⟩ := and32_nat a ha.1 ha.2
  obtain ⟨Y, hY, eY⟩ := and32_nat b hb.1 hb.2
  obtain ⟨j, hj, ej, hjn⟩ := and255_nat n
  clear hjn
  have er : ((j : Int)).tmod 33 = ((j % 33 : Nat) : Int) := tmod_nat j 32
  obtain ⟨k, hk⟩ : ∃ k, j % 33 = k := ⟨_, rfl⟩
  have hk32 : k ≤ 32 := by omega
  rw [hk] at er
  have hx128 : X < 340282366920938463463374607431768211456 := by omega
  have hy128 : Y < 340282366920938463463374607431768211456 := by omega
  have hnm := nmX_lt k
  have K1 := Lib.hid (fun w => pre4_x a X k hX eX hk32 w)
  have K2 := Lib.hid (fun w => nm_yes (cutK (32 - k) X) k w (cutK_lt _ _ hx128) (ok4cut X k hk32 hX))
  have k3 := fun w ht => of_yes X k w ht hX hk32
  have k4 := fun w ht => of_no 4 X 6 (nmX k) w ht hx128 (by omega) (by simp [ofB])
  have k5 := fun w ht => of_no 6 0 4 (nmX k) w ht (by decide) (by omega) (by simp [ofB])
  have k6 := fun w ht => of_x 4 X 4 Y w ht hx128 hy128
  have k7 := fun w => has_pis 4 (cutK (32 - k) X) k 4 X w (cutK_lt _ _ hx128) hx128 true (has4 X k hX hk32)
  rw [hiQ_small hX, loQ_small hX] at k3 k4 k7
  rw [hiQ_zero, loQ_zero] at k5
  rw [hiQ_small hX, loQ_small hX, hiQ_small hY, loQ_small hY] at k6
  have K3 := Lib.hid k3
  have K4 := Lib.hid k4
  have K5 := Lib.hid k5
  have K7 := Lib.hid k7
  have hgap := gap_is Y hY
  have E1 := xor32 Y hY
  have E3 := and_next (4294967295 - Y) (by omega)
  obtain ⟨c, hc⟩ : ∃ c, 4294967295 - Y = c := ⟨_, rfl⟩
  have hc32 : c < 4294967296 := by omega
  rw [hc] at hgap E1 E3
  obtain ⟨Z, hZ⟩ : ∃ Z, c &&& (c + 1) = Z := ⟨_, rfl⟩
  rw [hZ] at hgap E3
  have HG := Lib.hid hg
  have hob : ofB 4 X 4 Y = decide (Z = 0) := by unfold ofB; rw [decide_eq_decide, ← hgap]; simp [hX]
  rw [ofR, hob] at k6
  have key : ∃ (t : Bool) (u h l r : Int), ((Z : Int) == 0) = t ∧ ∀ w, TabOk w → Calls Tryd.prog 14 #[.agg #[.int .i64 4, .int .u64 0, .int .u64 X], .agg #[.int .i64 4, .int .u64 0, .int .u64 Y]] w fun e w' => e = .returned (.tuple #[.agg #[.int .i64 u, .int .u64 h, .int .u64 l, .int .i64 r], .bool t]) ∧ Below w.heap.size w w' := by
    by_cases hz : Z = 0
    · rw [if_pos (decide_eq_true hz)] at k6
      exact ⟨true, _, _, _, _, by simp [hz], k6⟩
    · rw [if_neg (by simp [hz])] at k6
      exact ⟨false, _, _, _, _, by simp; omega, k6⟩
  obtain ⟨t, u6, h6, l6, r6, E4, k6'⟩ := key
  have K6 := Lib.hid k6'
  generalize cutK (32 - k) X = y at *
  generalize nmX k = M at *
  clear k3 k4 k5 k6 k7 k6' hob hgap hZ hc hk hj ha hb hX hY hx128 hy128 hnm hg
  have HE := Lib.hid (And.intro eY (And.intro E1 (And.intro hc32 (And.intro E3 E4))))
  clear eY E1 hc32 E3 E4
  go_enter Tryd.func4, Tryd.ntmps4
  go_wp2_with fail
  refine (K1.out _).mono ?_
  rintro e w1 ⟨rfl, hb1⟩
  have B1 := below_next (ball (Below.refl w.heap.size w)) hb1
  have A := (cl_new w 4 0 X).below hb1
  clear hb1
  go_wp2_with fail
  refine (K2.out _).mono ?_
  rintro e w2 ⟨rfl, hb2⟩
  have B2 := below_next (ball B1) hb2
  replace A := (A.alloc _).below hb2
  have P := (pl_new w1 4 (hiQ y) (loQ y) k).below hb2
  clear hb2 B1
  obtain ⟨a0, a1, a2, al⟩ := id A
  go_wp2_with fail
  refine (K3.out _ ((HG.out.below B2).alloc _).tz).mono ?_
  rintro e w3 ⟨rfl, hb3⟩
  have B3 := below_next (ball B2) hb3
  replace A := (A.alloc _).below hb3
  replace P := (P.alloc _).below hb3
  have Mm := (cl_new w2 4 (hiQ M) (loQ M)).below hb3
  clear hb3 B2 a0 a1 a2 al
  obtain ⟨a0, a1, a2, al⟩ := id A
  obtain ⟨m0, m1, m2, ml⟩ := id Mm
  go_wp2_with fail
  refine (K4.out _ ((HG.out.below B3).alloc _).tz).mono ?_
  rintro e w4 ⟨rfl, hb4⟩
  have B4 := below_next (ball B3) hb4
  replace A := (A.alloc _).below hb4
  replace P := (P.alloc _).below hb4
  replace Mm := (Mm.alloc _).below hb4
  have Q := (pl_new w3 4 (hiQ y) (loQ y) k).below hb4
  clear hb4 B3 a0 a1 a2 al m0 m1 m2 ml
  obtain ⟨m0, m1, m2, ml⟩ := id Mm
  go_wp2_with fail
  refine (K5.out _ ((HG.out.below B4).alloc _).tz).mono ?_
  rintro e w5 ⟨rfl, hb5⟩
  have B5 := below_next (ball B4) hb5
  replace A := (A.alloc _).below hb5
  replace P := (P.alloc _).below hb5
  replace Q := (Q.alloc _).below hb5
  clear hb5 B4 m0 m1 m2 ml Mm
  obtain ⟨a0, a1, a2, al⟩ := id A
  have eY := HE.out.1
  go_wp2_with fail
  refine (K6.out _ ((HG.out.below B5).alloc _).tz).mono ?_
  rintro e w6 ⟨rfl, hb6⟩
  have B6 := below_next (ball B5) hb6
  replace A := (A.alloc _).below hb6
  replace P := (P.alloc _).below hb6
  replace Q := (Q.alloc _).below hb6
  clear hb6 B5 a0 a1 a2 al eY
  obtain ⟨a0, a1, a2, al⟩ := id A
  obtain ⟨p0, p1, p2, p3, pl⟩ := id P
  obtain ⟨q0, q1, q2, q3, ql⟩ := id Q
  go_wp2_with fail
  refine (K7.out _).mono ?_
  rintro e w7 ⟨rfl, hb7⟩
  have B7 := below_next (ball B6) hb7
  clear hb7 B6 a0 a1 a2 al p0 p1 p2 p3 pl q0 q1 q2 q3 ql A P Q
  clear hk32 er ej eX
  have HC : Hid (bits BinOp.and IntKind.u64 (bits BinOp.and IntKind.u64 (bits BinOp.xor IntKind.u64 IntKind.u64.max (Y : Int)) 4294967295) (IntKind.u64.wrap (bits BinOp.and IntKind.u64 (bits BinOp.xor IntKind.u64 IntKind.u64.max (Y : Int)) 4294967295 + 1)) = (Z : Int)) := by
    obtain ⟨_, E1, hc32, E3, _⟩ := HE.out
    show _ = _
    rw [E1, show IntKind.u64.wrap ((c : Int) + 1) = (c : Int) + 1 by rw [IntKind.wrap_u64]; omega, E3]
  have HZ := Lib.hid HE.out.2.2.2.2
  clear HE
  cases t
  all_goals go_wp2_with fail
  all_goals
    rename_i hcmp
    rw [HC.out] at hcmp
    first
    | (exfalso; have hz := HZ.out; simp at hz hcmp; omega)
    | (refine (awake3_x _ (HG.out.below B7)).mono ?_
       rintro e w8 ⟨rfl, hb8⟩
       go_wp2
       go_ret
       exact ⟨congrArg (fun b => Ending.returned (Value.bool b)) (by first | rfl | (show (!(bits BinOp.and IntKind.u64 (bits BinOp.and IntKind.u64 (bits BinOp.xor IntKind.u64 IntKind.u64.max (Y : Int)) 4294967295) (IntKind.u64.wrap (bits BinOp.and IntKind.u64 (bits BinOp.xor IntKind.u64 IntKind.u64.max (Y : Int)) 4294967295 + 1)) == 0)) = true; rw [HC.out, HZ.out]; rfl) | (show (bits BinOp.and IntKind.u64 (bits BinOp.and IntKind.u64 (bits BinOp.xor IntKind.u64 IntKind.u64.max (Y : Int)) 4294967295) (IntKind.u64.wrap (bits BinOp.and IntKind.u64 (bits BinOp.xor IntKind.u64 IntKind.u64.max (Y : Int)) 4294967295 + 1)) == 0) = true; rw [HC.out, HZ.out])), below_next B7 hb8⟩)
end Go.Proofs.YtehhhjkajabliaaDoor
