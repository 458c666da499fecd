/- The checker's own Last. -/
import Derived.Test.YtmnemjhkmllniaaGreatDoorzRt
import Derived.Test.YtmnemjhkmllniaaGreatDoorzPt
namespace Go.Proofs.YtmnemjhkmllniaaGreatDoor
open Go.ChangeShapes Go.WideShapes Go.RowKit Go.Sort

theorem notQ_bit (y i : Nat) (h : y < 340282366920938463463374607431768211456) : (notQ y).testBit i = (decide (i < 128) && !y.testBit i) := by
  have e : notQ y = 2 ^ 128 - (y + 1) := by unfold notQ; rw [pow128]; omega
  rw [e, Nat.testBit_two_pow_sub_succ (by rw [pow128]; exact h)]
theorem maskQ_bit (m i : Nat) (hm : m ≤ 128) : (maskQ m).testBit i = (decide (128 - m ≤ i) && decide (i < 128)) := by
  unfold maskQ; exact testBit_high (128 - m) (by omega) i
theorem free_is (v : Int) (n : Nat) (hn : n ≤ bitsV v) : notQ (allQ v n) &&& notQ (maskQ (128 - bitsV v)) = 2 ^ hostK v n - 1 := by
  have hb := bitsV_le v
  apply Nat.eq_of_testBit_eq
  intro i
  rw [Nat.testBit_and, notQ_bit _ _ (allQ_lt v n), notQ_bit _ _ (maskQ_lt _), Nat.testBit_two_pow_sub_one]
  unfold allQ
  rw [Nat.testBit_and, notQ_bit _ _ (maskQ_lt _), maskQ_bit _ _ (by omega), maskQ_bit _ _ (by omega)]
  unfold hostK
  rw [Int.toNat_natCast]
  by_cases h1 : i < 128
  · by_cases h2 : i < bitsV v
    · by_cases h3 : i < bitsV v - n
      · simp [h1, h3, show ¬ 128 - (128 - bitsV v) ≤ i by omega, show ¬ 128 - (128 - bitsV v + n) ≤ i by omega]
      · simp [h1, h3, show ¬ 128 - (128 - bitsV v) ≤ i by omega, show 128 - (128 - bitsV v + n) ≤ i by omega]
    · simp [h1, show ¬ i < bitsV v - n by omega, show 128 - (128 - bitsV v) ≤ i by omega]
  · simp [h1, show ¬ i < bitsV v - n by omega]
set_option maxHeartbeats 8000000 in
set_option maxRecDepth 100000 in
theorem refLast_x (v : Int) (x : Nat) (n : Int) (w : World) (hx : x < 340282366920938463463374607431768211456) :
    Calls Tryz.prog 47 #[.agg #[.int .i64 v, .int .u64 (hiQ x), .int .u64 (loQ x), .int .i64 n]] w fun e w' => e = .returned (.agg #[.int .i64 (firstV v x n), .int .u64 (hiQ (lastX v x n)), .int .u64 (loQ (lastX v x n))]) ∧ Below w.heap.size w w' := by
  have HX := Lib.hid hx
  clear hx
  cases ho : okP v x n
  · have HO := Lib.hid ho
    rw [show firstV v x n = 0 by simp [firstV, ho], show lastX v x n = 0 by simp [lastX, ho], hiQ_zero, loQ_zero]
    clear ho
    go_enter Tryz.func47, Tryz.ntmps47
    go_wp2_with fail
    refine (refOkP_is _ _ _ _ HX.out _ HO.out).mono ?_
    rintro e w1 ⟨rfl, hb1⟩
    obtain ⟨k1, f1, l1⟩ := keepf hb1 (w.heap.size + 1) (by simp)
    go_wp2
    exact bodyPost_ret (v := .agg #[.int .i64 0, .int .u64 0, .int .u64 0]) (by simp [results, Tryz.results47, go_sem, k1]) rfl ⟨rfl, aset3 (below_next (below2 _ _ _) hb1) (Nat.le_succ _)⟩
  · have HO := Lib.hid ho
    rw [show firstV v x n = v by simp [firstV, ho]]
    obtain ⟨k, rfl⟩ : ∃ k : Nat, n = k := by have := okP_is ho; exact ⟨n.toNat, by omega⟩
    have hkb : k ≤ bitsV v := by have := (okP_is ho).2.2.1; omega
    have hbb := bitsV_le v
    have hlast : lastX v x k = x ||| (notQ (allQ v k) &&& notQ (maskQ (128 - bitsV v))) := by
      rw [free_is v k hkb, or_low _ _ (okP_is ho).2.2.2]; simp [lastX, ho]
    have HAl := Lib.hid (fun w => refAll_x v k w hkb)
    have HN1 := Lib.hid (fun w => refNot_x (allQ v k) w (allQ_lt v k))
    have HBits := Lib.hid (refBits_x v)
    have HN2 := Lib.hid (fun w => refNot_x (maskQ (128 - bitsV v)) w (maskQ_lt _))
    have HAn := Lib.hid (fun w => refAnd_x (notQ (allQ v k)) (notQ (maskQ (128 - bitsV v))) w (notQ_lt _) (notQ_lt _))
    have hMk := fun w => refMask_x (128 - bitsV v) w (by omega)
    obtain ⟨b0, hb0⟩ : ∃ b0, bitsV v = b0 := ⟨_, rfl⟩
    rw [hb0] at hlast HBits HN2 HAn hMk hbb
    have HMk : Hid (∀ w, Calls Tryz.prog 29 #[.int .i64 (128 - (b0 : Int))] w fun e w' => e = .returned (.agg #[.int .u64 (hiQ (maskQ (128 - b0))), .int .u64 (loQ (maskQ (128 - b0)))]) ∧ Below w.heap.size w w') := fun w => by
      have := hMk w
      rw [show ((128 - b0 : Nat) : Int) = 128 - (b0 : Int) by omega] at this
      exact this
    obtain ⟨F, hF⟩ : ∃ F, notQ (allQ v k) &&& notQ (maskQ (128 - b0)) = F := ⟨_, rfl⟩
    have hF128 : F < 340282366920938463463374607431768211456 := hF ▸ and_lt _ _ (notQ_lt _)
    rw [hF] at hlast HAn
    have HLast : Hid (hiQ (lastX v x k) = bits .or .u64 (hiQ x) (hiQ F) ∧ loQ (lastX v x k) = bits .or .u64 (loQ x) (loQ F)) := by
      rw [hlast, u64_or _ _ (hiQ_nn x) (hiQ_lt x HX.out) (hiQ_nn F) (hiQ_lt F hF128), u64_or _ _ (loQ_nn x) (loQ_lt x) (loQ_nn F) (loQ_lt F)]
      exact half_or x F
    have hw1 : IntKind.i64.wrap (128 - (b0 : Int)) = 128 - (b0 : Int) := by rw [IntKind.wrap_i64]; omega
    clear ho hlast hMk hF hF128 hkb hb0
    generalize notQ (allQ v k) = A1 at *
    generalize allQ v k = A0 at *
    generalize notQ (maskQ (128 - b0)) = A3 at *
    generalize maskQ (128 - b0) = A2 at *
    go_enter Tryz.func47, Tryz.ntmps47
    go_wp2_with fail
    refine (refOkP_is _ _ _ _ HX.out _ HO.out).mono ?_
    rintro e W ⟨rfl, hb1⟩
    obtain ⟨k0, f0, la⟩ := keepf hb1 w.heap.size (by simp; omega)
    obtain ⟨k1, f1, lr⟩ := keepf hb1 (w.heap.size + 1) (by simp)
    have z0 : W.cell? ⟨w.heap.size, 0, none⟩ = some (.int .i64 v) := by rw [k0]; simp [go_sem]
    have z1 : W.cell? ⟨w.heap.size, 1, none⟩ = some (.int .u64 (hiQ x)) := by rw [k0]; simp [go_sem]
    have z2 : W.cell? ⟨w.heap.size, 2, none⟩ = some (.int .u64 (loQ x)) := by rw [k0]; simp [go_sem]
    have z3 : W.cell? ⟨w.heap.size, 3, none⟩ = some (.int .i64 k) := by rw [k0]; simp [go_sem]
    have r0 : W.cell? ⟨w.heap.size + 1, 0, none⟩ = some (.int .i64 0) := by rw [k1]; simp [go_sem]
    have r1 : W.cell? ⟨w.heap.size + 1, 1, none⟩ = some (.int .u64 0) := by rw [k1]; simp [go_sem]
    have r2 : W.cell? ⟨w.heap.size + 1, 2, none⟩ = some (.int .u64 0) := by rw [k1]; simp [go_sem]
    have rf : ∀ o, W.frozen? ⟨w.heap.size + 1, o, none⟩ = false := fun o => by rw [f1]; simp [go_sem]
    have BW : Below w.heap.size w W := below_next (below2 _ _ _) hb1
    clear k0 f0 k1 f1 hb1 HO HX
    go_upto_region 3 with fail
    go_cut [3] (fun p wx => ∃ N, p = .pointer (some ⟨N, 0, none⟩) ∧ wx.cell? ⟨N, 0, none⟩ = some (.int .u64 (hiQ F)) ∧ wx.cell? ⟨N, 1, none⟩ = some (.int .u64 (loQ F)) ∧ Below W.heap.size W wx)
    case first =>
      have C8 : Below W.heap.size W W := Below.refl _ _
      have nX := Nat.ne_of_gt la
      go_region_held3 (fun w' => w'.cell? ⟨w.heap.size, 0, none⟩ = some (.int .i64 v) ∧ w'.cell? ⟨w.heap.size, 3, none⟩ = some (.int .i64 k)) (go_keep)
        (first
          | (go_at_call 70; refine (HAl.out _).mono ?_; rintro e w8 ⟨rfl, hb8⟩; (first | (have F8 := fresh_next hb8 F8; obtain ⟨g0, g1, gf, gl, ge⟩ := id F8; have gn := fresh_ne la ge) | (have F8 := fresh_newd (W := W) hb8 C8; obtain ⟨g0, g1, gf, gl, ge⟩ := id F8; have gn := fresh_ne la ge) | (have F8 := fresh_new (W := W) hb8 (by repeat (first | exact C8 | apply Below.drew)); obtain ⟨g0, g1, gf, gl, ge⟩ := id F8; have gn := fresh_ne la ge) | skip); have C8 : Below W.heap.size W w8 := below_next (by repeat (first | exact C8 | apply Below.drew | apply ball)) hb8; obtain ⟨k8, l8⟩ := keep C8 w.heap.size la; have n8 := Nat.ne_of_gt l8)
          | (go_at_call 30; with_reducible refine Calls.mono (HN1.out _) ?_; rintro e w8 ⟨rfl, hb8⟩; (first | (have F8 := fresh_next hb8 F8; obtain ⟨g0, g1, gf, gl, ge⟩ := id F8; have gn := fresh_ne la ge) | (have F8 := fresh_newd (W := W) hb8 C8; obtain ⟨g0, g1, gf, gl, ge⟩ := id F8; have gn := fresh_ne la ge) | (have F8 := fresh_new (W := W) hb8 (by repeat (first | exact C8 | apply Below.drew)); obtain ⟨g0, g1, gf, gl, ge⟩ := id F8; have gn := fresh_ne la ge) | skip); have C8 : Below W.heap.size W w8 := below_next (by repeat (first | exact C8 | apply Below.drew | apply ball)) hb8; obtain ⟨k8, l8⟩ := keep C8 w.heap.size la; have n8 := Nat.ne_of_gt l8)
          | (go_at_call 30; with_reducible refine Calls.mono (HN2.out _) ?_; rintro e w8 ⟨rfl, hb8⟩; (first | (have F8 := fresh_next hb8 F8; obtain ⟨g0, g1, gf, gl, ge⟩ := id F8; have gn := fresh_ne la ge) | (have F8 := fresh_newd (W := W) hb8 C8; obtain ⟨g0, g1, gf, gl, ge⟩ := id F8; have gn := fresh_ne la ge) | (have F8 := fresh_new (W := W) hb8 (by repeat (first | exact C8 | apply Below.drew)); obtain ⟨g0, g1, gf, gl, ge⟩ := id F8; have gn := fresh_ne la ge) | skip); have C8 : Below W.heap.size W w8 := below_next (by repeat (first | exact C8 | apply Below.drew | apply ball)) hb8; obtain ⟨k8, l8⟩ := keep C8 w.heap.size la; have n8 := Nat.ne_of_gt l8)
          | (go_at_call 27; refine (HBits.out _).mono ?_; rintro e w8 ⟨rfl, hb8⟩; (first | (have F8 := fresh_next hb8 F8; obtain ⟨g0, g1, gf, gl, ge⟩ := id F8; have gn := fresh_ne la ge) | (have F8 := fresh_newd (W := W) hb8 C8; obtain ⟨g0, g1, gf, gl, ge⟩ := id F8; have gn := fresh_ne la ge) | (have F8 := fresh_new (W := W) hb8 (by repeat (first | exact C8 | apply Below.drew)); obtain ⟨g0, g1, gf, gl, ge⟩ := id F8; have gn := fresh_ne la ge) | skip); have C8 : Below W.heap.size W w8 := below_next (by repeat (first | exact C8 | apply Below.drew | apply ball)) hb8; obtain ⟨k8, l8⟩ := keep C8 w.heap.size la; have n8 := Nat.ne_of_gt l8)
          | (go_at_call 29; refine (HMk.out _).mono ?_; rintro e w8 ⟨rfl, hb8⟩; (first | (have F8 := fresh_next hb8 F8; obtain ⟨g0, g1, gf, gl, ge⟩ := id F8; have gn := fresh_ne la ge) | (have F8 := fresh_newd (W := W) hb8 C8; obtain ⟨g0, g1, gf, gl, ge⟩ := id F8; have gn := fresh_ne la ge) | (have F8 := fresh_new (W := W) hb8 (by repeat (first | exact C8 | apply Below.drew)); obtain ⟨g0, g1, gf, gl, ge⟩ := id F8; have gn := fresh_ne la ge) | skip); have C8 : Below W.heap.size W w8 := below_next (by repeat (first | exact C8 | apply Below.drew | apply ball)) hb8; obtain ⟨k8, l8⟩ := keep C8 w.heap.size la; have n8 := Nat.ne_of_gt l8)
          | (go_at_call 28; refine (HAn.out _).mono ?_; rintro e w8 ⟨rfl, hb8⟩; (first | (have F8 := fresh_next hb8 F8; obtain ⟨g0, g1, gf, gl, ge⟩ := id F8; have gn := fresh_ne la ge) | (have F8 := fresh_newd (W := W) hb8 C8; obtain ⟨g0, g1, gf, gl, ge⟩ := id F8; have gn := fresh_ne la ge) | (have F8 := fresh_new (W := W) hb8 (by repeat (first | exact C8 | apply Below.drew)); obtain ⟨g0, g1, gf, gl, ge⟩ := id F8; have gn := fresh_ne la ge) | skip); have C8 : Below W.heap.size W w8 := below_next (by repeat (first | exact C8 | apply Below.drew | apply ball)) hb8; obtain ⟨k8, l8⟩ := keep C8 w.heap.size la; have n8 := Nat.ne_of_gt l8))
      all_goals
        go_wp2_with fail
        go_meet
      all_goals refine ⟨_, rfl, ?_, ?_, ?_⟩
      all_goals first
        | exact (set2 g0 g1).1
        | exact (set2 g0 g1).2
        | exact (C8.setCell ge _).setCell ge _
        | exact ball C8
        | exact ((ball C8).setCell C8.size _).setCell C8.size _
        | (simp [go_sem]; done)
    case rest =>
      obtain ⟨N, rfl, t0, t1, CX⟩ := hcut
      obtain ⟨ka, fa, lx⟩ := keepf CX w.heap.size la
      have x0 := (ka 0).trans z0
      have x1 := (ka 1).trans z1
      have x2 := (ka 2).trans z2
      obtain ⟨kr, fr, ly⟩ := keepf CX (w.heap.size + 1) lr
      have y0 := (kr 0).trans r0
      have y1 := (kr 1).trans r1
      have y2 := (kr 2).trans r2
      have yf := fun o => (fr o).trans (rf o)
      have BX := below_next BW CX
      clear ka fa kr fr r0 r1 r2 rf z0 z1 z2 z3 CX BW
      go_wp2
      exact bodyPost_ret (v := .agg #[.int .i64 v, .int .u64 (bits .or .u64 (hiQ x) (hiQ F)), .int .u64 (bits .or .u64 (loQ x) (loQ F))]) (by simp [results, Tryz.results47, go_sem, *]) rfl ⟨by rw [HLast.out.1, HLast.out.2], aset3 BX (Nat.le_succ _)⟩
end Go.Proofs.YtmnemjhkmllniaaGreatDoor

/- The checker's own Of. -/
namespace Go.Proofs.YtmnemjhkmllniaaGreatDoor
open Go.ChangeShapes Go.WideShapes Go.RowKit Go.Sort

theorem and_all4 (x k : Nat) (hk : k ≤ 32) : x &&& allQ 4 k = cutK (32 - k) (x % 4294967296) := by
  have e : x &&& notQ (maskQ (128 - bitsV 4)) = x % 4294967296 := by
    rw [bitsV_4, not_mask 32 (by decide), Nat.and_two_pow_sub_one_eq_mod]
  unfold allQ
  rw [Nat.and_comm (maskQ _), ← Nat.and_assoc, e, bitsV_4, and_mask _ _ (by omega) (by omega)]
  congr 1
  omega
structure Fresh4 (W w : World) (N : Nat) : Prop where
  c0 : w.cell? ⟨N, 0, none⟩ = some (.int .i64 0)
  c1 : w.cell? ⟨N, 1, none⟩ = some (.int .u64 0)
  c2 : w.cell? ⟨N, 2, none⟩ = some (.int .u64 0)
  c3 : w.cell? ⟨N, 3, none⟩ = some (.int .i64 0)
  cf : ∀ o, w.frozen? ⟨N, o, none⟩ = false
  lt : N < w.heap.size
  le : W.heap.size ≤ N
theorem f4_c {W V w : World} {N : Nat} (hb : Below V.heap.size V w) (F : Fresh4 W V N) : Fresh4 W w N := by
  obtain ⟨k, f, l⟩ := keepf hb N F.lt
  exact ⟨(k 0).trans F.c0, (k 1).trans F.c1, (k 2).trans F.c2, (k 3).trans F.c3, fun o => (f o).trans (F.cf o), l, F.le⟩
theorem f4_new {W V : World} (hW : Below W.heap.size W V) : Fresh4 W (V.alloc (.cells #[.int .i64 0, .int .u64 0, .int .u64 0, .int .i64 0] 34)) V.heap.size :=
  ⟨by simp [go_sem], by simp [go_sem], by simp [go_sem], by simp [go_sem], fun o => by simp [go_sem], by simp, hW.size⟩
theorem f4_a {W V w : World} (hb : Below (V.alloc (.cells #[.int .i64 0, .int .u64 0, .int .u64 0, .int .i64 0] 34)).heap.size (V.alloc (.cells #[.int .i64 0, .int .u64 0, .int .u64 0, .int .i64 0] 34)) w) (hW : Below W.heap.size W V) : Fresh4 W w V.heap.size :=
  f4_c hb (f4_new hW)
theorem f4_ad {W V w : World} (hb : Below (V.drew.alloc (.cells #[.int .i64 0, .int .u64 0, .int .u64 0, .int .i64 0] 34)).heap.size (V.drew.alloc (.cells #[.int .i64 0, .int .u64 0, .int .u64 0, .int .i64 0] 34)) w) (hW : Below W.heap.size W V) : Fresh4 W w V.heap.size :=
  f4_a (V := V.drew) hb (Below.drew hW)
theorem set4_pl {W w : World} {N : Nat} (F : Fresh4 W w N) (v h l n : Int) : Pl ((((w.setCell ⟨N, 0, none⟩ (.int .i64 v)).setCell ⟨N, 1, none⟩ (.int .u64 h)).setCell ⟨N, 2, none⟩ (.int .u64 l)).setCell ⟨N, 3, none⟩ (.int .i64 n)) N v h l n := by
  obtain ⟨c0, c1, c2, c3, cf, lt, le⟩ := F
  exact ⟨by simp [go_sem, *], by simp [go_sem, *], by simp [go_sem, *], by simp [go_sem, *], by simp; exact lt⟩
theorem endP1 {W w : World} {N : Nat} (F : Fresh4 W w N) (C : Below W.heap.size W w) (v h l n : Int) :
    Pl ((((w.setCell ⟨N, 0, none⟩ (.int .i64 v)).setCell ⟨N, 1, none⟩ (.int .u64 h)).setCell ⟨N, 2, none⟩ (.int .u64 l)).setCell ⟨N, 3, none⟩ (.int .i64 n)) N v h l n ∧ Below W.heap.size W ((((w.setCell ⟨N, 0, none⟩ (.int .i64 v)).setCell ⟨N, 1, none⟩ (.int .u64 h)).setCell ⟨N, 2, none⟩ (.int .u64 l)).setCell ⟨N, 3, none⟩ (.int .i64 n)) :=
  ⟨set4_pl F v h l n, pset4 C F.le⟩
theorem endP2 {W w : World} (C : Below W.heap.size W w) (v h l n : Int) :
    Pl (w.alloc (.cells #[.int .i64 v, .int .u64 h, .int .u64 l, .int .i64 n] 34)) w.heap.size v h l n ∧ Below W.heap.size W (w.alloc (.cells #[.int .i64 v, .int .u64 h, .int .u64 l, .int .i64 n] 34)) :=
  ⟨pl_new w v h l n, ball C⟩
end Go.Proofs.YtmnemjhkmllniaaGreatDoor
