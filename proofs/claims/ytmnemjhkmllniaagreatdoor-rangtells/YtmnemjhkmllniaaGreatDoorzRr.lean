/- The laws' own maker of prefixes: whatever the numbers, it answers a prefix. -/
import Derived.Test.YtmnemjhkmllniaaGreatDoorzRq
import Derived.Test.YtmnemjhkmllniaaGreatDoorzLb
namespace Go.Proofs.YtmnemjhkmllniaaGreatDoor
open Go.ChangeShapes Go.WideShapes Go.RowKit Go.Sort

/-- The mask of the first m bits of an address of this V, within its bits. -/
def allQ (u : Int) (m : Nat) : Nat := maskQ (128 - bitsV u + m) &&& notQ (maskQ (128 - bitsV u))
theorem allQ_lt (u : Int) (m : Nat) : allQ u m < 340282366920938463463374607431768211456 := and_lt _ _ (maskQ_lt _)
theorem all_cut (u : Int) (m x : Nat) (hm : m ≤ bitsV u) (hx : x < 2 ^ bitsV u) : x &&& allQ u m = cutK (hostK u m) x := by
  have hb := bitsV_le u
  have hx' : x < 340282366920938463463374607431768211456 := Nat.lt_of_lt_of_le hx (pow_bits_le u)
  have e : x &&& notQ (maskQ (128 - bitsV u)) = x := by
    rw [not_mask _ hb, Nat.and_two_pow_sub_one_eq_mod, Nat.mod_eq_of_lt hx]
  unfold allQ
  rw [Nat.and_comm (maskQ _), ← Nat.and_assoc, e, and_mask x _ hx' (by omega)]
  congr 1
  unfold hostK
  omega
/-- A block of two noughts, laid behind W. -/
structure Fresh (W w : World) (N : Nat) : Prop where
  c0 : w.cell? ⟨N, 0, none⟩ = some (.int .u64 0)
  c1 : w.cell? ⟨N, 1, none⟩ = some (.int .u64 0)
  cf : ∀ o, w.frozen? ⟨N, o, none⟩ = false
  lt : N < w.heap.size
  le : W.heap.size ≤ N
theorem fresh_next {W V w : World} {N : Nat} (hb : Below V.heap.size V w) (F : Fresh W V N) : Fresh W w N := by
  obtain ⟨k, f, l⟩ := keepf hb N F.lt
  exact ⟨(k 0).trans F.c0, (k 1).trans F.c1, fun o => (f o).trans (F.cf o), l, F.le⟩
theorem fresh_new {W V w : World} (hb : Below (V.alloc (.cells #[.int .u64 0, .int .u64 0] 26)).heap.size (V.alloc (.cells #[.int .u64 0, .int .u64 0] 26)) w) (hW : Below W.heap.size W V) : Fresh W w V.heap.size := by
  obtain ⟨k, f, l⟩ := keepf hb V.heap.size (by simp)
  exact ⟨(k 0).trans (by simp [go_sem]), (k 1).trans (by simp [go_sem]), fun o => (f o).trans (by simp [go_sem]), l, hW.size⟩
theorem fresh_newd {W V w : World} (hb : Below (V.drew.alloc (.cells #[.int .u64 0, .int .u64 0] 26)).heap.size (V.drew.alloc (.cells #[.int .u64 0, .int .u64 0] 26)) w) (hW : Below W.heap.size W V) : Fresh W w V.heap.size :=
  fresh_new (V := V.drew) hb (Below.drew hW)
theorem fresh_ne {W : World} {B N : Nat} (h : B < W.heap.size) (h' : W.heap.size ≤ N) : N ≠ B := by omega
theorem and255_nat (n : Int) : ∃ k : Nat, k < 256 ∧ bits .and .i64 n 255 = (k : Int) ∧ (k : Int) = n % 256 := ⟨(n % 256).toNat, by omega, by rw [i64_and255]; omega, by omega⟩
theorem tmod_nat (y m : Nat) : ((y : Int)).tmod ((m : Int) + 1) = ((y % (m + 1) : Nat) : Int) := by
  rw [Int.tmod_eq_emod_of_nonneg (by omega), Int.natCast_emod]; rfl
/-- A prefix made of an address of which P holds. -/
def PreOf (P : Int → Nat → Prop) (n : Int) (e : Ending) : Prop := ∃ (u : Int) (x m : Nat), P u x ∧ okV u x = true ∧ x < 340282366920938463463374607431768211456 ∧ (m : Int) = n % 256 % (bitsV u + 1) ∧ m ≤ bitsV u ∧
  e = .returned (.agg #[.int .i64 u, .int .u64 (hiQ (cutK (hostK u m) x)), .int .u64 (loQ (cutK (hostK u m) x)), .int .i64 m])
set_option maxHeartbeats 8000000 in
set_option maxRecDepth 100000 in
theorem pre_of (P : Int → Nat → Prop) (v a b n : Int) (w : World)
    (hA : ∀ w, Calls Tryz.prog 24 #[.int .i64 v, .int .u64 a, .int .u64 b] w fun e w' => (∃ (u : Int) (x : Nat), e = .returned (.agg #[.int .i64 u, .int .u64 (hiQ x), .int .u64 (loQ x)]) ∧ okV u x = true ∧ x < 340282366920938463463374607431768211456 ∧ P u x) ∧ Below w.heap.size w w') :
    Calls Tryz.prog 6 #[.int .i64 v, .int .u64 a, .int .u64 b, .int .i64 n] w fun e w' => PreOf P n e ∧ Below w.heap.size w w' := by
  have HA := Lib.hid hA
  clear hA
  obtain ⟨k, hk, hkk, hkn⟩ := and255_nat n
  have HKN := Lib.hid hkn
  clear hkn
  go_enter Tryz.func6, Tryz.ntmps6
  go_wp2_with fail
  refine (HA.out _).mono ?_
  rintro e w1 ⟨⟨u, x, rfl, ho, hx, hp⟩, hb1⟩
  have HO := Lib.hid (And.intro ho (And.intro hx hp))
  have hbb := bitsV_le u
  have HBits := Lib.hid (refBits_x u)
  obtain ⟨b0, hb0⟩ : ∃ b0, bitsV u = b0 := ⟨_, rfl⟩
  have HB0 := Lib.hid hb0
  rw [hb0] at hbb HBits
  clear ho hx hp hb0
  obtain ⟨kr, fr, lr⟩ := keepf hb1 w.heap.size (by simp)
  have z0 : w1.cell? ⟨w.heap.size, 0, none⟩ = some (.int .i64 0) := by rw [kr]; simp [go_sem]
  have z1 : w1.cell? ⟨w.heap.size, 1, none⟩ = some (.int .u64 0) := by rw [kr]; simp [go_sem]
  have z2 : w1.cell? ⟨w.heap.size, 2, none⟩ = some (.int .u64 0) := by rw [kr]; simp [go_sem]
  have z3 : w1.cell? ⟨w.heap.size, 3, none⟩ = some (.int .i64 0) := by rw [kr]; simp [go_sem]
  have zf : ∀ o, w1.frozen? ⟨w.heap.size, o, none⟩ = false := fun o => by rw [fr]; simp [go_sem]
  have B1 := below_next (ball (Below.refl _ _)) hb1
  clear kr fr hb1 HA
  go_wp2_with fail
  refine (HBits.out _).mono ?_
  rintro e W ⟨rfl, hbW⟩
  have BW := below_next (ball B1) hbW
  obtain ⟨kr, fr, lr⟩ := keepf (below_next (ball (Below.refl w1.heap.size w1)) hbW) w.heap.size lr
  have r0 := (kr 0).trans z0
  have r1 := (kr 1).trans z1
  have r2 := (kr 2).trans z2
  have r3 := (kr 3).trans z3
  have rf : ∀ o, W.frozen? ⟨w.heap.size, o, none⟩ = false := fun o => (fr o).trans (zf o)
  obtain ⟨ka, fa, la⟩ := keepf hbW w1.heap.size (by simp)
  have a0 : W.cell? ⟨w1.heap.size, 0, none⟩ = some (.int .i64 u) := by rw [ka]; simp [go_sem]
  have a1 : W.cell? ⟨w1.heap.size, 1, none⟩ = some (.int .u64 (hiQ x)) := by rw [ka]; simp [go_sem]
  have a2 : W.cell? ⟨w1.heap.size, 2, none⟩ = some (.int .u64 (loQ x)) := by rw [ka]; simp [go_sem]
  have af : ∀ o, W.frozen? ⟨w1.heap.size, o, none⟩ = false := fun o => by rw [fa]; simp [go_sem]
  clear kr fr ka fa z0 z1 z2 z3 zf B1 hbW
  have hmod := tmod_nat k b0
  obtain ⟨m, hm⟩ : ∃ m, k % (b0 + 1) = m := ⟨_, rfl⟩
  rw [hm] at hmod
  have hmb : m ≤ b0 := by have := Nat.mod_lt k (show 0 < b0 + 1 by omega); omega
  have HMN : Hid ((m : Int) = n % 256 % (bitsV u + 1)) := by show _ = _; rw [HB0.out, ← HKN.out, ← hm, Int.natCast_emod]; rfl
  have H1 : Hid (∀ w, Calls Tryz.prog 29 #[.int .i64 (128 - (b0 : Int) + m)] w fun e w' => e = .returned (.agg #[.int .u64 (hiQ (maskQ (128 - b0 + m))), .int .u64 (loQ (maskQ (128 - b0 + m)))]) ∧ Below w.heap.size w w') := fun w => by
    have := refMask_x (128 - b0 + m) w (by omega)
    rw [show ((128 - b0 + m : Nat) : Int) = 128 - (b0 : Int) + m by omega] at this
    exact this
  have H2 : Hid (∀ w, Calls Tryz.prog 29 #[.int .i64 (128 - (b0 : Int))] w fun e w' => e = .returned (.agg #[.int .u64 (hiQ (maskQ (128 - b0))), .int .u64 (loQ (maskQ (128 - b0)))]) ∧ Below w.heap.size w w') := fun w => by
    have := refMask_x (128 - b0) w (by omega)
    rw [show ((128 - b0 : Nat) : Int) = 128 - (b0 : Int) by omega] at this
    exact this
  have H3 : Hid (∀ w, Calls Tryz.prog 30 #[.agg #[.int .u64 (hiQ (maskQ (128 - b0))), .int .u64 (loQ (maskQ (128 - b0)))]] w fun e w' => e = .returned (.agg #[.int .u64 (hiQ (notQ (maskQ (128 - b0)))), .int .u64 (loQ (notQ (maskQ (128 - b0))))]) ∧ Below w.heap.size w w') := fun w => refNot_x _ w (maskQ_lt _)
  have H4 : Hid (∀ w, Calls Tryz.prog 28 #[.agg #[.int .u64 (hiQ (maskQ (128 - b0 + m))), .int .u64 (loQ (maskQ (128 - b0 + m)))], .agg #[.int .u64 (hiQ (notQ (maskQ (128 - b0)))), .int .u64 (loQ (notQ (maskQ (128 - b0))))]] w fun e w' => e = .returned (.agg #[.int .u64 (hiQ (allQ u m)), .int .u64 (loQ (allQ u m))]) ∧ Below w.heap.size w w') := fun w =>
    refAnd_is _ _ _ w (maskQ_lt _) (notQ_lt _) (by unfold allQ; rw [HB0.out])
  have H5 : Hid (∀ w, Calls Tryz.prog 28 #[.agg #[.int .u64 (hiQ x), .int .u64 (loQ x)], .agg #[.int .u64 (hiQ (allQ u m)), .int .u64 (loQ (allQ u m))]] w fun e w' => e = .returned (.agg #[.int .u64 (hiQ (cutK (hostK u m) x)), .int .u64 (loQ (cutK (hostK u m) x))]) ∧ Below w.heap.size w w') := fun w =>
    refAnd_is _ _ _ w HO.out.2.1 (allQ_lt _ _) (all_cut u m x (by rw [HB0.out]; exact hmb) (okV_lt HO.out.1 HO.out.2.1))
  have HMB : Hid (m ≤ bitsV u) := by show _ ≤ _; rw [HB0.out]; exact hmb
  generalize allQ u m = A at *
  generalize notQ (maskQ (128 - b0)) = M3 at *
  generalize maskQ (128 - b0) = M2 at *
  generalize maskQ (128 - b0 + m) = M1 at *
  clear hm
  have hw1 : IntKind.i64.wrap (128 - (b0 : Int)) = 128 - (b0 : Int) := by rw [IntKind.wrap_i64]; omega
  have hw2 : IntKind.i64.wrap (128 - (b0 : Int) + m) = 128 - (b0 : Int) + m := by rw [IntKind.wrap_i64]; omega
  go_upto_region 3 with fail
  go_cut [10] (fun p wx => ∃ N, p = .pointer (some ⟨N, 0, none⟩) ∧ wx.cell? ⟨N, 0, none⟩ = some (.int .u64 (hiQ A)) ∧ wx.cell? ⟨N, 1, none⟩ = some (.int .u64 (loQ A)) ∧ Below W.heap.size W wx)
  case first =>
    have C8 : Below W.heap.size W W := Below.refl _ _
    have nX := Nat.ne_of_gt la
    go_region_held3 (fun w' => w'.cell? ⟨w1.heap.size, 0, none⟩ = some (.int .i64 u)) (go_keep)
      (first
        | (go_at_call 27; refine (HBits.out _).mono ?_; rintro e w8 ⟨rfl, hb8⟩; (first | (have F8 := fresh_next hb8 F8; obtain ⟨g0, g1, gf, gl, ge⟩ := id F8; have gn := fresh_ne la ge) | (have F8 := fresh_newd (W := W) hb8 C8; obtain ⟨g0, g1, gf, gl, ge⟩ := id F8; have gn := fresh_ne la ge) | (have F8 := fresh_new (W := W) hb8 (by repeat (first | exact C8 | apply Below.drew)); obtain ⟨g0, g1, gf, gl, ge⟩ := id F8; have gn := fresh_ne la ge) | skip); have C8 : Below W.heap.size W w8 := below_next (by repeat (first | exact C8 | apply Below.drew | apply ball)) hb8; obtain ⟨k8, l8⟩ := keep C8 w1.heap.size la; have n8 := Nat.ne_of_gt l8)
        | (go_at_call 29; with_reducible refine Calls.mono (H1.out _) ?_; rintro e w8 ⟨rfl, hb8⟩; (first | (have F8 := fresh_next hb8 F8; obtain ⟨g0, g1, gf, gl, ge⟩ := id F8; have gn := fresh_ne la ge) | (have F8 := fresh_newd (W := W) hb8 C8; obtain ⟨g0, g1, gf, gl, ge⟩ := id F8; have gn := fresh_ne la ge) | (have F8 := fresh_new (W := W) hb8 (by repeat (first | exact C8 | apply Below.drew)); obtain ⟨g0, g1, gf, gl, ge⟩ := id F8; have gn := fresh_ne la ge) | skip); have C8 : Below W.heap.size W w8 := below_next (by repeat (first | exact C8 | apply Below.drew | apply ball)) hb8; obtain ⟨k8, l8⟩ := keep C8 w1.heap.size la; have n8 := Nat.ne_of_gt l8)
        | (go_at_call 29; with_reducible refine Calls.mono (H2.out _) ?_; rintro e w8 ⟨rfl, hb8⟩; (first | (have F8 := fresh_next hb8 F8; obtain ⟨g0, g1, gf, gl, ge⟩ := id F8; have gn := fresh_ne la ge) | (have F8 := fresh_newd (W := W) hb8 C8; obtain ⟨g0, g1, gf, gl, ge⟩ := id F8; have gn := fresh_ne la ge) | (have F8 := fresh_new (W := W) hb8 (by repeat (first | exact C8 | apply Below.drew)); obtain ⟨g0, g1, gf, gl, ge⟩ := id F8; have gn := fresh_ne la ge) | skip); have C8 : Below W.heap.size W w8 := below_next (by repeat (first | exact C8 | apply Below.drew | apply ball)) hb8; obtain ⟨k8, l8⟩ := keep C8 w1.heap.size la; have n8 := Nat.ne_of_gt l8)
        | (go_at_call 30; refine (H3.out _).mono ?_; rintro e w8 ⟨rfl, hb8⟩; (first | (have F8 := fresh_next hb8 F8; obtain ⟨g0, g1, gf, gl, ge⟩ := id F8; have gn := fresh_ne la ge) | (have F8 := fresh_newd (W := W) hb8 C8; obtain ⟨g0, g1, gf, gl, ge⟩ := id F8; have gn := fresh_ne la ge) | (have F8 := fresh_new (W := W) hb8 (by repeat (first | exact C8 | apply Below.drew)); obtain ⟨g0, g1, gf, gl, ge⟩ := id F8; have gn := fresh_ne la ge) | skip); have C8 : Below W.heap.size W w8 := below_next (by repeat (first | exact C8 | apply Below.drew | apply ball)) hb8; obtain ⟨k8, l8⟩ := keep C8 w1.heap.size la; have n8 := Nat.ne_of_gt l8)
        | (go_at_call 28; refine (H4.out _).mono ?_; rintro e w8 ⟨rfl, hb8⟩; (first | (have F8 := fresh_next hb8 F8; obtain ⟨g0, g1, gf, gl, ge⟩ := id F8; have gn := fresh_ne la ge) | (have F8 := fresh_newd (W := W) hb8 C8; obtain ⟨g0, g1, gf, gl, ge⟩ := id F8; have gn := fresh_ne la ge) | (have F8 := fresh_new (W := W) hb8 (by repeat (first | exact C8 | apply Below.drew)); obtain ⟨g0, g1, gf, gl, ge⟩ := id F8; have gn := fresh_ne la ge) | skip); have C8 : Below W.heap.size W w8 := below_next (by repeat (first | exact C8 | apply Below.drew | apply ball)) hb8; obtain ⟨k8, l8⟩ := keep C8 w1.heap.size la; have n8 := Nat.ne_of_gt l8))
    all_goals
      go_wp2_with fail
      go_meet
    all_goals refine ⟨_, rfl, ?_, ?_, ?_⟩
    all_goals first
      | exact (set2 g0 g1).1
      | exact (set2 g0 g1).2
      | exact (C8.setCell ge _).setCell ge _
      | exact ball C8
      | exact ((ball C8).setCell C8.size _).setCell C8.size _
      | (simp [go_sem]; done)
  case rest =>
    obtain ⟨N, rfl, t0, t1, CX⟩ := hcut
    obtain ⟨ka, fa, lx⟩ := keepf CX w1.heap.size la
    have x0 := (ka 0).trans a0
    have x1 := (ka 1).trans a1
    have x2 := (ka 2).trans a2
    have xf := fun o => (fa o).trans (af o)
    obtain ⟨kr, fr, ly⟩ := keepf CX w.heap.size lr
    have y0 := (kr 0).trans r0
    have y1 := (kr 1).trans r1
    have y2 := (kr 2).trans r2
    have y3 := (kr 3).trans r3
    have yf := fun o => (fr o).trans (rf o)
    have BX := below_next BW CX
    clear ka fa kr fr r0 r1 r2 r3 rf a0 a1 a2 af CX BW
    go_wp2_with fail
    refine (H5.out _).mono ?_
    rintro e w9 ⟨rfl, hb9⟩
    obtain ⟨ka, fa, lz⟩ := keepf hb9 w1.heap.size lx
    replace x0 := (ka 0).trans x0
    replace x1 := (ka 1).trans x1
    replace x2 := (ka 2).trans x2
    replace xf : ∀ o, w9.frozen? ⟨w1.heap.size, o, none⟩ = false := fun o => (fa o).trans (xf o)
    obtain ⟨kr, fr, lv⟩ := keepf hb9 w.heap.size ly
    replace y0 := (kr 0).trans y0
    replace y1 := (kr 1).trans y1
    replace y2 := (kr 2).trans y2
    replace y3 := (kr 3).trans y3
    replace yf : ∀ o, w9.frozen? ⟨w.heap.size, o, none⟩ = false := fun o => (fr o).trans (yf o)
    have B9 := below_next BX hb9
    have hne : w1.heap.size ≠ w.heap.size := Nat.ne_of_gt ‹w.heap.size < w1.heap.size›
    clear ka fa kr fr t0 t1 BX hb9
    obtain ⟨y, hy⟩ : ∃ y, cutK (hostK u m) x = y := ⟨_, rfl⟩
    rw [hy]
    have HY := Lib.hid hy
    clear hy H5
    go_wp2
    exact bodyPost_ret (v := .agg #[.int .i64 u, .int .u64 (hiQ y), .int .u64 (loQ y), .int .i64 m]) (by simp [results, Tryz.results6, go_sem, *]) rfl ⟨⟨u, x, m, HO.out.2.2, HO.out.1, HO.out.2.1, HMN.out, HMB.out, by rw [HY.out]⟩, (((((B9.setCell (Nat.le_of_lt ‹w.heap.size < w1.heap.size›) _).setCell (Nat.le_of_lt ‹w.heap.size < w1.heap.size›) _).setCell (Nat.le_refl _) _).setCell (Nat.le_refl _) _).setCell (Nat.le_refl _) _).setCell (Nat.le_refl _) _⟩
/-- A prefix that may stand. -/
def MadeP (e : Ending) : Prop := ∃ (u : Int) (x m : Nat), e = .returned (.agg #[.int .i64 u, .int .u64 (hiQ x), .int .u64 (loQ x), .int .i64 m]) ∧ okP u x m = true ∧ x < 340282366920938463463374607431768211456
theorem okP_cut {u : Int} {x m : Nat} (h : okV u x = true) (hx : x < 340282366920938463463374607431768211456) (hm : m ≤ bitsV u) : okP u (cutK (hostK u m) x) m = true :=
  okP_of (okV_of (okV_v h) (Nat.lt_of_le_of_lt (cutK_le _ _) (okV_lt h hx))) (by omega) (by omega) (cutK_cutK _ _)
theorem pre_x (v a b n : Int) (w : World) (ha : 0 ≤ a ∧ a < 18446744073709551616) (hb : 0 ≤ b ∧ b < 18446744073709551616) :
    Calls Tryz.prog 6 #[.int .i64 v, .int .u64 a, .int .u64 b, .int .i64 n] w fun e w' => MadeP e ∧ Below w.heap.size w w' := by
  refine (pre_of (fun _ _ => True) v a b n w (fun w => (addr_x v a b w ha hb).mono ?_)).mono ?_
  · rintro e w' ⟨⟨u, x, h1, h2, h3⟩, hb⟩
    exact ⟨⟨u, x, h1, h2, h3, trivial⟩, hb⟩
  · rintro e w' ⟨⟨u, x, m, _, h1, h2, _, h3, h4⟩, hb⟩
    exact ⟨⟨u, _, m, h4, okP_cut h1 h2 h3, cutK_lt _ _ h2⟩, hb⟩
end Go.Proofs.YtmnemjhkmllniaaGreatDoor
