/- addr.split and addr.longestNoughts: the eight groups of a number, and their longest row of noughts. -/
import Derived.Test.YtmnemjhkmllniaaGreatDoorzPb
import Derived.Test.YtmnemjhkmllniaaGreatDoorzAm
namespace Go.Proofs.YtmnemjhkmllniaaGreatDoor
open Go.ChangeShapes Go.WideShapes Go.RowKit Go.Sort

/-- The j-th of the eight groups. -/
def gi (x j : Nat) : Nat := (groupsOf x).getD j 0
theorem and16 (a : Nat) (h : a < 18446744073709551616) : bits .and .u64 (a : Int) 65535 = ((a % 65536 : Nat) : Int) := by
  rw [show (65535 : Int) = ((65535 : Nat) : Int) by rfl, u64_and_nat _ _ h (by omega), show (65535 : Nat) = 2 ^ 16 - 1 by rfl, Nat.and_two_pow_sub_one_eq_mod]
theorem gi_hi (x d j : Nat) (hx : x < 340282366920938463463374607431768211456) (h : gi x j = x / 18446744073709551616 / d % 65536) : bits .and .u64 (hiQ x / (d : Int)) 65535 = ((gi x j : Nat) : Int) := by
  have := and16 (x / 18446744073709551616 / d) (Nat.lt_of_le_of_lt (Nat.div_le_self _ _) (by omega))
  rw [h, ← this]
  rfl
theorem gi_lo (x d j : Nat) (h : gi x j = x % 18446744073709551616 / d % 65536) : bits .and .u64 (loQ x / (d : Int)) 65535 = ((gi x j : Nat) : Int) := by
  have := and16 (x % 18446744073709551616 / d) (Nat.lt_of_le_of_lt (Nat.div_le_self _ _) (by omega))
  rw [h, ← this]
  rfl
theorem groupsOf_gi (x : Nat) : groupsOf x = [gi x 0, gi x 1, gi x 2, gi x 3, gi x 4, gi x 5, gi x 6, gi x 7] := rfl
/-- In the middle of split's loop. -/
def MidG8 (w : World) (H : Nat) (x k : Nat) : Prop :=
  (∀ j, j < k → w.cell? ⟨H, j, none⟩ = some (.int .u64 (gi x j : Int)) ∧ w.cell? ⟨H, j + 4, none⟩ = some (.int .u64 (gi x (j + 4) : Int))) ∧ (∀ j, j < 8 → ∃ y, w.cell? ⟨H, j, none⟩ = some (.int .u64 y)) ∧ ∀ o, w.frozen? ⟨H, o, none⟩ = false
theorem mid8_set {w : World} {H x k : Nat} (h : MidG8 w H x k) (hk : k < 4) : MidG8 ((w.setCell ⟨H, k, none⟩ (.int .u64 (gi x k : Int))).setCell ⟨H, k + 4, none⟩ (.int .u64 (gi x (k + 4) : Int))) H x (k + 1) := by
  obtain ⟨y, hy⟩ := h.2.1 k (by omega)
  obtain ⟨z, hz⟩ := h.2.1 (k + 4) (by omega)
  have o1 : ∀ j v, j ≠ k → (w.setCell ⟨H, k, none⟩ v).cell? ⟨H, j, none⟩ = w.cell? ⟨H, j, none⟩ := fun j v hj => World.cell?_setCell_other _ _ _ _ (by intro e; injection e with _ e; omega)
  have hz1 : (w.setCell ⟨H, k, none⟩ (.int .u64 (gi x k : Int))).cell? ⟨H, k + 4, none⟩ = some (.int .u64 z) := (o1 (k + 4) _ (by omega)).trans hz
  have o2 : ∀ j v, j ≠ k + 4 → ((w.setCell ⟨H, k, none⟩ (.int .u64 (gi x k : Int))).setCell ⟨H, k + 4, none⟩ v).cell? ⟨H, j, none⟩ = (w.setCell ⟨H, k, none⟩ (.int .u64 (gi x k : Int))).cell? ⟨H, j, none⟩ := fun j v hj => World.cell?_setCell_other _ _ _ _ (by intro e; injection e with _ e; omega)
  refine ⟨fun j hj => ?_, fun j hj => ?_, fun o => by simp [h.2.2 o]⟩
  · by_cases e : j = k
    · subst e
      exact ⟨(o2 j _ (by omega)).trans (World.cell?_setCell_same _ _ _ hy), World.cell?_setCell_same _ _ _ hz1⟩
    · exact ⟨((o2 j _ (by omega)).trans (o1 j _ (by omega))).trans (h.1 j (by omega)).1, ((o2 (j + 4) _ (by omega)).trans (o1 (j + 4) _ (by omega))).trans (h.1 j (by omega)).2⟩
  · by_cases e : j = k + 4
    · subst e; exact ⟨_, World.cell?_setCell_same _ _ _ hz1⟩
    · by_cases e' : j = k
      · subst e'; exact ⟨_, (o2 j _ (by omega)).trans (World.cell?_setCell_same _ _ _ hy)⟩
      · obtain ⟨u, hu⟩ := h.2.1 j hj
        exact ⟨u, ((o2 j _ (by omega)).trans (o1 j _ (by omega))).trans hu⟩
theorem bset8 {B b : Nat} {a w : World} {v0 v1 v2 v3 v4 v5 v6 v7 : Value} (h : Below B a w) (hb : B ≤ b) : Below B a ((((((((w.setCell ⟨b, 0, none⟩ v0).setCell ⟨b, 1, none⟩ v1).setCell ⟨b, 2, none⟩ v2).setCell ⟨b, 3, none⟩ v3).setCell ⟨b, 4, none⟩ v4).setCell ⟨b, 5, none⟩ v5).setCell ⟨b, 6, none⟩ v6).setCell ⟨b, 7, none⟩ v7) :=
  (((((((h.setCell hb _).setCell hb _).setCell hb _).setCell hb _).setCell hb _).setCell hb _).setCell hb _).setCell hb _
set_option maxHeartbeats 8000000 in
set_option maxRecDepth 100000 in
theorem split_x (x : Nat) (w : World) (hx : x < 340282366920938463463374607431768211456) :
    Calls Tryz.prog 64 #[.agg #[.int .u64 (hiQ x), .int .u64 (loQ x)]] w fun e w' => e = .returned (.agg #[.int .u64 (gi x 0 : Int), .int .u64 (gi x 1 : Int), .int .u64 (gi x 2 : Int), .int .u64 (gi x 3 : Int), .int .u64 (gi x 4 : Int), .int .u64 (gi x 5 : Int), .int .u64 (gi x 6 : Int), .int .u64 (gi x 7 : Int)]) ∧ Below w.heap.size w w' := by
  have HX := Lib.hid hx
  obtain ⟨W0, hW0⟩ : ∃ W0, W0 = ((w.alloc (.cells #[.int .u64 (hiQ x), .int .u64 (loQ x)] 26)).alloc (.cells #[.int .u64 0, .int .u64 0, .int .u64 0, .int .u64 0, .int .u64 0, .int .u64 0, .int .u64 0, .int .u64 0] 89)).alloc (.cells #[.int .u64 0, .int .u64 0, .int .u64 0, .int .u64 0, .int .u64 0, .int .u64 0, .int .u64 0, .int .u64 0] 89) := ⟨_, rfl⟩
  have B0 : Below w.heap.size w W0 := hW0 ▸ below3 _ _ _ _
  have HQ : Hid (W0.cell? ⟨w.heap.size, 0, none⟩ = some (.int .u64 (hiQ x)) ∧ W0.cell? ⟨w.heap.size, 1, none⟩ = some (.int .u64 (loQ x))) := ⟨by rw [hW0]; simp [go_sem], by rw [hW0]; simp [go_sem]⟩
  have HR : Hid ((∀ j, j < 8 → ∃ y, W0.cell? ⟨w.heap.size + 1, j, none⟩ = some (.int .u64 y)) ∧ ∀ o, W0.frozen? ⟨w.heap.size + 1, o, none⟩ = false) := by
    refine ⟨fun j hj => ⟨0, ?_⟩, fun o => by rw [hW0]; simp [go_sem]⟩
    rw [hW0]
    rcases (show j = 0 ∨ j = 1 ∨ j = 2 ∨ j = 3 ∨ j = 4 ∨ j = 5 ∨ j = 6 ∨ j = 7 by omega) with rfl | rfl | rfl | rfl | rfl | rfl | rfl | rfl <;> simp [go_sem]
  have HM : Hid (MidG8 W0 (w.heap.size + 1 + 1) x 0) := by
    refine ⟨fun j hj => by omega, fun j hj => ⟨0, ?_⟩, fun o => by rw [hW0]; simp [go_sem]⟩
    rw [hW0]
    rcases (show j = 0 ∨ j = 1 ∨ j = 2 ∨ j = 3 ∨ j = 4 ∨ j = 5 ∨ j = 6 ∨ j = 7 by omega) with rfl | rfl | rfl | rfl | rfl | rfl | rfl | rfl <;> simp [go_sem]
  clear hx
  go_enter Tryz.func64, Tryz.ntmps64
  go_wp2
  rw [← hW0]
  clear hW0
  go_loopw [5] (fun i wr => ∃ (k : Nat), k ≤ 4 ∧ i = .int .i64 k ∧ Hid (MidG8 wr (w.heap.size + 1 + 1) x k) ∧ Below (w.heap.size + 1 + 1) W0 wr)
    (fun i _ => 4 - (intOf i).toNat)
  case atStart => exact ⟨0, by omega, rfl, HM, Below.refl _ _⟩
  case round =>
    obtain ⟨k, hk, rfl, hm, hb⟩ := hrel
    clear HM
    have hc0 : wr.cell? ⟨w.heap.size, 0, none⟩ = some (.int .u64 (hiQ x)) := (hb.cell (p := ⟨w.heap.size, 0, none⟩) (by show w.heap.size < _; omega)).trans HQ.out.1
    have hc1 : wr.cell? ⟨w.heap.size, 1, none⟩ = some (.int .u64 (loQ x)) := (hb.cell (p := ⟨w.heap.size, 1, none⟩) (by show w.heap.size < _; omega)).trans HQ.out.2
    by_cases hk4 : k < 4
    · rcases (show k = 0 ∨ k = 1 ∨ k = 2 ∨ k = 3 by omega) with rfl | rfl | rfl | rfl
      · have hA : Hid (bits .and .u64 (hiQ x / 281474976710656) 65535 = ((gi x 0 : Nat) : Int)) := Lib.hid (gi_hi x 281474976710656 0 HX.out rfl)
        have hB : Hid (bits .and .u64 (loQ x / 281474976710656) 65535 = ((gi x 4 : Nat) : Int)) := Lib.hid (gi_lo x 281474976710656 4 rfl)
        obtain ⟨y, hy⟩ := hm.out.2.1 0 (by omega)
        obtain ⟨z, hz⟩ := hm.out.2.1 4 (by omega)
        have hf1 := hm.out.2.2 0
        have hf2 := hm.out.2.2 4
        go_wp2
        go_roundw
        case rel =>
          rw [hA.out, hB.out]
          exact ⟨1, by omega, rfl, mid8_set hm.out (by omega), (hb.setCell (Nat.le_refl _) _).setCell (Nat.le_refl _) _⟩
        case measure => simp [intOf]
      · have hA : Hid (bits .and .u64 (hiQ x / 4294967296) 65535 = ((gi x 1 : Nat) : Int)) := Lib.hid (gi_hi x 4294967296 1 HX.out rfl)
        have hB : Hid (bits .and .u64 (loQ x / 4294967296) 65535 = ((gi x 5 : Nat) : Int)) := Lib.hid (gi_lo x 4294967296 5 rfl)
        obtain ⟨y, hy⟩ := hm.out.2.1 1 (by omega)
        obtain ⟨z, hz⟩ := hm.out.2.1 5 (by omega)
        have hf1 := hm.out.2.2 1
        have hf2 := hm.out.2.2 5
        go_wp2
        go_roundw
        case rel =>
          rw [hA.out, hB.out]
          exact ⟨2, by omega, rfl, mid8_set hm.out (by omega), (hb.setCell (Nat.le_refl _) _).setCell (Nat.le_refl _) _⟩
        case measure => simp [intOf]
      · have hA : Hid (bits .and .u64 (hiQ x / 65536) 65535 = ((gi x 2 : Nat) : Int)) := Lib.hid (gi_hi x 65536 2 HX.out rfl)
        have hB : Hid (bits .and .u64 (loQ x / 65536) 65535 = ((gi x 6 : Nat) : Int)) := Lib.hid (gi_lo x 65536 6 rfl)
        obtain ⟨y, hy⟩ := hm.out.2.1 2 (by omega)
        obtain ⟨z, hz⟩ := hm.out.2.1 6 (by omega)
        have hf1 := hm.out.2.2 2
        have hf2 := hm.out.2.2 6
        go_wp2
        go_roundw
        case rel =>
          rw [hA.out, hB.out]
          exact ⟨3, by omega, rfl, mid8_set hm.out (by omega), (hb.setCell (Nat.le_refl _) _).setCell (Nat.le_refl _) _⟩
        case measure => simp [intOf]
      · have hA : Hid (bits .and .u64 (hiQ x) 65535 = ((gi x 3 : Nat) : Int)) := Lib.hid (by have := gi_hi x 1 3 HX.out (by rw [Nat.div_one]; rfl); rwa [show ((1 : Nat) : Int) = 1 from rfl, Int.ediv_one] at this)
        have hB : Hid (bits .and .u64 (loQ x) 65535 = ((gi x 7 : Nat) : Int)) := Lib.hid (by have := gi_lo x 1 7 (by rw [Nat.div_one]; rfl); rwa [show ((1 : Nat) : Int) = 1 from rfl, Int.ediv_one] at this)
        obtain ⟨y, hy⟩ := hm.out.2.1 3 (by omega)
        obtain ⟨z, hz⟩ := hm.out.2.1 7 (by omega)
        have hf1 := hm.out.2.2 3
        have hf2 := hm.out.2.2 7
        go_wp2
        go_roundw
        case rel =>
          rw [hA.out, hB.out]
          exact ⟨4, by omega, rfl, mid8_set hm.out (by omega), (hb.setCell (Nat.le_refl _) _).setCell (Nat.le_refl _) _⟩
        case measure => simp [intOf]
    · have hkk : k = 4 := by omega
      subst hkk
      have g0 := (hm.out.1 0 (by omega)).1; have g1 := (hm.out.1 1 (by omega)).1; have g2 := (hm.out.1 2 (by omega)).1; have g3 := (hm.out.1 3 (by omega)).1
      have g4 := (hm.out.1 0 (by omega)).2; have g5 := (hm.out.1 1 (by omega)).2; have g6 := (hm.out.1 2 (by omega)).2; have g7 := (hm.out.1 3 (by omega)).2
      simp only [Nat.zero_add, Nat.reduceAdd] at g4 g5 g6 g7
      have hr : ∀ j, j < 8 → ∃ y, wr.cell? ⟨w.heap.size + 1, j, none⟩ = some (.int .u64 y) := fun j hj => by
        obtain ⟨y, hy⟩ := HR.out.1 j hj
        exact ⟨y, (hb.cell (p := ⟨w.heap.size + 1, j, none⟩) (by show w.heap.size + 1 < _; omega)).trans hy⟩
      obtain ⟨y0, r0⟩ := hr 0 (by omega); obtain ⟨y1, r1⟩ := hr 1 (by omega); obtain ⟨y2, r2⟩ := hr 2 (by omega); obtain ⟨y3, r3⟩ := hr 3 (by omega)
      obtain ⟨y4, r4⟩ := hr 4 (by omega); obtain ⟨y5, r5⟩ := hr 5 (by omega); obtain ⟨y6, r6⟩ := hr 6 (by omega); obtain ⟨y7, r7⟩ := hr 7 (by omega)
      have rf : ∀ o, wr.frozen? ⟨w.heap.size + 1, o, none⟩ = false := fun o => (hb.frozen (p := ⟨w.heap.size + 1, o, none⟩) (by show w.heap.size + 1 < _; omega)).trans (HR.out.2 o)
      clear hr hm
      go_wp2
      exact bodyPost_ret (v := .agg #[.int .u64 (gi x 0 : Int), .int .u64 (gi x 1 : Int), .int .u64 (gi x 2 : Int), .int .u64 (gi x 3 : Int), .int .u64 (gi x 4 : Int), .int .u64 (gi x 5 : Int), .int .u64 (gi x 6 : Int), .int .u64 (gi x 7 : Int)]) (by simp [results, Tryz.results64, go_sem, r0, r1, r2, r3, r4, r5, r6, r7]) rfl ⟨rfl, bset8 (B0.trans (hb.mono (by omega))) (by omega)⟩
theorem ix0 (a0 a1 a2 a3 a4 a5 a6 a7 : Nat) (W : World) : (Instr.index 89 (.agg #[.int .u64 (a0 : Int), .int .u64 (a1 : Int), .int .u64 (a2 : Int), .int .u64 (a3 : Int), .int .u64 (a4 : Int), .int .u64 (a5 : Int), .int .u64 (a6 : Int), .int .u64 (a7 : Int)]) (.int .i64 0)).run Tryz.prog W = .ok (.int .u64 (a0 : Int)) W := by kernel_rfl
theorem ix1 (a0 a1 a2 a3 a4 a5 a6 a7 : Nat) (W : World) : (Instr.index 89 (.agg #[.int .u64 (a0 : Int), .int .u64 (a1 : Int), .int .u64 (a2 : Int), .int .u64 (a3 : Int), .int .u64 (a4 : Int), .int .u64 (a5 : Int), .int .u64 (a6 : Int), .int .u64 (a7 : Int)]) (.int .i64 1)).run Tryz.prog W = .ok (.int .u64 (a1 : Int)) W := by kernel_rfl
theorem ix2 (a0 a1 a2 a3 a4 a5 a6 a7 : Nat) (W : World) : (Instr.index 89 (.agg #[.int .u64 (a0 : Int), .int .u64 (a1 : Int), .int .u64 (a2 : Int), .int .u64 (a3 : Int), .int .u64 (a4 : Int), .int .u64 (a5 : Int), .int .u64 (a6 : Int), .int .u64 (a7 : Int)]) (.int .i64 2)).run Tryz.prog W = .ok (.int .u64 (a2 : Int)) W := by kernel_rfl
theorem ix3 (a0 a1 a2 a3 a4 a5 a6 a7 : Nat) (W : World) : (Instr.index 89 (.agg #[.int .u64 (a0 : Int), .int .u64 (a1 : Int), .int .u64 (a2 : Int), .int .u64 (a3 : Int), .int .u64 (a4 : Int), .int .u64 (a5 : Int), .int .u64 (a6 : Int), .int .u64 (a7 : Int)]) (.int .i64 3)).run Tryz.prog W = .ok (.int .u64 (a3 : Int)) W := by kernel_rfl
theorem ix4 (a0 a1 a2 a3 a4 a5 a6 a7 : Nat) (W : World) : (Instr.index 89 (.agg #[.int .u64 (a0 : Int), .int .u64 (a1 : Int), .int .u64 (a2 : Int), .int .u64 (a3 : Int), .int .u64 (a4 : Int), .int .u64 (a5 : Int), .int .u64 (a6 : Int), .int .u64 (a7 : Int)]) (.int .i64 4)).run Tryz.prog W = .ok (.int .u64 (a4 : Int)) W := by kernel_rfl
theorem ix5 (a0 a1 a2 a3 a4 a5 a6 a7 : Nat) (W : World) : (Instr.index 89 (.agg #[.int .u64 (a0 : Int), .int .u64 (a1 : Int), .int .u64 (a2 : Int), .int .u64 (a3 : Int), .int .u64 (a4 : Int), .int .u64 (a5 : Int), .int .u64 (a6 : Int), .int .u64 (a7 : Int)]) (.int .i64 5)).run Tryz.prog W = .ok (.int .u64 (a5 : Int)) W := by kernel_rfl
theorem ix6 (a0 a1 a2 a3 a4 a5 a6 a7 : Nat) (W : World) : (Instr.index 89 (.agg #[.int .u64 (a0 : Int), .int .u64 (a1 : Int), .int .u64 (a2 : Int), .int .u64 (a3 : Int), .int .u64 (a4 : Int), .int .u64 (a5 : Int), .int .u64 (a6 : Int), .int .u64 (a7 : Int)]) (.int .i64 6)).run Tryz.prog W = .ok (.int .u64 (a6 : Int)) W := by kernel_rfl
theorem ix7 (a0 a1 a2 a3 a4 a5 a6 a7 : Nat) (W : World) : (Instr.index 89 (.agg #[.int .u64 (a0 : Int), .int .u64 (a1 : Int), .int .u64 (a2 : Int), .int .u64 (a3 : Int), .int .u64 (a4 : Int), .int .u64 (a5 : Int), .int .u64 (a6 : Int), .int .u64 (a7 : Int)]) (.int .i64 7)).run Tryz.prog W = .ok (.int .u64 (a7 : Int)) W := by kernel_rfl
theorem long_nz {i st f t g : Nat} {r : List Nat} (h : g ≠ 0) : longest i st f t (g :: r) = longest (i + 1) (i + 1) f t r := by
  conv => lhs; unfold longest
  rw [if_pos h]
theorem long_more {i st f t : Nat} {r : List Nat} (h : t - f < i + 1 - st) : longest i st f t (0 :: r) = longest (i + 1) st st (i + 1) r := by
  conv => lhs; unfold longest
  rw [if_neg (by simp), if_pos h]
theorem long_less {i st f t : Nat} {r : List Nat} (h : ¬ t - f < i + 1 - st) : longest i st f t (0 :: r) = longest (i + 1) st f t r := by
  conv => lhs; unfold longest
  rw [if_neg (by simp), if_neg h]
set_option maxHeartbeats 8000000 in
set_option maxRecDepth 100000 in
theorem longest_x (a0 a1 a2 a3 a4 a5 a6 a7 : Nat) (w : World) :
    Calls Tryz.prog 85 #[.agg #[.int .u64 (a0 : Int), .int .u64 (a1 : Int), .int .u64 (a2 : Int), .int .u64 (a3 : Int), .int .u64 (a4 : Int), .int .u64 (a5 : Int), .int .u64 (a6 : Int), .int .u64 (a7 : Int)]] w fun e w' =>
      e = .returned (.tuple #[.int .i64 ((longest 0 0 0 0 [a0, a1, a2, a3, a4, a5, a6, a7]).1 : Int), .int .i64 ((longest 0 0 0 0 [a0, a1, a2, a3, a4, a5, a6, a7]).2 : Int)]) ∧ Below w.heap.size w w' := by
  obtain ⟨p, hp⟩ : ∃ p, p = longest 0 0 0 0 [a0, a1, a2, a3, a4, a5, a6, a7] := ⟨_, rfl⟩
  rw [← hp]
  have HP := Lib.hid hp
  clear hp
  go_enter Tryz.func85, Tryz.ntmps85
  go_wp2
  go_loop [2, 3, 4, 8] (fun fv tv sv iv => ∃ (k st f t : Nat), k ≤ 8 ∧ st ≤ k ∧ f ≤ t ∧ t ≤ k ∧ fv = .int .i64 f ∧ tv = .int .i64 t ∧ sv = .int .i64 st ∧ iv = .int .i64 k ∧ Hid (p = longest k st f t ([a0, a1, a2, a3, a4, a5, a6, a7].drop k)))
    (fun _ _ _ i => 8 - (intOf i).toNat)
  case atStart => exact ⟨0, 0, 0, 0, by omega, by omega, by omega, by omega, rfl, rfl, rfl, rfl, HP⟩
  case round =>
    obtain ⟨k, st, f, t, hk, h1, h2, h3, rfl, rfl, rfl, rfl, hh⟩ := hrel
    by_cases hk8 : k < 8
    · rcases (show k = 0 ∨ k = 1 ∨ k = 2 ∨ k = 3 ∨ k = 4 ∨ k = 5 ∨ k = 6 ∨ k = 7 by omega) with rfl | rfl | rfl | rfl | rfl | rfl | rfl | rfl
      · by_cases hz : a0 = 0
        · by_cases hm : t - f < 0 + 1 - st
          · have HN : Hid (p = longest (0 + 1) st st (0 + 1) ([a0, a1, a2, a3, a4, a5, a6, a7].drop (0 + 1))) := by rw [hh.out]; show longest 0 st f t (a0 :: _) = _; rw [hz, long_more hm]; rfl
            have hm' : (t : Int) - f < 1 - st := by omega
            have hz' : ((a0 : Int) != 0) = false := by rw [hz]; rfl
            clear hh hm hz
            go_wp2
            rw [ix0]
            go_wp2
            go_round
            case rel => exact ⟨0 + 1, st, st, 0 + 1, by omega, by omega, by omega, by omega, rfl, rfl, rfl, rfl, HN⟩
            case measure => simp [intOf]
          · exact absurd hm (by omega)
        · have HN : Hid (p = longest (0 + 1) (0 + 1) f t ([a0, a1, a2, a3, a4, a5, a6, a7].drop (0 + 1))) := by rw [hh.out]; show longest 0 st f t (a0 :: _) = _; rw [long_nz hz]; rfl
          have hz' : ((a0 : Int) != 0) = true := by rw [bne_iff_ne]; omega
          clear hh
          go_wp2
          rw [ix0]
          go_wp2
          go_round
          case rel => exact ⟨0 + 1, 0 + 1, f, t, by omega, by omega, by omega, by omega, rfl, rfl, rfl, rfl, HN⟩
          case measure => simp [intOf]
      · by_cases hz : a1 = 0
        · by_cases hm : t - f < 1 + 1 - st
          · have HN : Hid (p = longest (1 + 1) st st (1 + 1) ([a0, a1, a2, a3, a4, a5, a6, a7].drop (1 + 1))) := by rw [hh.out]; show longest 1 st f t (a1 :: _) = _; rw [hz, long_more hm]; rfl
            have hm' : (t : Int) - f < 2 - st := by omega
            have hz' : ((a1 : Int) != 0) = false := by rw [hz]; rfl
            clear hh hm hz
            go_wp2
            rw [ix1]
            go_wp2
            go_round
            case rel => exact ⟨1 + 1, st, st, 1 + 1, by omega, by omega, by omega, by omega, rfl, rfl, rfl, rfl, HN⟩
            case measure => simp [intOf]
          · have HN : Hid (p = longest (1 + 1) st f t ([a0, a1, a2, a3, a4, a5, a6, a7].drop (1 + 1))) := by rw [hh.out]; show longest 1 st f t (a1 :: _) = _; rw [hz, long_less hm]; rfl
            have hm' : ¬ (t : Int) - f < 2 - st := by omega
            have hz' : ((a1 : Int) != 0) = false := by rw [hz]; rfl
            clear hh hm hz
            go_wp2
            rw [ix1]
            go_wp2
            go_round
            case rel => exact ⟨1 + 1, st, f, t, by omega, by omega, by omega, by omega, rfl, rfl, rfl, rfl, HN⟩
            case measure => simp [intOf]
        · have HN : Hid (p = longest (1 + 1) (1 + 1) f t ([a0, a1, a2, a3, a4, a5, a6, a7].drop (1 + 1))) := by rw [hh.out]; show longest 1 st f t (a1 :: _) = _; rw [long_nz hz]; rfl
          have hz' : ((a1 : Int) != 0) = true := by rw [bne_iff_ne]; omega
          clear hh
          go_wp2
          rw [ix1]
          go_wp2
          go_round
          case rel => exact ⟨1 + 1, 1 + 1, f, t, by omega, by omega, by omega, by omega, rfl, rfl, rfl, rfl, HN⟩
          case measure => simp [intOf]
      · by_cases hz : a2 = 0
        · by_cases hm : t - f < 2 + 1 - st
          · have HN : Hid (p = longest (2 + 1) st st (2 + 1) ([a0, a1, a2, a3, a4, a5, a6, a7].drop (2 + 1))) := by rw [hh.out]; show longest 2 st f t (a2 :: _) = _; rw [hz, long_more hm]; rfl
            have hm' : (t : Int) - f < 3 - st := by omega
            have hz' : ((a2 : Int) != 0) = false := by rw [hz]; rfl
            clear hh hm hz
            go_wp2
            rw [ix2]
            go_wp2
            go_round
            case rel => exact ⟨2 + 1, st, st, 2 + 1, by omega, by omega, by omega, by omega, rfl, rfl, rfl, rfl, HN⟩
            case measure => simp [intOf]
          · have HN : Hid (p = longest (2 + 1) st f t ([a0, a1, a2, a3, a4, a5, a6, a7].drop (2 + 1))) := by rw [hh.out]; show longest 2 st f t (a2 :: _) = _; rw [hz, long_less hm]; rfl
            have hm' : ¬ (t : Int) - f < 3 - st := by omega
            have hz' : ((a2 : Int) != 0) = false := by rw [hz]; rfl
            clear hh hm hz
            go_wp2
            rw [ix2]
            go_wp2
            go_round
            case rel => exact ⟨2 + 1, st, f, t, by omega, by omega, by omega, by omega, rfl, rfl, rfl, rfl, HN⟩
            case measure => simp [intOf]
        · have HN : Hid (p = longest (2 + 1) (2 + 1) f t ([a0, a1, a2, a3, a4, a5, a6, a7].drop (2 + 1))) := by rw [hh.out]; show longest 2 st f t (a2 :: _) = _; rw [long_nz hz]; rfl
          have hz' : ((a2 : Int) != 0) = true := by rw [bne_iff_ne]; omega
          clear hh
          go_wp2
          rw [ix2]
          go_wp2
          go_round
          case rel => exact ⟨2 + 1, 2 + 1, f, t, by omega, by omega, by omega, by omega, rfl, rfl, rfl, rfl, HN⟩
          case measure => simp [intOf]
      · by_cases hz : a3 = 0
        · by_cases hm : t - f < 3 + 1 - st
          · have HN : Hid (p = longest (3 + 1) st st (3 + 1) ([a0, a1, a2, a3, a4, a5, a6, a7].drop (3 + 1))) := by rw [hh.out]; show longest 3 st f t (a3 :: _) = _; rw [hz, long_more hm]; rfl
            have hm' : (t : Int) - f < 4 - st := by omega
            have hz' : ((a3 : Int) != 0) = false := by rw [hz]; rfl
            clear hh hm hz
            go_wp2
            rw [ix3]
            go_wp2
            go_round
            case rel => exact ⟨3 + 1, st, st, 3 + 1, by omega, by omega, by omega, by omega, rfl, rfl, rfl, rfl, HN⟩
            case measure => simp [intOf]
          · have HN : Hid (p = longest (3 + 1) st f t ([a0, a1, a2, a3, a4, a5, a6, a7].drop (3 + 1))) := by rw [hh.out]; show longest 3 st f t (a3 :: _) = _; rw [hz, long_less hm]; rfl
            have hm' : ¬ (t : Int) - f < 4 - st := by omega
            have hz' : ((a3 : Int) != 0) = false := by rw [hz]; rfl
            clear hh hm hz
            go_wp2
            rw [ix3]
            go_wp2
            go_round
            case rel => exact ⟨3 + 1, st, f, t, by omega, by omega, by omega, by omega, rfl, rfl, rfl, rfl, HN⟩
            case measure => simp [intOf]
        · have HN : Hid (p = longest (3 + 1) (3 + 1) f t ([a0, a1, a2, a3, a4, a5, a6, a7].drop (3 + 1))) := by rw [hh.out]; show longest 3 st f t (a3 :: _) = _; rw [long_nz hz]; rfl
          have hz' : ((a3 : Int) != 0) = true := by rw [bne_iff_ne]; omega
          clear hh
          go_wp2
          rw [ix3]
          go_wp2
          go_round
          case rel => exact ⟨3 + 1, 3 + 1, f, t, by omega, by omega, by omega, by omega, rfl, rfl, rfl, rfl, HN⟩
          case measure => simp [intOf]
      · by_cases hz : a4 = 0
        · by_cases hm : t - f < 4 + 1 - st
          · have HN : Hid (p = longest (4 + 1) st st (4 + 1) ([a0, a1, a2, a3, a4, a5, a6, a7].drop (4 + 1))) := by rw [hh.out]; show longest 4 st f t (a4 :: _) = _; rw [hz, long_more hm]; rfl
            have hm' : (t : Int) - f < 5 - st := by omega
            have hz' : ((a4 : Int) != 0) = false := by rw [hz]; rfl
            clear hh hm hz
            go_wp2
            rw [ix4]
            go_wp2
            go_round
            case rel => exact ⟨4 + 1, st, st, 4 + 1, by omega, by omega, by omega, by omega, rfl, rfl, rfl, rfl, HN⟩
            case measure => simp [intOf]
          · have HN : Hid (p = longest (4 + 1) st f t ([a0, a1, a2, a3, a4, a5, a6, a7].drop (4 + 1))) := by rw [hh.out]; show longest 4 st f t (a4 :: _) = _; rw [hz, long_less hm]; rfl
            have hm' : ¬ (t : Int) - f < 5 - st := by omega
            have hz' : ((a4 : Int) != 0) = false := by rw [hz]; rfl
            clear hh hm hz
            go_wp2
            rw [ix4]
            go_wp2
            go_round
            case rel => exact ⟨4 + 1, st, f, t, by omega, by omega, by omega, by omega, rfl, rfl, rfl, rfl, HN⟩
            case measure => simp [intOf]
        · have HN : Hid (p = longest (4 + 1) (4 + 1) f t ([a0, a1, a2, a3, a4, a5, a6, a7].drop (4 + 1))) := by rw [hh.out]; show longest 4 st f t (a4 :: _) = _; rw [long_nz hz]; rfl
          have hz' : ((a4 : Int) != 0) = true := by rw [bne_iff_ne]; omega
          clear hh
          go_wp2
          rw [ix4]
          go_wp2
          go_round
          case rel => exact ⟨4 + 1, 4 + 1, f, t, by omega, by omega, by omega, by omega, rfl, rfl, rfl, rfl, HN⟩
          case measure => simp [intOf]
      · by_cases hz : a5 = 0
        · by_cases hm : t - f < 5 + 1 - st
          · have HN : Hid (p = longest (5 + 1) st st (5 + 1) ([a0, a1, a2, a3, a4, a5, a6, a7].drop (5 + 1))) := by rw [hh.out]; show longest 5 st f t (a5 :: _) = _; rw [hz, long_more hm]; rfl
            have hm' : (t : Int) - f < 6 - st := by omega
            have hz' : ((a5 : Int) != 0) = false := by rw [hz]; rfl
            clear hh hm hz
            go_wp2
            rw [ix5]
            go_wp2
            go_round
            case rel => exact ⟨5 + 1, st, st, 5 + 1, by omega, by omega, by omega, by omega, rfl, rfl, rfl, rfl, HN⟩
            case measure => simp [intOf]
          · have HN : Hid (p = longest (5 + 1) st f t ([a0, a1, a2, a3, a4, a5, a6, a7].drop (5 + 1))) := by rw [hh.out]; show longest 5 st f t (a5 :: _) = _; rw [hz, long_less hm]; rfl
            have hm' : ¬ (t : Int) - f < 6 - st := by omega
            have hz' : ((a5 : Int) != 0) = false := by rw [hz]; rfl
            clear hh hm hz
            go_wp2
            rw [ix5]
            go_wp2
            go_round
            case rel => exact ⟨5 + 1, st, f, t, by omega, by omega, by omega, by omega, rfl, rfl, rfl, rfl, HN⟩
            case measure => simp [intOf]
        · have HN : Hid (p = longest (5 + 1) (5 + 1) f t ([a0, a1, a2, a3, a4, a5, a6, a7].drop (5 + 1))) := by rw [hh.out]; show longest 5 st f t (a5 :: _) = _; rw [long_nz hz]; rfl
          have hz' : ((a5 : Int) != 0) = true := by rw [bne_iff_ne]; omega
          clear hh
          go_wp2
          rw [ix5]
          go_wp2
          go_round
          case rel => exact ⟨5 + 1, 5 + 1, f, t, by omega, by omega, by omega, by omega, rfl, rfl, rfl, rfl, HN⟩
          case measure => simp [intOf]
      · by_cases hz : a6 = 0
        · by_cases hm : t - f < 6 + 1 - st
          · have HN : Hid (p = longest (6 + 1) st st (6 + 1) ([a0, a1, a2, a3, a4, a5, a6, a7].drop (6 + 1))) := by rw [hh.out]; show longest 6 st f t (a6 :: _) = _; rw [hz, long_more hm]; rfl
            have hm' : (t : Int) - f < 7 - st := by omega
            have hz' : ((a6 : Int) != 0) = false := by rw [hz]; rfl
            clear hh hm hz
            go_wp2
            rw [ix6]
            go_wp2
            go_round
            case rel => exact ⟨6 + 1, st, st, 6 + 1, by omega, by omega, by omega, by omega, rfl, rfl, rfl, rfl, HN⟩
            case measure => simp [intOf]
          · have HN : Hid (p = longest (6 + 1) st f t ([a0, a1, a2, a3, a4, a5, a6, a7].drop (6 + 1))) := by rw [hh.out]; show longest 6 st f t (a6 :: _) = _; rw [hz, long_less hm]; rfl
            have hm' : ¬ (t : Int) - f < 7 - st := by omega
            have hz' : ((a6 : Int) != 0) = false := by rw [hz]; rfl
            clear hh hm hz
            go_wp2
            rw [ix6]
            go_wp2
            go_round
            case rel => exact ⟨6 + 1, st, f, t, by omega, by omega, by omega, by omega, rfl, rfl, rfl, rfl, HN⟩
            case measure => simp [intOf]
        · have HN : Hid (p = longest (6 + 1) (6 + 1) f t ([a0, a1, a2, a3, a4, a5, a6, a7].drop (6 + 1))) := by rw [hh.out]; show longest 6 st f t (a6 :: _) = _; rw [long_nz hz]; rfl
          have hz' : ((a6 : Int) != 0) = true := by rw [bne_iff_ne]; omega
          clear hh
          go_wp2
          rw [ix6]
          go_wp2
          go_round
          case rel => exact ⟨6 + 1, 6 + 1, f, t, by omega, by omega, by omega, by omega, rfl, rfl, rfl, rfl, HN⟩
          case measure => simp [intOf]
      · by_cases hz : a7 = 0
        · by_cases hm : t - f < 7 + 1 - st
          · have HN : Hid (p = longest (7 + 1) st st (7 + 1) ([a0, a1, a2, a3, a4, a5, a6, a7].drop (7 + 1))) := by rw [hh.out]; show longest 7 st f t (a7 :: _) = _; rw [hz, long_more hm]; rfl
            have hm' : (t : Int) - f < 8 - st := by omega
            have hz' : ((a7 : Int) != 0) = false := by rw [hz]; rfl
            clear hh hm hz
            go_wp2
            rw [ix7]
            go_wp2
            go_round
            case rel => exact ⟨7 + 1, st, st, 7 + 1, by omega, by omega, by omega, by omega, rfl, rfl, rfl, rfl, HN⟩
            case measure => simp [intOf]
          · have HN : Hid (p = longest (7 + 1) st f t ([a0, a1, a2, a3, a4, a5, a6, a7].drop (7 + 1))) := by rw [hh.out]; show longest 7 st f t (a7 :: _) = _; rw [hz, long_less hm]; rfl
            have hm' : ¬ (t : Int) - f < 8 - st := by omega
            have hz' : ((a7 : Int) != 0) = false := by rw [hz]; rfl
            clear hh hm hz
            go_wp2
            rw [ix7]
            go_wp2
            go_round
            case rel => exact ⟨7 + 1, st, f, t, by omega, by omega, by omega, by omega, rfl, rfl, rfl, rfl, HN⟩
            case measure => simp [intOf]
        · have HN : Hid (p = longest (7 + 1) (7 + 1) f t ([a0, a1, a2, a3, a4, a5, a6, a7].drop (7 + 1))) := by rw [hh.out]; show longest 7 st f t (a7 :: _) = _; rw [long_nz hz]; rfl
          have hz' : ((a7 : Int) != 0) = true := by rw [bne_iff_ne]; omega
          clear hh
          go_wp2
          rw [ix7]
          go_wp2
          go_round
          case rel => exact ⟨7 + 1, 7 + 1, f, t, by omega, by omega, by omega, by omega, rfl, rfl, rfl, rfl, HN⟩
          case measure => simp [intOf]
    · have hkk : k = 8 := by omega
      subst hkk
      have hF : p = (f, t) := hh.out
      have HF := Lib.hid hF
      clear hh hF
      go_wp2
      go_ret2
      exact ⟨by rw [HF.out]; rfl, (Below.refl _ _).alloc (Nat.le_refl _) _⟩
end Go.Proofs.YtmnemjhkmllniaaGreatDoor
