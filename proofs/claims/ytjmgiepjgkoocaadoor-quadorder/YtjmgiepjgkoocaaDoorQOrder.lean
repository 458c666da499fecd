/- QuadOrder: for any three numbers of 128 bits the law answers true. -/
import Derived.Test.YtjmgiepjgkoocaaDoorQa
import Derived.Lib.QuietBelow
import Derived.BigQuiet
namespace Go.Proofs.YtjmgiepjgkoocaaDoor
open Go.ChangeShapes Go.WideShapes Go.RowKit Go.Sort

set_option maxHeartbeats 2000000 in
theorem order_walk (x y z : Nat) (w : World) (ht : TabOk w) (hx : x < 340282366920938463463374607431768211456) (hy : y < 340282366920938463463374607431768211456) (hz : z < 340282366920938463463374607431768211456) :
    Calls Tryd.prog 5 #[.agg #[.int .u64 (hiQ x), .int .u64 (loQ x)], .agg #[.int .u64 (hiQ y), .int .u64 (loQ y)], .agg #[.int .u64 (hiQ z), .int .u64 (loQ z)]] w fun e w' => e = .returned (.bool true) ∧ Below w.heap.size w w' := by
  have hp := ht.pos
  have HX : Hid (x < 340282366920938463463374607431768211456) := hx
  have HY : Hid (y < 340282366920938463463374607431768211456) := hy
  have HZ : Hid (z < 340282366920938463463374607431768211456) := hz
  clear hx hy hz
  go_enter Tryd.func5, Tryd.ntmps5
  go_wp2_with fail
  refine (add_any _ _ _ HX.out HZ.out).mono ?_
  rintro e w1 ⟨rfl, hb1⟩
  have hc1 := olds hb1
  have z1 := hb1.size
  simp at z1
  have l0 : w.heap.size < w1.heap.size := by omega
  have l1 : w.heap.size + 1 < w1.heap.size := by omega
  have l2 : w.heap.size + 1 + 1 < w1.heap.size := by omega
  have c0 : w1.cell? ⟨w.heap.size, 0, none⟩ = some (.int .u64 (hiQ x)) := by rw [hc1 _ _ (by simp; omega)]; simp [go_sem]
  have c1 : w1.cell? ⟨w.heap.size, 1, none⟩ = some (.int .u64 (loQ x)) := by rw [hc1 _ _ (by simp; omega)]; simp [go_sem]
  have c2 : w1.cell? ⟨w.heap.size + 1, 0, none⟩ = some (.int .u64 (hiQ y)) := by rw [hc1 _ _ (by simp)]; simp [go_sem]
  have c3 : w1.cell? ⟨w.heap.size + 1, 1, none⟩ = some (.int .u64 (loQ y)) := by rw [hc1 _ _ (by simp)]; simp [go_sem]
  have c4 : w1.cell? ⟨w.heap.size + 1 + 1, 0, none⟩ = some (.int .u64 (hiQ z)) := by rw [hc1 _ _ (by simp)]; simp [go_sem]
  have c5 : w1.cell? ⟨w.heap.size + 1 + 1, 1, none⟩ = some (.int .u64 (loQ z)) := by rw [hc1 _ _ (by simp)]; simp [go_sem]
  have B1 : Below w.heap.size w w1 := (below3 w _ _ _).trans (hb1.mono (by simp; omega))
  clear hc1 hb1
  go_wp2_with fail
  refine (add_any _ _ _ HY.out HZ.out).mono ?_
  rintro e w2 ⟨rfl, hb2⟩
  have hc2 := olds hb2
  have z2 := hb2.size
  simp at z2
  have d0 : w2.cell? ⟨w.heap.size, 0, none⟩ = some (.int .u64 (hiQ x)) := by rw [hc2 _ _ (by simp; omega)]; simp [go_sem, l0, c0]
  have d1 : w2.cell? ⟨w.heap.size, 1, none⟩ = some (.int .u64 (loQ x)) := by rw [hc2 _ _ (by simp; omega)]; simp [go_sem, l0, c1]
  have d2 : w2.cell? ⟨w.heap.size + 1, 0, none⟩ = some (.int .u64 (hiQ y)) := by rw [hc2 _ _ (by simp; omega)]; simp [go_sem, l1, c2]
  have d3 : w2.cell? ⟨w.heap.size + 1, 1, none⟩ = some (.int .u64 (loQ y)) := by rw [hc2 _ _ (by simp; omega)]; simp [go_sem, l1, c3]
  have d6 : w2.cell? ⟨w1.heap.size, 0, none⟩ = some (.int .u64 (hiQ (addR x z))) := by rw [hc2 _ _ (by simp)]; simp [go_sem]
  have d7 : w2.cell? ⟨w1.heap.size, 1, none⟩ = some (.int .u64 (loQ (addR x z))) := by rw [hc2 _ _ (by simp)]; simp [go_sem]
  have B2 : Below w.heap.size w w2 := below_step B1 hb2
  have m0 : w.heap.size < w2.heap.size := by omega
  have m1 : w.heap.size + 1 < w2.heap.size := by omega
  have m3 : w1.heap.size < w2.heap.size := by omega
  clear hc2 hb2 c0 c1 c2 c3 c4 c5 z1 z2 l0 l1 l2
  go_wp2_with fail
  have hl : addB x z = true → addB y z = true → ltB (addR x z) (addR y z) = ltB x y := by
    unfold addB addR ltB
    intro h1 h2
    rw [if_pos (of_decide_eq_true h1), if_pos (of_decide_eq_true h2), Bool.eq_iff_iff]
    simp
  obtain ⟨W, hW⟩ : ∃ W, W = w2.alloc (Obj.cells #[Value.int IntKind.u64 (hiQ (addR y z)), Value.int IntKind.u64 (loQ (addR y z))] 29) := ⟨_, rfl⟩
  have e0 : W.cell? ⟨w.heap.size, 0, none⟩ = some (.int .u64 (hiQ x)) := by rw [hW]; simp [go_sem, m0, d0]
  have e1 : W.cell? ⟨w.heap.size, 1, none⟩ = some (.int .u64 (loQ x)) := by rw [hW]; simp [go_sem, m0, d1]
  have e2 : W.cell? ⟨w.heap.size + 1, 0, none⟩ = some (.int .u64 (hiQ y)) := by rw [hW]; simp [go_sem, m1, d2]
  have e3 : W.cell? ⟨w.heap.size + 1, 1, none⟩ = some (.int .u64 (loQ y)) := by rw [hW]; simp [go_sem, m1, d3]
  have e4 : W.cell? ⟨w1.heap.size, 0, none⟩ = some (.int .u64 (hiQ (addR x z))) := by rw [hW]; simp [go_sem, m3, d6]
  have e5 : W.cell? ⟨w1.heap.size, 1, none⟩ = some (.int .u64 (loQ (addR x z))) := by rw [hW]; simp [go_sem, m3, d7]
  have e6 : W.cell? ⟨w2.heap.size, 0, none⟩ = some (.int .u64 (hiQ (addR y z))) := by rw [hW]; simp [go_sem]
  have e7 : W.cell? ⟨w2.heap.size, 1, none⟩ = some (.int .u64 (loQ (addR y z))) := by rw [hW]; simp [go_sem]
  have B3 : Below w.heap.size w W := by rw [hW]; exact B2.alloc B2.size _
  rw [← hW]
  clear hW d0 d1 d2 d3 d6 d7 m0 m1 m3 B1 B2
  have k0 := cell_regrown e0; have k1 := cell_regrown e1; have k2 := cell_regrown e2; have k3 := cell_regrown e3
  have k4 := cell_regrown e4; have k5 := cell_regrown e5; have k6 := cell_regrown e6; have k7 := cell_regrown e7
  cases h1 : addB x z <;> cases h2 : addB y z
  all_goals
    simp only [h1, h2, forall_const, reduceCtorEq, false_implies] at hl
    clear h1 h2
    refine wp_region_quiet_below (by kernel_rfl) (by kernel_rfl) ?_
    repeat (go_big_quiet_step (first | (go_at_call 13; exact Calls.regrown_of (less_any _ _ _))))
    refine wpQuiet_nil ?_
    intro _ hw'
    obtain ⟨⟨dq, osq⟩, hw''⟩ := hw'
    subst hw''
  all_goals
    have f0 := k0 dq osq; have f1 := k1 dq osq; have f2 := k2 dq osq; have f3 := k3 dq osq
    have B4 := below_next B3 (below_regrown W dq osq)
    clear k0 k1 k2 k3 k4 k5 k6 k7 e0 e1 e2 e3 e4 e5 e6 e7 hl B3
    generalize grow (redrawn W dq) osq = V at f0 f1 f2 f3 B4 ⊢
    go_wp2_with fail
    have k0 := cell_regrown f0; have k1 := cell_regrown f1; have k2 := cell_regrown f2; have k3 := cell_regrown f3
    have hA : ltB x (x &&& y) = false := by unfold ltB; rw [decide_eq_false_iff_not]; have := @Nat.and_le_left x y; omega
    have hO : ltB (x ||| y) x = false := by unfold ltB; rw [decide_eq_false_iff_not]; have := @Nat.left_le_or x y; omega
    have hN := notQ_notQ x HX.out
    have hC := Nat.and_comm y x
    have hS := or_and_self x y
    have hZ := and_notQ x HX.out
    have z0 := hiQ_zero
    have z1 := loQ_zero
    refine wp_region_quiet_below (by kernel_rfl) (by kernel_rfl) ?_
    repeat (go_big_quiet_step (first
      | (go_at_call 13; exact Calls.regrown_of (less_any _ _ _))
      | (go_at_call 14; exact Calls.regrown_of (and_x _ _ _ (by first | exact HX.out | exact HY.out) (by first | exact HX.out | exact HY.out | exact notQ_lt _)))
      | (go_at_call 15; exact Calls.regrown_of (or_x _ _ _ (by first | exact HX.out | exact and_lt _ _ HX.out) (by first | exact HX.out | exact HY.out)))
      | (go_at_call 16; exact Calls.regrown_of (not_x _ _ (by first | exact HX.out | exact notQ_lt _)))
      | (go_at_call 12; exact Calls.regrown_of (awake_x _ (ht.below (below_next B4 (below_regrown V _ _)) hp)))))
    refine wpQuiet_nil ?_
    intro _ hw'
    obtain ⟨⟨dq, osq⟩, hw''⟩ := hw'
    subst hw''
    go_wp2
    go_ret
    exact ⟨rfl, below_next B4 (below_regrown V dq osq)⟩
end Go.Proofs.YtjmgiepjgkoocaaDoor
