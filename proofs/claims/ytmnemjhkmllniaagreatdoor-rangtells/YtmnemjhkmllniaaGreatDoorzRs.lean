/- The checker's own Add of 1 and Next. -/
import Derived.Test.YtmnemjhkmllniaaGreatDoorzRq
import Derived.Test.YtmnemjhkmllniaaGreatDoorzLa
namespace Go.Proofs.YtmnemjhkmllniaaGreatDoor
open Go.ChangeShapes Go.WideShapes Go.RowKit Go.Sort

set_option maxHeartbeats 2000000 in
theorem refAdd1_x (x : Nat) (w : World) (hx : x < 340282366920938463463374607431768211456) :
    Calls Tryz.prog 25 #[.agg #[.int .u64 (hiQ x), .int .u64 (loQ x)], .agg #[.int .u64 0, .int .u64 1]] w fun e w' => e = .returned (.tuple #[.agg #[.int .u64 (hiQ (addR x 1)), .int .u64 (loQ (addR x 1))], .bool (addB x 1)]) ∧ Below w.heap.size w w' := by
  have a0 := hiQ_nn x; have a1 := hiQ_lt x hx; have a2 := loQ_nn x; have a3 := loQ_lt x
  have e := q_eq x
  obtain ⟨h, hh⟩ : ∃ h, hiQ x = h := ⟨_, rfl⟩
  obtain ⟨l, hl⟩ : ∃ l, loQ x = l := ⟨_, rfl⟩
  rw [hh] at a0 a1 e; rw [hl] at a2 a3 e
  rw [hh, hl]
  by_cases c1 : l < 18446744073709551615
  · have eR : addR x 1 = x + 1 := if_pos (by omega)
    have eB : addB x 1 = true := decide_eq_true (by omega)
    have q1 : hiQ (x + 1) = h := by unfold hiQ; omega
    have q2 : loQ (x + 1) = l + 1 := by unfold loQ; omega
    rw [eR, eB, q1, q2]
    clear e hh hl eR eB q1 q2 hx
    go_enter Tryz.func25, Tryz.ntmps25
    go_wp2
    exact bodyPost_ret (v := .tuple #[.agg #[.int .u64 h, .int .u64 (l + 1)], .bool true]) (by simp [results, Tryz.results25, go_sem]) rfl ⟨rfl, below3 _ _ _ _⟩
  · have c1' : l = 18446744073709551615 := by omega
    by_cases c2 : h < 18446744073709551615
    · have eR : addR x 1 = x + 1 := if_pos (by omega)
      have eB : addB x 1 = true := decide_eq_true (by omega)
      have q1 : hiQ (x + 1) = h + 1 := by unfold hiQ; omega
      have q2 : loQ (x + 1) = 0 := by unfold loQ; omega
      rw [eR, eB, q1, q2, c1']
      clear e hh hl eR eB q1 q2 hx c1 c1' a2 a3
      go_enter Tryz.func25, Tryz.ntmps25
      go_wp2
      exact bodyPost_ret (v := .tuple #[.agg #[.int .u64 (h + 1), .int .u64 0], .bool true]) (by simp [results, Tryz.results25, go_sem]; decide +kernel) rfl ⟨rfl, below3 _ _ _ _⟩
    · have c2' : h = 18446744073709551615 := by omega
      have eR : addR x 1 = 0 := if_neg (by omega)
      have eB : addB x 1 = false := decide_eq_false (by omega)
      rw [eR, eB, c1', c2', hiQ_zero, loQ_zero]
      clear e hh hl eR eB hx c1 c1' a2 a3 c2 c2' a0 a1
      go_enter Tryz.func25, Tryz.ntmps25
      go_wp2
      exact bodyPost_ret (v := .tuple #[.agg #[.int .u64 0, .int .u64 0], .bool false]) (by simp [results, Tryz.results25, go_sem]) rfl ⟨rfl, below3 _ _ _ _⟩
set_option maxHeartbeats 2000000 in
theorem refNext_x (v : Int) (x : Nat) (w : World) (hx : x < 340282366920938463463374607431768211456) (h : okV v x = true) :
    Calls Tryz.prog 48 #[.agg #[.int .i64 v, .int .u64 (hiQ x), .int .u64 (loQ x)]] w fun e w' =>
      e = .returned (.tuple #[.agg #[.int .i64 (nextV v x), .int .u64 (hiQ (nextX v x)), .int .u64 (loQ (nextX v x))], .bool (nextB v x)]) ∧ Below w.heap.size w w' := by
  have HX := Lib.hid hx
  have HO := Lib.hid h
  have HA := Lib.hid (fun w => refAdd1_x x w hx)
  have hlt : addR x 1 < 340282366920938463463374607431768211456 := addR_lt x 1
  obtain ⟨y, hy⟩ : ∃ y, addR x 1 = y := ⟨_, rfl⟩
  obtain ⟨b, hb⟩ : ∃ b, addB x 1 = b := ⟨_, rfl⟩
  rw [hy] at hlt
  rw [hy, hb] at HA
  have HL := Lib.hid hlt
  have hN : nextB v x = (b && okV v y) := by
    cases b
    · simp [nextB, hb]
    · have : y = x + 1 := by rw [← hy]; unfold addB at hb; exact if_pos (of_decide_eq_true hb)
      simp [nextB, hb, h, this]
  have hy1 : b = true → y = x + 1 := fun e => by rw [← hy]; unfold addB at hb; rw [e] at hb; exact if_pos (of_decide_eq_true hb)
  have HN := Lib.hid (And.intro hN hy1)
  clear hx h hlt hy hb hN hy1
  go_enter Tryz.func48, Tryz.ntmps48
  go_wp2_with fail
  refine (HA.out _).mono ?_
  rintro e w1 ⟨rfl, hb1⟩
  have B1 := below_next (below2 w _ _) hb1
  obtain ⟨k0, f0, l0⟩ := keepf hb1 w.heap.size (by simp; omega)
  obtain ⟨k1, f1, l1⟩ := keepf hb1 (w.heap.size + 1) (by simp)
  have c0 : w1.cell? ⟨w.heap.size, 0, none⟩ = some (.int .i64 v) := by rw [k0]; simp [go_sem]
  have c1 : w1.cell? ⟨w.heap.size, 1, none⟩ = some (.int .u64 (hiQ x)) := by rw [k0]; simp [go_sem]
  have c2 : w1.cell? ⟨w.heap.size, 2, none⟩ = some (.int .u64 (loQ x)) := by rw [k0]; simp [go_sem]
  have r0 : w1.cell? ⟨w.heap.size + 1, 0, none⟩ = some (.int .i64 0) := by rw [k1]; simp [go_sem]
  have r1 : w1.cell? ⟨w.heap.size + 1, 1, none⟩ = some (.int .u64 0) := by rw [k1]; simp [go_sem]
  have r2 : w1.cell? ⟨w.heap.size + 1, 2, none⟩ = some (.int .u64 0) := by rw [k1]; simp [go_sem]
  have rf : ∀ o, w1.frozen? ⟨w.heap.size + 1, o, none⟩ = false := fun o => by rw [f1]; simp [go_sem]
  clear k0 k1 f0 f1 hb1
  go_wp2_with fail
  refine (refOkA_is _ _ _ HX.out _ HO.out).mono ?_
  rintro e w2 ⟨rfl, hb2⟩
  have B2 := below_next (ball (ball B1)) hb2
  have KW : Below w1.heap.size w1 w2 := below_next (ball (ball (Below.refl _ _))) hb2
  obtain ⟨k1, f1, l2⟩ := keepf KW (w.heap.size + 1) l1
  replace r0 := (k1 0).trans r0
  replace r1 := (k1 1).trans r1
  replace r2 := (k1 2).trans r2
  replace rf : ∀ o, w2.frozen? ⟨w.heap.size + 1, o, none⟩ = false := fun o => (f1 o).trans (rf o)
  have N2 : Cl w2 (w1.heap.size + 1) v (hiQ y) (loQ y) := by
    have := cl_new (w1.alloc (.cells #[.int .u64 (hiQ y), .int .u64 (loQ y)] 26)) v (hiQ y) (loQ y)
    have := this.below hb2
    simpa using this
  clear k1 f1 c0 c1 c2 KW hb2 B1
  obtain ⟨n0, n1, n2, nl⟩ := id N2
  cases b
  · have HE : Hid (nextB v x = false) := by show _ = _; rw [HN.out.1]; rfl
    go_wp2
    exact bodyPost_ret (v := .tuple #[.agg #[.int .i64 0, .int .u64 0, .int .u64 0], .bool false]) (by simp [results, Tryz.results48, go_sem, *]) rfl
      ⟨by rw [show nextV v x = 0 by simp [nextV, HE.out], show nextX v x = 0 by simp [nextX, HE.out], HE.out, hiQ_zero, loQ_zero], aset3 B2 (Nat.le_succ _)⟩
  · obtain ⟨c, hc⟩ : ∃ c, okV v y = c := ⟨_, rfl⟩
    have HC := Lib.hid hc
    clear hc
    cases c
    · have HE : Hid (nextB v x = false) := by show _ = _; rw [HN.out.1, HC.out]; rfl
      go_wp2_with fail
      refine (refOkA_is _ _ _ HL.out _ HC.out).mono ?_
      rintro e w3 ⟨rfl, hb3⟩
      obtain ⟨k1, f1, l3⟩ := keepf hb3 (w.heap.size + 1) l2
      have B3 := below_next B2 hb3
      go_wp2
      exact bodyPost_ret (v := .tuple #[.agg #[.int .i64 0, .int .u64 0, .int .u64 0], .bool false]) (by simp [results, Tryz.results48, go_sem, *]) rfl
        ⟨by rw [show nextV v x = 0 by simp [nextV, HE.out], show nextX v x = 0 by simp [nextX, HE.out], HE.out, hiQ_zero, loQ_zero], aset3 B3 (Nat.le_succ _)⟩
    · have HE : Hid (nextB v x = true ∧ y = x + 1) := ⟨by rw [HN.out.1, HC.out]; rfl, HN.out.2 rfl⟩
      go_wp2_with fail
      refine (refOkA_is _ _ _ HL.out _ HC.out).mono ?_
      rintro e w3 ⟨rfl, hb3⟩
      obtain ⟨k1, f1, l3⟩ := keepf hb3 (w.heap.size + 1) l2
      obtain ⟨m0, m1, m2, ml⟩ := N2.below hb3
      have B3 := below_next B2 hb3
      clear n0 n1 n2 nl
      go_wp2
      exact bodyPost_ret (v := .tuple #[.agg #[.int .i64 v, .int .u64 (hiQ y), .int .u64 (loQ y)], .bool true]) (by simp [results, Tryz.results48, go_sem, *]) rfl
        ⟨by rw [show nextV v x = v by simp [nextV, HE.out.1], show nextX v x = x + 1 by simp [nextX, HE.out.1], HE.out.1, HE.out.2], aset3 B3 (Nat.le_succ _)⟩
end Go.Proofs.YtmnemjhkmllniaaGreatDoor
