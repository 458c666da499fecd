/- The small walks of package addr: Bits, Ok, Less, Next, for every address, none too. -/
import Derived.Lib.QuietBelow
import Derived.BigQuiet
import Derived.Test.YtmnemjhkmllniaaGreatDoorzQw
import Derived.Test.YtmnemjhkmllniaaGreatDoorzAm
namespace Go.Proofs.YtmnemjhkmllniaaGreatDoor
open Go.ChangeShapes Go.WideShapes Go.RowKit Go.Sort

set_option maxHeartbeats 400000 in
theorem bits_4 (w : World) : Calls Tryz.prog 67 #[.int .i64 4] w fun e w' => e = .returned (.int .i64 32) ∧ Below w.heap.size w w' := by
  go_enter Tryz.func67, Tryz.ntmps67
  go_wp2
  go_ret
  exact ⟨rfl, Below.refl _ _⟩
set_option maxHeartbeats 400000 in
theorem bits_6 (w : World) : Calls Tryz.prog 67 #[.int .i64 6] w fun e w' => e = .returned (.int .i64 128) ∧ Below w.heap.size w w' := by
  go_enter Tryz.func67, Tryz.ntmps67
  go_wp2
  go_ret
  exact ⟨rfl, Below.refl _ _⟩
theorem bit_32 (w : World) : Calls Tryz.prog 66 #[.int .i64 32] w fun e w' => e = .returned (.agg #[.int .u64 (hiQ 4294967296), .int .u64 (loQ 4294967296)]) ∧ Below w.heap.size w w' :=
  bit_at 32 w (by decide)

set_option maxHeartbeats 1000000 in
theorem ok_x (v : Int) (x : Nat) (w : World) :
    Calls Tryz.prog 37 #[.agg #[.int .i64 v, .int .u64 (hiQ x), .int .u64 (loQ x)]] w fun e w' => e = .returned (.bool (okV v x)) ∧ Below w.heap.size w w' := by
  obtain ⟨W, hW⟩ : ∃ W, W = w.alloc (Obj.cells #[Value.int IntKind.i64 v, Value.int IntKind.u64 (hiQ x), Value.int IntKind.u64 (loQ x)] 28) := ⟨_, rfl⟩
  have e0 : W.cell? ⟨w.heap.size, 0, none⟩ = some (.int .i64 v) := by rw [hW]; simp [go_sem]
  have e1 : W.cell? ⟨w.heap.size, 1, none⟩ = some (.int .u64 (hiQ x)) := by rw [hW]; simp [go_sem]
  have e2 : W.cell? ⟨w.heap.size, 2, none⟩ = some (.int .u64 (loQ x)) := by rw [hW]; simp [go_sem]
  have B : Below w.heap.size w W := by rw [hW]; exact (Below.refl _ _).alloc (Nat.le_refl _) _
  have k0 := cell_regrown e0; have k1 := cell_regrown e1; have k2 := cell_regrown e2
  by_cases h6 : v = 6
  · subst h6
    go_enter Tryz.func37, Tryz.ntmps37
    go_wp2_with fail
    rw [← hW]
    clear hW e0 e1 e2
    refine wp_region_quiet_below (by kernel_rfl) (by kernel_rfl) ?_
    repeat (go_big_quiet_step (fail))
    refine wpQuiet_nil ?_
    intro _ hw'
    obtain ⟨⟨dq, osq⟩, hw''⟩ := hw'
    subst hw''
    go_wp2
    go_ret
    exact ⟨rfl, below_next B (below_regrown W dq osq)⟩
  · have n6 : (v == 6) = false := by simpa using h6
    by_cases h4 : v = 4
    · subst h4
      have hr : okV 4 x = ltB x 4294967296 := by simp [okV, ltB]
      rw [hr]
      go_enter Tryz.func37, Tryz.ntmps37
      go_wp2_with fail
      rw [← hW]
      clear hW e0 e1 e2
      refine wp_region_quiet_below (by kernel_rfl) (by kernel_rfl) ?_
      repeat (go_big_quiet_step (first
        | (go_at_call 67; exact Calls.regrown_of (bits_4 _))
        | (go_at_call 66; exact Calls.regrown_of (bit_32 _))
        | (go_at_call 65; exact Calls.regrown_of (less_any _ _ _))))
      refine wpQuiet_nil ?_
      intro _ hw'
      obtain ⟨⟨dq, osq⟩, hw''⟩ := hw'
      subst hw''
      go_wp2
      go_ret
      exact ⟨rfl, below_next B (below_regrown W dq osq)⟩
    · have n4 : (v == 4) = false := by simpa using h4
      have hr : okV v x = false := by simp [okV, h6, h4]
      rw [hr]
      go_enter Tryz.func37, Tryz.ntmps37
      go_wp2_with fail
      rw [← hW]
      clear hW e0 e1 e2
      refine wp_region_quiet_below (by kernel_rfl) (by kernel_rfl) ?_
      repeat (go_big_quiet_step (fail))
      refine wpQuiet_nil ?_
      intro _ hw'
      obtain ⟨⟨dq, osq⟩, hw''⟩ := hw'
      subst hw''
      go_wp2
      go_ret
      exact ⟨rfl, below_next B (below_regrown W dq osq)⟩

def ltA (v : Int) (x : Nat) (u : Int) (y : Nat) : Bool := if v = u then ltB x y else decide (v < u)
set_option maxHeartbeats 400000 in
theorem lessA_x (v : Int) (x : Nat) (u : Int) (y : Nat) (w : World) :
    Calls Tryz.prog 38 #[.agg #[.int .i64 v, .int .u64 (hiQ x), .int .u64 (loQ x)], .agg #[.int .i64 u, .int .u64 (hiQ y), .int .u64 (loQ y)]] w fun e w' => e = .returned (.bool (ltA v x u y)) ∧ Below w.heap.size w w' := by
  by_cases h : v = u
  · subst h
    rw [show ltA v x v y = ltB x y from if_pos rfl]
    go_enter Tryz.func38, Tryz.ntmps38
    go_wp2_with fail
    refine (less_any x y _).mono ?_
    rintro e w1 ⟨rfl, hb⟩
    go_wp2
    go_ret
    exact ⟨rfl, below_next (below2 _ _ _) hb⟩
  · rw [show ltA v x u y = decide (v < u) from if_neg h]
    have hn : (v != u) = true := by simpa using h
    go_enter Tryz.func38, Tryz.ntmps38
    go_wp2
    go_ret
    exact ⟨rfl, below2 _ _ _⟩
/-- The next address: its V, its number, and whether there is one. -/
def nextB (v : Int) (x : Nat) : Bool := okV v x && (addB x 1 && okV v (x + 1))
def nextV (v : Int) (x : Nat) : Int := if nextB v x = true then v else 0
def nextX (v : Int) (x : Nat) : Nat := if nextB v x = true then x + 1 else 0
end Go.Proofs.YtmnemjhkmllniaaGreatDoor

/- The walk of addr.Next, for every address, none too. -/
namespace Go.Proofs.YtmnemjhkmllniaaGreatDoor
open Go.ChangeShapes Go.WideShapes Go.RowKit Go.Sort

theorem aset3 {B b i j k : Nat} {a w : World} {u v x : Value} (h : Below B a w) (hb : B ≤ b) : Below B a (((w.setCell ⟨b, i, none⟩ u).setCell ⟨b, j, none⟩ v).setCell ⟨b, k, none⟩ x) := ((h.setCell hb _).setCell hb _).setCell hb _
theorem ok_is (v : Int) (x : Nat) (w : World) (b : Bool) (h : okV v x = b) :
    Calls Tryz.prog 37 #[.agg #[.int .i64 v, .int .u64 (hiQ x), .int .u64 (loQ x)]] w fun e w' => e = .returned (.bool b) ∧ Below w.heap.size w w' := h ▸ ok_x v x w
theorem add_one (x : Nat) (w : World) (hx : x < 340282366920938463463374607431768211456) :
    Calls Tryz.prog 72 #[.agg #[.int .u64 (hiQ x), .int .u64 (loQ x)], .agg #[.int .u64 0, .int .u64 1]] w fun e w' => e = .returned (.tuple #[.agg #[.int .u64 (hiQ (addR x 1)), .int .u64 (loQ (addR x 1))], .bool (addB x 1)]) ∧ Below w.heap.size w w' :=
  add_any x 1 w hx (by decide)
set_option maxHeartbeats 2000000 in
theorem next_x (v : Int) (x : Nat) (w : World) (hx : x < 340282366920938463463374607431768211456) :
    Calls Tryz.prog 44 #[.agg #[.int .i64 v, .int .u64 (hiQ x), .int .u64 (loQ x)]] w fun e w' =>
      e = .returned (.tuple #[.agg #[.int .i64 (nextV v x), .int .u64 (hiQ (nextX v x)), .int .u64 (loQ (nextX v x))], .bool (nextB v x)]) ∧ Below w.heap.size w w' := by
  have HX : Hid (x < 340282366920938463463374607431768211456) := hx
  clear hx
  cases ho : okV v x
  · have e1 : nextB v x = false := by simp [nextB, ho]
    rw [show nextV v x = 0 by simp [nextV, e1], show nextX v x = 0 by simp [nextX, e1], e1, hiQ_zero, loQ_zero]
    clear e1
    have HO : Hid (okV v x = false) := ho
    clear ho
    go_enter Tryz.func44, Tryz.ntmps44
    go_wp2_with fail
    refine (ok_is _ _ _ _ HO.out).mono ?_
    rintro e w1 ⟨rfl, hb1⟩
    obtain ⟨k1, f1, l1⟩ := keepf hb1 (w.heap.size + 1) (by simp)
    go_wp2
    exact bodyPost_ret (v := .tuple #[.agg #[.int .i64 0, .int .u64 0, .int .u64 0], .bool false]) (by simp [results, Tryz.results44, go_sem, k1]) rfl ⟨rfl, aset3 (below_next (below2 _ _ _) hb1) (Nat.le_succ _)⟩
  · have HO : Hid (okV v x = true) := ho
    clear ho
    go_enter Tryz.func44, Tryz.ntmps44
    go_wp2_with fail
    refine (ok_is _ _ _ _ HO.out).mono ?_
    rintro e w1 ⟨rfl, hb1⟩
    have B1 : Below w.heap.size w w1 := below_next (below2 _ _ _) hb1
    obtain ⟨k0, f0, l0⟩ := keepf hb1 w.heap.size (by simp; omega)
    obtain ⟨k1, f1, l1⟩ := keepf hb1 (w.heap.size + 1) (by simp)
    have c0 : w1.cell? ⟨w.heap.size, 0, none⟩ = some (.int .i64 v) := by rw [k0]; simp [go_sem]
    have c1 : w1.cell? ⟨w.heap.size, 1, none⟩ = some (.int .u64 (hiQ x)) := by rw [k0]; simp [go_sem]
    have c2 : w1.cell? ⟨w.heap.size, 2, none⟩ = some (.int .u64 (loQ x)) := by rw [k0]; simp [go_sem]
    have r0 : w1.cell? ⟨w.heap.size + 1, 0, none⟩ = some (.int .i64 0) := by rw [k1]; simp [go_sem]
    have r1 : w1.cell? ⟨w.heap.size + 1, 1, none⟩ = some (.int .u64 0) := by rw [k1]; simp [go_sem]
    have r2 : w1.cell? ⟨w.heap.size + 1, 2, none⟩ = some (.int .u64 0) := by rw [k1]; simp [go_sem]
    have rf : ∀ o, w1.frozen? ⟨w.heap.size + 1, o, none⟩ = false := fun o => by rw [f1]; simp [go_sem]
    clear k0 f0 k1 f1 hb1
    go_wp2_with fail
    refine (add_one _ _ HX.out).mono ?_
    rintro e w2 ⟨rfl, hb2⟩
    have B2 : Below w.heap.size w w2 := below_next B1 hb2
    obtain ⟨k0, f0, m0⟩ := keepf hb2 w.heap.size l0
    obtain ⟨k1, f1, m1⟩ := keepf hb2 (w.heap.size + 1) l1
    have d0 : w2.cell? ⟨w.heap.size, 0, none⟩ = some (.int .i64 v) := by rw [k0]; exact c0
    have s0 : w2.cell? ⟨w.heap.size + 1, 0, none⟩ = some (.int .i64 0) := by rw [k1]; exact r0
    have s1 : w2.cell? ⟨w.heap.size + 1, 1, none⟩ = some (.int .u64 0) := by rw [k1]; exact r1
    have s2 : w2.cell? ⟨w.heap.size + 1, 2, none⟩ = some (.int .u64 0) := by rw [k1]; exact r2
    have sf : ∀ o, w2.frozen? ⟨w.heap.size + 1, o, none⟩ = false := fun o => by rw [f1]; exact rf o
    clear k0 f0 k1 f1 hb2 c0 c1 c2 r0 r1 r2 rf B1
    cases ha : addB x 1
    · have HE : Hid (nextB v x = false) := by show nextB v x = false; simp [nextB, ha]
      clear ha
      go_wp2
      exact bodyPost_ret (v := .tuple #[.agg #[.int .i64 0, .int .u64 0, .int .u64 0], .bool false]) (by simp [results, Tryz.results44, go_sem, s0, s1, s2, m1, m0]) rfl
        ⟨by rw [show nextV v x = 0 by simp [nextV, HE.out], show nextX v x = 0 by simp [nextX, HE.out], HE.out, hiQ_zero, loQ_zero], by first | exact aset3 (ball (ball B2)) (Nat.le_succ _) | exact ball (ball (aset3 B2 (Nat.le_succ _)))⟩
    · have hR : addR x 1 = x + 1 := by unfold addB at ha; exact if_pos (of_decide_eq_true ha)
      rw [hR]
      have HA : Hid (addB x 1 = true) := ha
      clear ha hR
      go_wp2_with fail
      cases hn : okV v (x + 1)
      · have HE : Hid (nextB v x = false) := by show nextB v x = false; simp [nextB, hn]
        refine (ok_is _ _ _ _ hn).mono ?_
        rintro e w3 ⟨rfl, hb3⟩
        obtain ⟨k1, f1, n1⟩ := keepf (W := w2) (below_next (ball (ball (Below.refl _ _))) hb3) (w.heap.size + 1) m1
        have t0 : w3.cell? ⟨w.heap.size + 1, 0, none⟩ = some (.int .i64 0) := (k1 0).trans s0
        have t1 : w3.cell? ⟨w.heap.size + 1, 1, none⟩ = some (.int .u64 0) := (k1 1).trans s1
        have t2 : w3.cell? ⟨w.heap.size + 1, 2, none⟩ = some (.int .u64 0) := (k1 2).trans s2
        have tf : ∀ o, w3.frozen? ⟨w.heap.size + 1, o, none⟩ = false := fun o => (f1 o).trans (sf o)
        have B3 : Below w.heap.size w w3 := below_next (ball (ball B2)) hb3
        clear k1 f1 hn hb3
        go_wp2
        exact bodyPost_ret (v := .tuple #[.agg #[.int .i64 0, .int .u64 0, .int .u64 0], .bool false]) (by simp [results, Tryz.results44, go_sem, t0, t1, t2]) rfl
          ⟨by rw [show nextV v x = 0 by simp [nextV, HE.out], show nextX v x = 0 by simp [nextX, HE.out], HE.out, hiQ_zero, loQ_zero], aset3 B3 (Nat.le_succ _)⟩
      · have HE : Hid (nextB v x = true) := by show nextB v x = true; simp [nextB, hn, HA.out, HO.out]
        refine (ok_is _ _ _ _ hn).mono ?_
        rintro e w3 ⟨rfl, hb3⟩
        obtain ⟨k1, f1, n1⟩ := keepf (W := w2) (below_next (ball (ball (Below.refl _ _))) hb3) (w.heap.size + 1) m1
        obtain ⟨k2, f2, n2⟩ := keepf hb3 (w2.heap.size + 1) (by simp)
        have t0 : w3.cell? ⟨w.heap.size + 1, 0, none⟩ = some (.int .i64 0) := (k1 0).trans s0
        have t1 : w3.cell? ⟨w.heap.size + 1, 1, none⟩ = some (.int .u64 0) := (k1 1).trans s1
        have t2 : w3.cell? ⟨w.heap.size + 1, 2, none⟩ = some (.int .u64 0) := (k1 2).trans s2
        have tf : ∀ o, w3.frozen? ⟨w.heap.size + 1, o, none⟩ = false := fun o => (f1 o).trans (sf o)
        have u0 : w3.cell? ⟨w2.heap.size + 1, 0, none⟩ = some (.int .i64 v) := by rw [k2]; simp [go_sem]
        have u1 : w3.cell? ⟨w2.heap.size + 1, 1, none⟩ = some (.int .u64 (hiQ (x + 1))) := by rw [k2]; simp [go_sem]
        have u2 : w3.cell? ⟨w2.heap.size + 1, 2, none⟩ = some (.int .u64 (loQ (x + 1))) := by rw [k2]; simp [go_sem]
        have B3 : Below w.heap.size w w3 := below_next (ball (ball B2)) hb3
        clear k1 f1 k2 f2 hn hb3
        go_wp2
        exact bodyPost_ret (v := .tuple #[.agg #[.int .i64 v, .int .u64 (hiQ (x + 1)), .int .u64 (loQ (x + 1))], .bool true]) (by simp [results, Tryz.results44, go_sem, t0, t1, t2]) rfl
          ⟨by rw [show nextV v x = v by simp [nextV, HE.out], show nextX v x = x + 1 by simp [nextX, HE.out], HE.out], aset3 B3 (Nat.le_succ _)⟩
end Go.Proofs.YtmnemjhkmllniaaGreatDoor
