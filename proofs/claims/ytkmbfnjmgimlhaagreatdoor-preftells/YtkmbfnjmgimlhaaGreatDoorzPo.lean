/- The walk of pref.Ok, for every prefix, none too. -/
import Derived.Test.YtkmbfnjmgimlhaaGreatDoorzPw
namespace Go.Proofs.YtkmbfnjmgimlhaaGreatDoor
open Go.ChangeShapes Go.WideShapes Go.RowKit Go.Sort

theorem cut_is_p (v : Int) (x : Nat) (n : Int) (y : Nat) (w : World) (hx : x < 340282366920938463463374607431768211456) (h0 : 0 ≤ n) (hn : n ≤ 128) (h : cutK (hostK v n) x = y) :
    Calls Tryz.prog 66 #[.agg #[.int .i64 v, .int .u64 (hiQ x), .int .u64 (loQ x)], .int .i64 n] w fun e w' => e = .returned (.agg #[.int .i64 v, .int .u64 (hiQ y), .int .u64 (loQ y)]) ∧ Below w.heap.size w w' := by
  obtain ⟨k, rfl⟩ := Int.eq_ofNat_of_zero_le h0
  rw [← h]
  exact cutTo_x v x k w hx (by omega)
/-- Four cells of a prefix lie in block b. -/
structure Pl (w : World) (b : Nat) (v h l n : Int) : Prop where
  c0 : w.cell? ⟨b, 0, none⟩ = some (.int .i64 v)
  c1 : w.cell? ⟨b, 1, none⟩ = some (.int .u64 h)
  c2 : w.cell? ⟨b, 2, none⟩ = some (.int .u64 l)
  c3 : w.cell? ⟨b, 3, none⟩ = some (.int .i64 n)
  lt : b < w.heap.size
theorem Pl.below {w w' : World} {b : Nat} {v h l n : Int} (c : Pl w b v h l n) (hb : Below w.heap.size w w') : Pl w' b v h l n := by
  obtain ⟨k, m⟩ := keep hb b c.lt
  exact ⟨(k 0).trans c.c0, (k 1).trans c.c1, (k 2).trans c.c2, (k 3).trans c.c3, m⟩
theorem Pl.alloc {w : World} {b : Nat} {v h l n : Int} (c : Pl w b v h l n) (o : Obj) : Pl (w.alloc o) b v h l n := c.below ((Below.refl _ _).alloc (Nat.le_refl _) _)
theorem pl_new (w : World) (v h l n : Int) : Pl (w.alloc (.cells #[.int .i64 v, .int .u64 h, .int .u64 l, .int .i64 n] 30)) w.heap.size v h l n :=
  ⟨by simp [go_sem], by simp [go_sem], by simp [go_sem], by simp [go_sem], by simp⟩
set_option maxHeartbeats 1000000 in
theorem okPref_x (v : Int) (x : Nat) (n : Int) (w : World) (hx : x < 340282366920938463463374607431768211456) :
    Calls Tryz.prog 22 #[.agg #[.int .i64 v, .int .u64 (hiQ x), .int .u64 (loQ x), .int .i64 n]] w fun e w' => e = .returned (.bool (okP v x n)) ∧ Below w.heap.size w w' := by
  have HX := Lib.hid hx
  clear hx
  obtain ⟨W, hW⟩ : ∃ W, W = w.alloc (.cells #[.int .i64 v, .int .u64 (hiQ x), .int .u64 (loQ x), .int .i64 n] 30) := ⟨_, rfl⟩
  have P0 : Pl W w.heap.size v (hiQ x) (loQ x) n := hW ▸ pl_new w _ _ _ _
  have BW : Below w.heap.size w W := by rw [hW]; exact (Below.refl _ _).alloc (Nat.le_refl _) _
  have e0 := cell_regrown P0.c0; have e1 := cell_regrown P0.c1; have e2 := cell_regrown P0.c2; have e3 := cell_regrown P0.c3
  cases ho : okV v x
  · have HO := Lib.hid ho
    rw [show okP v x n = false by simp [okP, ho]]
    clear ho
    go_enter Tryz.func22, Tryz.ntmps22
    go_wp2_with fail
    rw [← hW]
    clear hW
    refine wp_region_quiet_below (by kernel_rfl) (by kernel_rfl) ?_
    repeat (go_big_quiet_step (first
      | (go_at_call 71; exact Calls.regrown_of (ok_is _ _ _ _ HO.out))))
    refine wpQuiet_nil ?_
    intro _ hw'
    obtain ⟨⟨dq, osq⟩, hw''⟩ := hw'
    subst hw''
    go_wp2
    go_ret
    exact ⟨rfl, below_next BW (below_regrown W dq osq)⟩
  · have HO := Lib.hid ho
    clear ho
    by_cases h0 : n < 0
    · rw [show okP v x n = false by simp [okP]; intro _ h; omega]
      have hd : decide (n < 0) = true := decide_eq_true h0
      clear h0
      go_enter Tryz.func22, Tryz.ntmps22
      go_wp2_with fail
      rw [← hW]
      clear hW
      refine wp_region_quiet_below (by kernel_rfl) (by kernel_rfl) ?_
      repeat (go_big_quiet_step (first
        | (go_at_call 71; exact Calls.regrown_of (ok_is _ _ _ _ HO.out))))
      refine wpQuiet_nil ?_
      intro _ hw'
      obtain ⟨⟨dq, osq⟩, hw''⟩ := hw'
      subst hw''
      go_wp2
      go_ret
      exact ⟨rfl, below_next BW (below_regrown W dq osq)⟩
    · have hd : decide (n < 0) = false := decide_eq_false h0
      have HB := Lib.hid (bits_any v)
      by_cases h1 : n > (bitsV v : Int)
      · rw [show okP v x n = false by simp [okP]; intro _ h; omega]
        have hd1 : decide (n > (bitsV v : Int)) = true := decide_eq_true h1
        have hd2 : decide ((bitsV v : Int) < n) = true := decide_eq_true h1
        clear h0 h1
        go_enter Tryz.func22, Tryz.ntmps22
        go_wp2_with fail
        rw [← hW]
        clear hW
        refine wp_region_quiet_below (by kernel_rfl) (by kernel_rfl) ?_
        repeat (go_big_quiet_step (first
          | (go_at_call 71; exact Calls.regrown_of (ok_is _ _ _ _ HO.out))
          | (go_at_call 67; exact Calls.regrown_of (HB.out _))))
        refine wpQuiet_nil ?_
        intro _ hw'
        obtain ⟨⟨dq, osq⟩, hw''⟩ := hw'
        subst hw''
        go_wp2
        go_ret
        exact ⟨rfl, below_next BW (below_regrown W dq osq)⟩
      · have hd2 : decide ((bitsV v : Int) < n) = false := decide_eq_false h1
        have hl : bitsV v ≤ 128 := bitsV_le v
        obtain ⟨y, hy⟩ : ∃ y, cutK (hostK v n) x = y := ⟨_, rfl⟩
        have HC : Hid (∀ w, Calls Tryz.prog 66 #[.agg #[.int .i64 v, .int .u64 (hiQ x), .int .u64 (loQ x)], .int .i64 n] w fun e w' => e = .returned (.agg #[.int .i64 v, .int .u64 (hiQ y), .int .u64 (loQ y)]) ∧ Below w.heap.size w w') := fun w => cut_is_p v x n y w HX.out (by omega) (by omega) hy
        have HP : Hid (okP v x n = decide (y = x)) := by show _ = _; simp [okP, HO.out, hy]; intro _; omega
        clear h0 h1 hy hl
        go_enter Tryz.func22, Tryz.ntmps22
        go_wp2_with fail
        rw [← hW]
        clear hW
        refine wp_region_quiet_below (by kernel_rfl) (by kernel_rfl) ?_
        repeat (go_big_quiet_step (first
          | (go_at_call 71; exact Calls.regrown_of (ok_is _ _ _ _ HO.out))
          | (go_at_call 67; exact Calls.regrown_of (HB.out _))))
        refine wpQuiet_nil ?_
        intro _ hw'
        obtain ⟨⟨dq, osq⟩, hw''⟩ := hw'
        subst hw''
        have P1 := P0.below (below_regrown W dq osq)
        have B1 := below_next BW (below_regrown W dq osq)
        generalize grow (redrawn W dq) osq = V at P1 B1
        clear e0 e1 e2 e3 P0 BW hd hd2
        have e0 := cell_regrown P1.c0; have e1 := cell_regrown P1.c1; have e2 := cell_regrown P1.c2; have e3 := cell_regrown P1.c3
        by_cases hxy : y = x
        · subst hxy
          have HQ : Hid (okP v y n = true) := HP.out.trans (decide_eq_true rfl)
          clear HP
          go_wp2_with fail
          refine wp_region_quiet_below (by kernel_rfl) (by kernel_rfl) ?_
          repeat (go_big_quiet_step (first
            | (go_at_call 66; exact Calls.regrown_of (HC.out _))))
          refine wpQuiet_nil ?_
          intro _ hw'
          obtain ⟨⟨dq, osq⟩, hw''⟩ := hw'
          subst hw''
          go_wp2
          go_ret
          exact ⟨by rw [HQ.out]; rfl, below_next B1 (below_regrown _ dq osq)⟩
        · have HQ : Hid (okP v x n = false) := HP.out.trans (decide_eq_false hxy)
          clear HP
          have hq := q_if_ne hxy
          clear hxy
          go_wp2_with fail
          refine wp_region_quiet_below (by kernel_rfl) (by kernel_rfl) ?_
          repeat (go_big_quiet_step (first
            | (go_at_call 66; exact Calls.regrown_of (HC.out _))))
          refine wpQuiet_nil ?_
          intro _ hw'
          obtain ⟨⟨dq, osq⟩, hw''⟩ := hw'
          subst hw''
          go_wp2
          go_ret
          exact ⟨by rw [HQ.out]; rfl, below_next B1 (below_regrown _ dq osq)⟩
theorem okPref_is (v : Int) (x : Nat) (n : Int) (w : World) (hx : x < 340282366920938463463374607431768211456) (b : Bool) (h : okP v x n = b) :
    Calls Tryz.prog 22 #[.agg #[.int .i64 v, .int .u64 (hiQ x), .int .u64 (loQ x), .int .i64 n]] w fun e w' => e = .returned (.bool b) ∧ Below w.heap.size w w' := h ▸ okPref_x v x n w hx
end Go.Proofs.YtkmbfnjmgimlhaaGreatDoor
