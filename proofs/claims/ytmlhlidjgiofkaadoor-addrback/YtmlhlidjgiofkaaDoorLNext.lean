/- AddrNext: for any two addresses of numbers the law answers true. -/
import Derived.Test.YtmlhlidjgiofkaaDoorLb
namespace Go.Proofs.YtmlhlidjgiofkaaDoor
open Go.ChangeShapes Go.WideShapes Go.RowKit Go.Sort

/-- Three cells of an address lie in block b. -/
structure Cl (w : World) (b : Nat) (v h l : Int) : Prop where
  c0 : w.cell? ⟨b, 0, none⟩ = some (.int .i64 v)
  c1 : w.cell? ⟨b, 1, none⟩ = some (.int .u64 h)
  c2 : w.cell? ⟨b, 2, none⟩ = some (.int .u64 l)
  lt : b < w.heap.size
theorem Cl.below {w w' : World} {b : Nat} {v h l : Int} (c : Cl w b v h l) (hb : Below w.heap.size w w') : Cl w' b v h l := by
  obtain ⟨k, m⟩ := keep hb b c.lt
  exact ⟨(k 0).trans c.c0, (k 1).trans c.c1, (k 2).trans c.c2, m⟩
theorem Cl.alloc {w : World} {b : Nat} {v h l : Int} (c : Cl w b v h l) (o : Obj) : Cl (w.alloc o) b v h l := c.below ((Below.refl _ _).alloc (Nat.le_refl _) _)
theorem cl_new (w : World) (v h l : Int) : Cl (w.alloc (.cells #[.int .i64 v, .int .u64 h, .int .u64 l] 28)) w.heap.size v h l :=
  ⟨by simp [go_sem], by simp [go_sem], by simp [go_sem], by simp⟩
theorem Ad.cl {w : World} {b : Nat} {v : Int} {x : Nat} (h : Ad w b v x) : Cl w b v (hiQ x) (loQ x) := ⟨h.c0, h.c1, h.c2, h.lt⟩
theorem next_yes (v : Int) (x : Nat) (w : World) (hx : x < 340282366920938463463374607431768211456) (h : nextB v x = true) :
    Calls Tryd.prog 10 #[.agg #[.int .i64 v, .int .u64 (hiQ x), .int .u64 (loQ x)]] w fun e w' => e = .returned (.tuple #[.agg #[.int .i64 v, .int .u64 (hiQ (x + 1)), .int .u64 (loQ (x + 1))], .bool true]) ∧ Below w.heap.size w w' := by
  have := next_x v x w hx
  rw [show nextV v x = v by simp [nextV, h], show nextX v x = x + 1 by simp [nextX, h], h] at this
  exact this
theorem next_no (v : Int) (x : Nat) (w : World) (hx : x < 340282366920938463463374607431768211456) (h : nextB v x = false) :
    Calls Tryd.prog 10 #[.agg #[.int .i64 v, .int .u64 (hiQ x), .int .u64 (loQ x)]] w fun e w' => e = .returned (.tuple #[.agg #[.int .i64 0, .int .u64 0, .int .u64 0], .bool false]) ∧ Below w.heap.size w w' := by
  have := next_x v x w hx
  rw [show nextV v x = 0 by simp [nextV, h], show nextX v x = 0 by simp [nextX, h], h, hiQ_zero, loQ_zero] at this
  exact this
theorem next_end (w : World) : Calls Tryd.prog 10 #[.agg #[.int .i64 4, .int .u64 0, .int .u64 4294967295]] w fun e w' => e = .returned (.tuple #[.agg #[.int .i64 0, .int .u64 0, .int .u64 0], .bool false]) ∧ Below w.heap.size w w' :=
  next_no 4 4294967295 w (by decide) (by decide)
theorem next_far (w : World) : Calls Tryd.prog 10 #[.agg #[.int .i64 6, .int .u64 18446744073709551615, .int .u64 18446744073709551615]] w fun e w' => e = .returned (.tuple #[.agg #[.int .i64 0, .int .u64 0, .int .u64 0], .bool false]) ∧ Below w.heap.size w w' :=
  next_no 6 340282366920938463463374607431768211455 w (by decide) (by decide)
theorem less_a4 (t : Int) (y : Nat) (w : World) (b : Bool) (h : ltA 4 4294967295 t y = b) : Calls Tryd.prog 11 #[.agg #[.int .i64 4, .int .u64 0, .int .u64 4294967295], .agg #[.int .i64 t, .int .u64 (hiQ y), .int .u64 (loQ y)]] w fun e w' => e = .returned (.bool b) ∧ Below w.heap.size w w' := lessA_is 4 4294967295 t y w b h
theorem less_b4 (t : Int) (y : Nat) (w : World) (b : Bool) (h : ltA t y 4 4294967295 = b) : Calls Tryd.prog 11 #[.agg #[.int .i64 t, .int .u64 (hiQ y), .int .u64 (loQ y)], .agg #[.int .i64 4, .int .u64 0, .int .u64 4294967295]] w fun e w' => e = .returned (.bool b) ∧ Below w.heap.size w w' := lessA_is t y 4 4294967295 w b h
theorem less_n4 (w : World) (b : Bool) (h : ltA 4 4294967295 4 4294967295 = b) : Calls Tryd.prog 11 #[.agg #[.int .i64 4, .int .u64 0, .int .u64 4294967295], .agg #[.int .i64 4, .int .u64 0, .int .u64 4294967295]] w fun e w' => e = .returned (.bool b) ∧ Below w.heap.size w w' := lessA_is 4 4294967295 4 4294967295 w b h
theorem less_a6 (t : Int) (y : Nat) (w : World) (b : Bool) (h : ltA 6 340282366920938463463374607431768211455 t y = b) : Calls Tryd.prog 11 #[.agg #[.int .i64 6, .int .u64 18446744073709551615, .int .u64 18446744073709551615], .agg #[.int .i64 t, .int .u64 (hiQ y), .int .u64 (loQ y)]] w fun e w' => e = .returned (.bool b) ∧ Below w.heap.size w w' := lessA_is 6 340282366920938463463374607431768211455 t y w b h
theorem less_b6 (t : Int) (y : Nat) (w : World) (b : Bool) (h : ltA t y 6 340282366920938463463374607431768211455 = b) : Calls Tryd.prog 11 #[.agg #[.int .i64 t, .int .u64 (hiQ y), .int .u64 (loQ y)], .agg #[.int .i64 6, .int .u64 18446744073709551615, .int .u64 18446744073709551615]] w fun e w' => e = .returned (.bool b) ∧ Below w.heap.size w w' := lessA_is t y 6 340282366920938463463374607431768211455 w b h
theorem less_n6 (w : World) (b : Bool) (h : ltA 6 340282366920938463463374607431768211455 6 340282366920938463463374607431768211455 = b) : Calls Tryd.prog 11 #[.agg #[.int .i64 6, .int .u64 18446744073709551615, .int .u64 18446744073709551615], .agg #[.int .i64 6, .int .u64 18446744073709551615, .int .u64 18446744073709551615]] w fun e w' => e = .returned (.bool b) ∧ Below w.heap.size w w' := lessA_is 6 340282366920938463463374607431768211455 6 340282366920938463463374607431768211455 w b h
theorem next_ends {v : Int} {x : Nat} (h : okV v x = true) (hx : x < 340282366920938463463374607431768211456) (hn : nextB v x = false) : (v = 4 ∧ x = 4294967295) ∨ (v = 6 ∧ x = 340282366920938463463374607431768211455) := by
  rcases okV_cases h with rfl | ⟨rfl, h4⟩
  · right; refine ⟨rfl, ?_⟩; simp [nextB, okV, addB] at hn; omega
  · left; refine ⟨rfl, ?_⟩; simp [nextB, okV, addB] at hn; omega
theorem lt_next (v : Int) (x : Nat) : ltA v x v (x + 1) = true := by simp [ltA, ltB]
theorem lt_not {v u : Int} {x y : Nat} (h : ltA v x u y = true) : ltA u y v (x + 1) = false := by
  unfold ltA at *
  by_cases e : v = u
  · subst e; simp [ltB] at *; omega
  · rw [if_neg e] at h; rw [if_neg (fun h => e h.symm)]; simp at *; omega
set_option maxHeartbeats 8000000 in
set_option maxRecDepth 100000 in
theorem next_walk (v a b s c d : Int) (w : World) (hg : Gl w) (ha : 0 ≤ a ∧ a < 18446744073709551616) (hb : 0 ≤ b ∧ b < 18446744073709551616) (hc : 0 ≤ c ∧ c < 18446744073709551616) (hd : 0 ≤ d ∧ d < 18446744073709551616) :
    Calls Tryd.prog 4 #[.int .i64 v, .int .u64 a, .int .u64 b, .int .i64 s, .int .u64 c, .int .u64 d] w fun e w' => e = .returned (.bool true) ∧ Below w.heap.size w w' := by
  have HA := Lib.hid (And.intro ha (And.intro hb (And.intro hc hd)))
  have HG := Lib.hid hg
  clear ha hb hc hd hg
  go_enter Tryd.func4, Tryd.ntmps4
  go_wp2_with fail
  refine (addr_x v a b _ HA.out.1 HA.out.2.1).mono ?_
  rintro e w1 ⟨⟨u, x, rfl, ho, hx⟩, hb1⟩
  go_wp2_with fail
  refine (addr_x s c d _ HA.out.2.2.1 HA.out.2.2.2).mono ?_
  rintro e w2 ⟨⟨t, y, rfl, ho', hy⟩, hb2⟩
  have B2 := below_next hb1 hb2
  have G2 := HG.out.below B2
  have HX := Lib.hid (And.intro ho hx)
  have HY := Lib.hid (And.intro ho' hy)
  clear ho hx ho' hy hb1 hb2 HA HG
  have A1 := (ad_new w2 u x).alloc (.cells #[.int .i64 t, .int .u64 (hiQ y), .int .u64 (loQ y)] 28)
  have A2 := ad_new (w2.alloc (.cells #[.int .i64 u, .int .u64 (hiQ x), .int .u64 (loQ x)] 28)) t y
  rw [show (w2.alloc (.cells #[.int .i64 u, .int .u64 (hiQ x), .int .u64 (loQ x)] 28)).heap.size = w2.heap.size + 1 by simp] at A2
  cases hn : nextB u x
  · have HE := Lib.hid (next_ends HX.out.1 HX.out.2 hn)
    have HN := Lib.hid hn
    clear hn
    obtain ⟨p0, p1, p2, pl⟩ := id A1
    go_wp2_with fail
    refine (next_no u x _ HX.out.2 HN.out).mono ?_
    rintro e w3 ⟨rfl, hb3⟩
    have BV := ball (o := .cells #[.int .i64 0, .int .u64 0, .int .u64 0] 28) (below_next (ball (ball B2)) hb3)
    have GV := (((G2.alloc _).alloc _).below hb3).alloc (.cells #[.int .i64 0, .int .u64 0, .int .u64 0] 28)
    have A1' := (A1.below hb3).alloc (.cells #[.int .i64 0, .int .u64 0, .int .u64 0] 28)
    have A2' := (A2.below hb3).alloc (.cells #[.int .i64 0, .int .u64 0, .int .u64 0] 28)
    clear B2 G2 hb3 A1 A2 p0 p1 p2 pl
    have A1 := A1'
    have A2 := A2'
    clear A1' A2'
    obtain ⟨V, hV⟩ : ∃ V, V = w3.alloc (.cells #[.int .i64 0, .int .u64 0, .int .u64 0] 28) := ⟨_, rfl⟩
    rw [← hV] at BV GV A1 A2
    go_wp2_with fail
    rw [← hV]
    have hVs : V.heap.size = w3.heap.size + 1 := by rw [hV]; simp
    clear hV
    refine (next_end _).mono ?_
    rintro e w8 ⟨rfl, hb8⟩
    have B8 := below_next (ball (ball BV)) hb8
    have G8 := ((GV.alloc _).alloc _).below hb8
    have X8 := ((A1.cl.alloc _).alloc _).below hb8
    have Y8 := ((A2.cl.alloc _).alloc _).below hb8
    have E8 := ((cl_new V 4 0 4294967295).alloc (.cells #[.int .i64 6, .int .u64 18446744073709551615, .int .u64 18446744073709551615] 28)).below hb8
    have F8 := (cl_new (V.alloc (.cells #[.int .i64 4, .int .u64 0, .int .u64 4294967295] 28)) 6 18446744073709551615 18446744073709551615).below hb8
    rw [show (V.alloc (.cells #[.int .i64 4, .int .u64 0, .int .u64 4294967295] 28)).heap.size = V.heap.size + 1 by simp, hVs] at F8
    rw [hVs] at E8
    clear hVs
    clear BV GV A1 A2 hb8
    obtain ⟨f0, f1, f2, fl⟩ := id F8
    go_wp2_with fail
    refine (next_far _).mono ?_
    rintro e w9 ⟨rfl, hb9⟩
    have BW := ball (o := .cells #[.int .i64 0, .int .u64 0, .int .u64 0] 28) (below_next (ball B8) hb9)
    have GW := ((G8.alloc _).below hb9).alloc (.cells #[.int .i64 0, .int .u64 0, .int .u64 0] 28)
    have XW := ((X8.alloc _).below hb9).alloc (.cells #[.int .i64 0, .int .u64 0, .int .u64 0] 28)
    have YW := ((Y8.alloc _).below hb9).alloc (.cells #[.int .i64 0, .int .u64 0, .int .u64 0] 28)
    have EW := ((E8.alloc _).below hb9).alloc (.cells #[.int .i64 0, .int .u64 0, .int .u64 0] 28)
    have FW := ((F8.alloc _).below hb9).alloc (.cells #[.int .i64 0, .int .u64 0, .int .u64 0] 28)
    clear B8 G8 X8 Y8 E8 F8 hb9 f0 f1 f2 fl
    go_wp2_with fail
    obtain ⟨W, hW⟩ : ∃ W, W = w9.alloc (.cells #[.int .i64 0, .int .u64 0, .int .u64 0] 28) := ⟨_, rfl⟩
    rw [← hW] at BW GW XW YW EW FW ⊢
    clear hW
    rcases HE.out with ⟨rfl, rfl⟩ | ⟨rfl, rfl⟩
    · replace XW : Cl W w2.heap.size 4 0 4294967295 := XW
      have x0 := cell_regrown XW.c0; have x1 := cell_regrown XW.c1; have x2 := cell_regrown XW.c2
      have y0 := cell_regrown YW.c0; have y1 := cell_regrown YW.c1; have y2 := cell_regrown YW.c2
      have e0 := cell_regrown EW.c0; have e1 := cell_regrown EW.c1; have e2 := cell_regrown EW.c2
      have f0 := cell_regrown FW.c0; have f1 := cell_regrown FW.c1; have f2 := cell_regrown FW.c2
      rcases okV_cases HY.out.1 with rfl | ⟨rfl, hy4⟩
      · refine wp_region_quiet_below (by kernel_rfl) (by kernel_rfl) ?_
        repeat (go_big_quiet_step (fail))
        go_big_quiet_step ((go_at_call 11; exact Calls.regrown_of (less_a4 6 y _ true rfl)))
        repeat (go_big_quiet_step (fail))
        go_big_quiet_step ((go_at_call 11; exact Calls.regrown_of (less_a4 6 y _ true rfl)))
        repeat (go_big_quiet_step (fail))
        go_big_quiet_step ((go_at_call 8; exact Calls.regrown_of (awake_x _ (GW.below (below_regrown W _ _)))))
        repeat (go_big_quiet_step (fail))
        refine wpQuiet_nil ?_
        intro _ hw'
        obtain ⟨⟨dq, osq⟩, hw''⟩ := hw'
        subst hw''
        go_wp2
        go_ret
        exact ⟨rfl, below_next BW (below_regrown W dq osq)⟩
      · by_cases hxy : 4294967295 = y
        · subst hxy
          replace YW : Cl W (w2.heap.size + 1) 4 0 4294967295 := YW
          replace y1 := cell_regrown YW.c1; replace y2 := cell_regrown YW.c2
          refine wp_region_quiet_below (by kernel_rfl) (by kernel_rfl) ?_
          repeat (go_big_quiet_step (fail))
          go_big_quiet_step ((go_at_call 11; exact Calls.regrown_of (less_n4 _ false rfl)))
          repeat (go_big_quiet_step (fail))
          go_big_quiet_step ((go_at_call 11; exact Calls.regrown_of (less_n4 _ false rfl)))
          repeat (go_big_quiet_step (fail))
          go_big_quiet_step ((go_at_call 8; exact Calls.regrown_of (awake_x _ (GW.below (below_regrown W _ _)))))
          repeat (go_big_quiet_step (fail))
          refine wpQuiet_nil ?_
          intro _ hw'
          obtain ⟨⟨dq, osq⟩, hw''⟩ := hw'
          subst hw''
          go_wp2
          go_ret
          exact ⟨rfl, below_next BW (below_regrown W dq osq)⟩
        · have hlt : y < 4294967295 := by have := HY.out.2; omega
          have HL := Lib.hid (And.intro (show ltA 4 4294967295 4 y = false by simp [ltA, ltB]; omega) (show ltA 4 y 4 4294967295 = true by simp [ltA, ltB]; omega))
          have hq : ∀ (α : Type) (A B : α), (if (0 : Int) = hiQ y then if (4294967295 : Int) = loQ y then A else B else B) = B := fun α A B => q_if_ne hxy α A B
          clear hxy hlt
          refine wp_region_quiet_below (by kernel_rfl) (by kernel_rfl) ?_
          repeat (go_big_quiet_step (fail))
          go_big_quiet_step ((go_at_call 11; exact Calls.regrown_of (less_a4 4 y _ false HL.out.1)))
          repeat (go_big_quiet_step (fail))
          go_big_quiet_step ((go_at_call 11; exact Calls.regrown_of (less_b4 4 y _ true HL.out.2)))
          repeat (go_big_quiet_step (fail))
          go_big_quiet_step ((go_at_call 8; exact Calls.regrown_of (awake_x _ (GW.below (below_regrown W _ _)))))
          repeat (go_big_quiet_step (fail))
          refine wpQuiet_nil ?_
          intro _ hw'
          obtain ⟨⟨dq, osq⟩, hw''⟩ := hw'
          subst hw''
          go_wp2
          go_ret
          exact ⟨rfl, below_next BW (below_regrown W dq osq)⟩
    · replace XW : Cl W w2.heap.size 6 18446744073709551615 18446744073709551615 := XW
      have x0 := cell_regrown XW.c0; have x1 := cell_regrown XW.c1; have x2 := cell_regrown XW.c2
      have y0 := cell_regrown YW.c0; have y1 := cell_regrown YW.c1; have y2 := cell_regrown YW.c2
      have e0 := cell_regrown EW.c0; have e1 := cell_regrown EW.c1; have e2 := cell_regrown EW.c2
      have f0 := cell_regrown FW.c0; have f1 := cell_regrown FW.c1; have f2 := cell_regrown FW.c2
      rcases okV_cases HY.out.1 with rfl | ⟨rfl, hy4⟩
      · by_cases hxy : 340282366920938463463374607431768211455 = y
        · subst hxy
          replace YW : Cl W (w2.heap.size + 1) 6 18446744073709551615 18446744073709551615 := YW
          replace y1 := cell_regrown YW.c1; replace y2 := cell_regrown YW.c2
          refine wp_region_quiet_below (by kernel_rfl) (by kernel_rfl) ?_
          repeat (go_big_quiet_step (fail))
          go_big_quiet_step ((go_at_call 11; exact Calls.regrown_of (less_n6 _ false rfl)))
          repeat (go_big_quiet_step (fail))
          go_big_quiet_step ((go_at_call 11; exact Calls.regrown_of (less_n6 _ false rfl)))
          repeat (go_big_quiet_step (fail))
          go_big_quiet_step ((go_at_call 8; exact Calls.regrown_of (awake_x _ (GW.below (below_regrown W _ _)))))
          repeat (go_big_quiet_step (fail))
          refine wpQuiet_nil ?_
          intro _ hw'
          obtain ⟨⟨dq, osq⟩, hw''⟩ := hw'
          subst hw''
          go_wp2
          go_ret
          exact ⟨rfl, below_next BW (below_regrown W dq osq)⟩
        · have hlt : y < 340282366920938463463374607431768211455 := by have := HY.out.2; omega
          have HL := Lib.hid (And.intro (show ltA 6 340282366920938463463374607431768211455 6 y = false by simp [ltA, ltB]; omega) (show ltA 6 y 6 340282366920938463463374607431768211455 = true by simp [ltA, ltB]; omega))
          have hq : ∀ (α : Type) (A B : α), (if (18446744073709551615 : Int) = hiQ y then if (18446744073709551615 : Int) = loQ y then A else B else B) = B := fun α A B => q_if_ne hxy α A B
          clear hxy hlt
          refine wp_region_quiet_below (by kernel_rfl) (by kernel_rfl) ?_
          repeat (go_big_quiet_step (fail))
          go_big_quiet_step ((go_at_call 11; exact Calls.regrown_of (less_a6 6 y _ false HL.out.1)))
          repeat (go_big_quiet_step (fail))
          go_big_quiet_step ((go_at_call 11; exact Calls.regrown_of (less_b6 6 y _ true HL.out.2)))
          repeat (go_big_quiet_step (fail))
          go_big_quiet_step ((go_at_call 8; exact Calls.regrown_of (awake_x _ (GW.below (below_regrown W _ _)))))
          repeat (go_big_quiet_step (fail))
          refine wpQuiet_nil ?_
          intro _ hw'
          obtain ⟨⟨dq, osq⟩, hw''⟩ := hw'
          subst hw''
          go_wp2
          go_ret
          exact ⟨rfl, below_next BW (below_regrown W dq osq)⟩
      · refine wp_region_quiet_below (by kernel_rfl) (by kernel_rfl) ?_
        repeat (go_big_quiet_step (fail))
        go_big_quiet_step ((go_at_call 11; exact Calls.regrown_of (less_a6 4 y _ false rfl)))
        repeat (go_big_quiet_step (fail))
        go_big_quiet_step ((go_at_call 11; exact Calls.regrown_of (less_b6 4 y _ true rfl)))
        repeat (go_big_quiet_step (fail))
        go_big_quiet_step ((go_at_call 11; exact Calls.regrown_of (less_a6 4 y _ false rfl)))
        repeat (go_big_quiet_step (fail))
        go_big_quiet_step ((go_at_call 8; exact Calls.regrown_of (awake_x _ (GW.below (below_regrown W _ _)))))
        repeat (go_big_quiet_step (fail))
        refine wpQuiet_nil ?_
        intro _ hw'
        obtain ⟨⟨dq, osq⟩, hw''⟩ := hw'
        subst hw''
        go_wp2
        go_ret
        exact ⟨rfl, below_next BW (below_regrown W dq osq)⟩
  · have hz : okV u (x + 1) = true := by simp [nextB] at hn; exact hn.2.2
    have HN := Lib.hid (And.intro hn hz)
    clear hn hz
    go_wp2_with fail
    refine (next_yes u x _ HX.out.2 HN.out.1).mono ?_
    rintro e w3 ⟨rfl, hb3⟩
    have B3 := below_next (ball (ball B2)) hb3
    have G3 := ((G2.alloc _).alloc _).below hb3
    replace A1 := A1.below hb3
    replace A2 := A2.below hb3
    clear B2 G2 hb3
    obtain ⟨p0, p1, p2, pl⟩ := id A1
    go_wp2_with fail
    refine (lessA_is u x u (x + 1) _ true (lt_next u x)).mono ?_
    rintro e w4 ⟨rfl, hb4⟩
    have B4 := below_next (ball B3) hb4
    have G4 := (G3.alloc _).below hb4
    have A3 := (ad_new w3 u (x + 1)).below hb4
    replace A1 := (A1.alloc _).below hb4
    replace A2 := (A2.alloc _).below hb4
    clear B3 G3 hb4 p0 p1 p2 pl
    obtain ⟨p0, p1, p2, pl⟩ := id A1
    obtain ⟨n0, n1, n2, nl⟩ := id A3
    go_wp2_with fail
    refine (ok_is u (x + 1) _ true HN.out.2).mono ?_
    rintro e w5 ⟨rfl, hb5⟩
    have B5 := below_next B4 hb5
    have G5 := G4.below hb5
    replace A1 := A1.below hb5
    replace A2 := A2.below hb5
    replace A3 := A3.below hb5
    clear B4 G4 hb5 p0 p1 p2 pl n0 n1 n2 nl
    obtain ⟨p0, p1, p2, pl⟩ := id A1
    obtain ⟨q0, q1, q2, ql⟩ := id A2
    cases hl : ltA u x t y
    · go_wp2_with fail
      refine (lessA_is u x t y _ false hl).mono ?_
      rintro e w6 ⟨rfl, hb6⟩
      have BV := below_next B5 hb6
      have GV := G5.below hb6
      replace A1 := A1.below hb6
      replace A2 := A2.below hb6
      clear B5 G5 hb6 p0 p1 p2 pl q0 q1 q2 ql A3
      go_wp2_with fail
      refine (next_end _).mono ?_
      rintro e w8 ⟨rfl, hb8⟩
      have B8 := below_next (ball (ball BV)) hb8
      have G8 := ((GV.alloc _).alloc _).below hb8
      have X8 := ((A1.cl.alloc _).alloc _).below hb8
      have Y8 := ((A2.cl.alloc _).alloc _).below hb8
      have E8 := ((cl_new w6 4 0 4294967295).alloc (.cells #[.int .i64 6, .int .u64 18446744073709551615, .int .u64 18446744073709551615] 28)).below hb8
      have F8 := (cl_new (w6.alloc (.cells #[.int .i64 4, .int .u64 0, .int .u64 4294967295] 28)) 6 18446744073709551615 18446744073709551615).below hb8
      rw [show (w6.alloc (.cells #[.int .i64 4, .int .u64 0, .int .u64 4294967295] 28)).heap.size = w6.heap.size + 1 by simp] at F8
      clear BV GV A1 A2 hb8
      obtain ⟨f0, f1, f2, fl⟩ := id F8
      go_wp2_with fail
      refine (next_far _).mono ?_
      rintro e w9 ⟨rfl, hb9⟩
      have BW := ball (o := .cells #[.int .i64 0, .int .u64 0, .int .u64 0] 28) (below_next (ball B8) hb9)
      have GW := ((G8.alloc _).below hb9).alloc (.cells #[.int .i64 0, .int .u64 0, .int .u64 0] 28)
      have XW := ((X8.alloc _).below hb9).alloc (.cells #[.int .i64 0, .int .u64 0, .int .u64 0] 28)
      have YW := ((Y8.alloc _).below hb9).alloc (.cells #[.int .i64 0, .int .u64 0, .int .u64 0] 28)
      have EW := ((E8.alloc _).below hb9).alloc (.cells #[.int .i64 0, .int .u64 0, .int .u64 0] 28)
      have FW := ((F8.alloc _).below hb9).alloc (.cells #[.int .i64 0, .int .u64 0, .int .u64 0] 28)
      clear B8 G8 X8 Y8 E8 F8 hb9 f0 f1 f2 fl
      go_wp2_with fail
      obtain ⟨W, hW⟩ : ∃ W, W = w9.alloc (.cells #[.int .i64 0, .int .u64 0, .int .u64 0] 28) := ⟨_, rfl⟩
      rw [← hW] at BW GW XW YW EW FW ⊢
      clear hW
      have x0 := cell_regrown XW.c0; have x1 := cell_regrown XW.c1; have x2 := cell_regrown XW.c2
      have y0 := cell_regrown YW.c0; have y1 := cell_regrown YW.c1; have y2 := cell_regrown YW.c2
      have e0 := cell_regrown EW.c0; have e1 := cell_regrown EW.c1; have e2 := cell_regrown EW.c2
      have f0 := cell_regrown FW.c0; have f1 := cell_regrown FW.c1; have f2 := cell_regrown FW.c2
      by_cases hut : u = t
      · subst hut
        by_cases hxy : x = y
        · subst hxy
          have HL := Lib.hid hl
          clear hl
          refine wp_region_quiet_below (by kernel_rfl) (by kernel_rfl) ?_
          repeat (go_big_quiet_step (fail))
          go_big_quiet_step ((go_at_call 11; exact Calls.regrown_of (lessA_is u x u x _ false HL.out)))
          repeat (go_big_quiet_step (fail))
          go_big_quiet_step ((go_at_call 11; exact Calls.regrown_of (lessA_is u x u x _ false HL.out)))
          repeat (go_big_quiet_step (fail))
          go_big_quiet_step ((go_at_call 8; exact Calls.regrown_of (awake_x _ (GW.below (below_regrown W _ _)))))
          repeat (go_big_quiet_step (fail))
          refine wpQuiet_nil ?_
          intro _ hw'
          obtain ⟨⟨dq, osq⟩, hw''⟩ := hw'
          subst hw''
          go_wp2
          go_ret
          exact ⟨rfl, below_next BW (below_regrown W dq osq)⟩
        · have hL : ltA u y u x = true := by unfold ltA at hl ⊢; simp [ltB] at hl ⊢; omega
          have HL := Lib.hid (And.intro hl hL)
          have hq := q_if_ne hxy
          clear hl hL hxy
          refine wp_region_quiet_below (by kernel_rfl) (by kernel_rfl) ?_
          repeat (go_big_quiet_step (fail))
          go_big_quiet_step ((go_at_call 11; exact Calls.regrown_of (lessA_is u x u y _ false HL.out.1)))
          repeat (go_big_quiet_step (fail))
          go_big_quiet_step ((go_at_call 11; exact Calls.regrown_of (lessA_is u y u x _ true HL.out.2)))
          repeat (go_big_quiet_step (fail))
          go_big_quiet_step ((go_at_call 8; exact Calls.regrown_of (awake_x _ (GW.below (below_regrown W _ _)))))
          repeat (go_big_quiet_step (fail))
          refine wpQuiet_nil ?_
          intro _ hw'
          obtain ⟨⟨dq, osq⟩, hw''⟩ := hw'
          subst hw''
          go_wp2
          go_ret
          exact ⟨rfl, below_next BW (below_regrown W dq osq)⟩
      · obtain ⟨rfl, rfl⟩ : u = 6 ∧ t = 4 := by
          unfold ltA at hl; rw [if_neg hut] at hl; simp at hl
          rcases okV_cases HX.out.1 with rfl | ⟨rfl, _⟩ <;> rcases okV_cases HY.out.1 with rfl | ⟨rfl, _⟩ <;> first | exact ⟨rfl, rfl⟩ | omega
        clear hl hut
        refine wp_region_quiet_below (by kernel_rfl) (by kernel_rfl) ?_
        repeat (go_big_quiet_step (fail))
        go_big_quiet_step ((go_at_call 11; exact Calls.regrown_of (lessA_is 6 x 4 y _ false rfl)))
        repeat (go_big_quiet_step (fail))
        go_big_quiet_step ((go_at_call 11; exact Calls.regrown_of (lessA_is 4 y 6 x _ true rfl)))
        repeat (go_big_quiet_step (fail))
        go_big_quiet_step ((go_at_call 11; exact Calls.regrown_of (lessA_is 6 x 4 y _ false rfl)))
        repeat (go_big_quiet_step (fail))
        go_big_quiet_step ((go_at_call 8; exact Calls.regrown_of (awake_x _ (GW.below (below_regrown W _ _)))))
        repeat (go_big_quiet_step (fail))
        refine wpQuiet_nil ?_
        intro _ hw'
        obtain ⟨⟨dq, osq⟩, hw''⟩ := hw'
        subst hw''
        go_wp2
        go_ret
        exact ⟨rfl, below_next BW (below_regrown W dq osq)⟩
    · go_wp2_with fail
      refine (lessA_is u x t y _ true hl).mono ?_
      rintro e w6 ⟨rfl, hb6⟩
      have B6 := below_next B5 hb6
      have G6 := G5.below hb6
      replace A1 := A1.below hb6
      replace A2 := A2.below hb6
      replace A3 := A3.below hb6
      clear B5 G5 hb6 p0 p1 p2 pl q0 q1 q2 ql
      obtain ⟨q0, q1, q2, ql⟩ := id A2
      obtain ⟨n0, n1, n2, nl⟩ := id A3
      go_wp2_with fail
      refine (lessA_is t y u (x + 1) _ false (lt_not hl)).mono ?_
      rintro e w7 ⟨rfl, hb7⟩
      have BV := below_next B6 hb7
      have GV := G6.below hb7
      replace A1 := A1.below hb7
      replace A2 := A2.below hb7
      clear B6 G6 hb7 n0 n1 n2 nl q0 q1 q2 ql A3
      go_wp2_with fail
      refine (next_end _).mono ?_
      rintro e w8 ⟨rfl, hb8⟩
      have B8 := below_next (ball (ball BV)) hb8
      have G8 := ((GV.alloc _).alloc _).below hb8
      have X8 := ((A1.cl.alloc _).alloc _).below hb8
      have Y8 := ((A2.cl.alloc _).alloc _).below hb8
      have E8 := ((cl_new w7 4 0 4294967295).alloc (.cells #[.int .i64 6, .int .u64 18446744073709551615, .int .u64 18446744073709551615] 28)).below hb8
      have F8 := (cl_new (w7.alloc (.cells #[.int .i64 4, .int .u64 0, .int .u64 4294967295] 28)) 6 18446744073709551615 18446744073709551615).below hb8
      rw [show (w7.alloc (.cells #[.int .i64 4, .int .u64 0, .int .u64 4294967295] 28)).heap.size = w7.heap.size + 1 by simp] at F8
      clear BV GV A1 A2 hb8
      obtain ⟨f0, f1, f2, fl⟩ := id F8
      go_wp2_with fail
      refine (next_far _).mono ?_
      rintro e w9 ⟨rfl, hb9⟩
      have BW := ball (o := .cells #[.int .i64 0, .int .u64 0, .int .u64 0] 28) (below_next (ball B8) hb9)
      have GW := ((G8.alloc _).below hb9).alloc (.cells #[.int .i64 0, .int .u64 0, .int .u64 0] 28)
      have XW := ((X8.alloc _).below hb9).alloc (.cells #[.int .i64 0, .int .u64 0, .int .u64 0] 28)
      have YW := ((Y8.alloc _).below hb9).alloc (.cells #[.int .i64 0, .int .u64 0, .int .u64 0] 28)
      have EW := ((E8.alloc _).below hb9).alloc (.cells #[.int .i64 0, .int .u64 0, .int .u64 0] 28)
      have FW := ((F8.alloc _).below hb9).alloc (.cells #[.int .i64 0, .int .u64 0, .int .u64 0] 28)
      clear B8 G8 X8 Y8 E8 F8 hb9 f0 f1 f2 fl
      go_wp2_with fail
      obtain ⟨W, hW⟩ : ∃ W, W = w9.alloc (.cells #[.int .i64 0, .int .u64 0, .int .u64 0] 28) := ⟨_, rfl⟩
      rw [← hW] at BW GW XW YW EW FW ⊢
      clear hW
      have x0 := cell_regrown XW.c0; have x1 := cell_regrown XW.c1; have x2 := cell_regrown XW.c2
      have y0 := cell_regrown YW.c0; have y1 := cell_regrown YW.c1; have y2 := cell_regrown YW.c2
      have e0 := cell_regrown EW.c0; have e1 := cell_regrown EW.c1; have e2 := cell_regrown EW.c2
      have f0 := cell_regrown FW.c0; have f1 := cell_regrown FW.c1; have f2 := cell_regrown FW.c2
      by_cases hut : u = t
      · subst hut
        have hxy : x ≠ y := by unfold ltA at hl; simp [ltB] at hl; omega
        have HL := Lib.hid hl
        have hq := q_if_ne hxy
        clear hl hxy
        refine wp_region_quiet_below (by kernel_rfl) (by kernel_rfl) ?_
        repeat (go_big_quiet_step (fail))
        go_big_quiet_step ((go_at_call 11; exact Calls.regrown_of (lessA_is u x u y _ true HL.out)))
        repeat (go_big_quiet_step (fail))
        go_big_quiet_step ((go_at_call 8; exact Calls.regrown_of (awake_x _ (GW.below (below_regrown W _ _)))))
        repeat (go_big_quiet_step (fail))
        refine wpQuiet_nil ?_
        intro _ hw'
        obtain ⟨⟨dq, osq⟩, hw''⟩ := hw'
        subst hw''
        go_wp2
        go_ret
        exact ⟨rfl, below_next BW (below_regrown W dq osq)⟩
      · obtain ⟨rfl, rfl⟩ : u = 4 ∧ t = 6 := by
          unfold ltA at hl; rw [if_neg hut] at hl; simp at hl
          rcases okV_cases HX.out.1 with rfl | ⟨rfl, _⟩ <;> rcases okV_cases HY.out.1 with rfl | ⟨rfl, _⟩ <;> first | exact ⟨rfl, rfl⟩ | omega
        clear hl hut
        refine wp_region_quiet_below (by kernel_rfl) (by kernel_rfl) ?_
        repeat (go_big_quiet_step (fail))
        go_big_quiet_step ((go_at_call 11; exact Calls.regrown_of (lessA_is 4 x 6 y _ true rfl)))
        repeat (go_big_quiet_step (fail))
        go_big_quiet_step ((go_at_call 11; exact Calls.regrown_of (lessA_is 4 x 6 y _ true rfl)))
        repeat (go_big_quiet_step (fail))
        go_big_quiet_step ((go_at_call 8; exact Calls.regrown_of (awake_x _ (GW.below (below_regrown W _ _)))))
        repeat (go_big_quiet_step (fail))
        refine wpQuiet_nil ?_
        intro _ hw'
        obtain ⟨⟨dq, osq⟩, hw''⟩ := hw'
        subst hw''
        go_wp2
        go_ret
        exact ⟨rfl, below_next BW (below_regrown W dq osq)⟩
end Go.Proofs.YtmlhlidjgiofkaaDoor
