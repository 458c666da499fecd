/- The checker's own OkRange, In, OverRange. -/
import Derived.Test.YtmnemjhkmllniaaGreatDoorzGr
import Derived.Test.YtmnemjhkmllniaaGreatDoorzRt
import Derived.Test.YtmnemjhkmllniaaGreatDoorzGp
import Derived.Test.YtmnemjhkmllniaaGreatDoorzXp
namespace Go.Proofs.YtmnemjhkmllniaaGreatDoor
open Go.ChangeShapes Go.WideShapes Go.RowKit Go.Sort

set_option maxHeartbeats 1000000 in
theorem refOkR_x (v : Int) (x : Nat) (u : Int) (y : Nat) (w : World) (hx : x < 340282366920938463463374607431768211456) (hy : y < 340282366920938463463374607431768211456) :
    Calls Tryz.prog 13 #[rgV v x u y] w fun e w' => e = .returned (.bool (okR v x u y)) ∧ Below w.heap.size w w' := by
  obtain ⟨W, hW⟩ : ∃ W, W = w.alloc (.cells #[.int .i64 v, .int .u64 (hiQ x), .int .u64 (loQ x), .int .i64 u, .int .u64 (hiQ y), .int .u64 (loQ y)] 30) := ⟨_, rfl⟩
  have R0 : Rl W w.heap.size v (hiQ x) (loQ x) u (hiQ y) (loQ y) := hW ▸ rl_new w _ _ _ _ _ _
  have BW : Below w.heap.size w W := by rw [hW]; exact (Below.refl _ _).alloc (Nat.le_refl _) _
  have HR : Hid (okR v x u y = (okV v x && (okV u y && (decide (v = u) && !ltA u y v x)))) := rfl
  have HL : Hid (v = u → ltA u y v x = ltB y x) := fun h => by subst h; simp [ltA]
  have H1 : Hid (∀ w b, okV v x = b → Calls Tryz.prog 26 #[.agg #[.int .i64 v, .int .u64 (hiQ x), .int .u64 (loQ x)]] w fun e w' => e = .returned (.bool b) ∧ Below w.heap.size w w') := fun w b h => refOkA_is v x w hx b h
  have H2 : Hid (∀ w b, okV u y = b → Calls Tryz.prog 26 #[.agg #[.int .i64 u, .int .u64 (hiQ y), .int .u64 (loQ y)]] w fun e w' => e = .returned (.bool b) ∧ Below w.heap.size w w') := fun w b h => refOkA_is u y w hy b h
  have H3 : Hid (∀ w b, ltB y x = b → Calls Tryz.prog 39 #[.agg #[.int .u64 (hiQ y), .int .u64 (loQ y)], .agg #[.int .u64 (hiQ x), .int .u64 (loQ x)]] w fun e w' => e = .returned (.bool b) ∧ Below w.heap.size w w') := fun w b h => refLess_is y x w b h
  clear hx hy
  generalize okR v x u y = B at *
  obtain ⟨c0, c1, c2, c3, c4, c5, lW⟩ := R0
  go_enter Tryz.func13, Tryz.ntmps13
  go_wp2_with fail
  rw [← hW]
  clear hW
  refine (H1.out _ _ rfl).mono ?_
  rintro e w1 ⟨rfl, hb1⟩
  obtain ⟨k1, l1⟩ := keep hb1 _ lW
  have B1 := below_next BW hb1
  cases h1 : okV v x
  · have HF : Hid (B = false) := by show _ = _; rw [HR.out, h1]; rfl
    clear h1 HR
    go_wp2
    go_ret
    exact ⟨by rw [HF.out]; rfl, B1⟩
  · go_wp2_with fail
    refine (H2.out _ _ rfl).mono ?_
    rintro e w2 ⟨rfl, hb2⟩
    obtain ⟨k2, l2⟩ := keep hb2 _ l1
    have B2 := below_next B1 hb2
    cases h2 : okV u y
    · have HF : Hid (B = false) := by show _ = _; rw [HR.out, h2]; simp
      clear h1 h2 HR
      go_wp2
      go_ret
      exact ⟨by rw [HF.out]; rfl, B2⟩
    · by_cases h3 : v = u
      · have HF : Hid (B = !ltB y x) := by show _ = _; rw [HR.out, h1, h2, decide_eq_true h3, HL.out h3]; rfl
        have h3' : (v == u) = true := by simp [h3]
        clear h1 h2 HR h3 HL
        go_wp2_with fail
        refine (H3.out _ _ rfl).mono ?_
        rintro e w3 ⟨rfl, hb3⟩
        have B3 := below_next B2 hb3
        generalize ltB y x = c at *
        go_wp2
        go_ret
        exact ⟨by rw [HF.out]; rfl, B3⟩
      · have HF : Hid (B = false) := by show _ = _; rw [HR.out, decide_eq_false h3]; simp
        have h3' : (v == u) = false := by simp [h3]
        clear h1 h2 HR h3
        go_wp2
        go_ret
        exact ⟨by rw [HF.out]; rfl, B2⟩
theorem refOkR_is (v : Int) (x : Nat) (u : Int) (y : Nat) (w : World) (hx : x < 340282366920938463463374607431768211456) (hy : y < 340282366920938463463374607431768211456) (b : Bool) (h : okR v x u y = b) :
    Calls Tryz.prog 13 #[rgV v x u y] w fun e w' => e = .returned (.bool b) ∧ Below w.heap.size w w' := h ▸ refOkR_x v x u y w hx hy
set_option maxHeartbeats 1000000 in
theorem refIn_x (v : Int) (x : Nat) (u : Int) (y : Nat) (a : Int) (z : Nat) (n : Int) (w : World) (hx : x < 340282366920938463463374607431768211456) (hy : y < 340282366920938463463374607431768211456) (hz : z < 340282366920938463463374607431768211456) :
    Calls Tryz.prog 15 #[rgV v x u y, .agg #[.int .i64 a, .int .u64 (hiQ z), .int .u64 (loQ z), .int .i64 n]] w fun e w' => e = .returned (.bool (inR v x u y a z n)) ∧ Below w.heap.size w w' := by
  obtain ⟨W, hW⟩ : ∃ W, W = (w.alloc (.cells #[.int .i64 v, .int .u64 (hiQ x), .int .u64 (loQ x), .int .i64 u, .int .u64 (hiQ y), .int .u64 (loQ y)] 30)).alloc (.cells #[.int .i64 a, .int .u64 (hiQ z), .int .u64 (loQ z), .int .i64 n] 34) := ⟨_, rfl⟩
  have R0 : Rl W w.heap.size v (hiQ x) (loQ x) u (hiQ y) (loQ y) := hW ▸ (rl_new w _ _ _ _ _ _).alloc _
  have P0 : Pl W (w.heap.size + 1) a (hiQ z) (loQ z) n := by
    have := pl_new (w.alloc (.cells #[.int .i64 v, .int .u64 (hiQ x), .int .u64 (loQ x), .int .i64 u, .int .u64 (hiQ y), .int .u64 (loQ y)] 30)) a (hiQ z) (loQ z) n
    rw [← hW] at this; simpa using this
  have BW : Below w.heap.size w W := by rw [hW]; exact below2 _ _ _
  have HR : Hid (inR v x u y a z n = (okR v x u y && (hasP a z n v x && hasP a z n u y))) := rfl
  have H1 : Hid (∀ w b, okR v x u y = b → Calls Tryz.prog 13 #[rgV v x u y] w fun e w' => e = .returned (.bool b) ∧ Below w.heap.size w w') := fun w b h => refOkR_is v x u y w hx hy b h
  have H2 : Hid (∀ w b, hasP a z n v x = b → Calls Tryz.prog 41 #[.agg #[.int .i64 a, .int .u64 (hiQ z), .int .u64 (loQ z), .int .i64 n], .agg #[.int .i64 v, .int .u64 (hiQ x), .int .u64 (loQ x)]] w fun e w' => e = .returned (.bool b) ∧ Below w.heap.size w w') := fun w b h => refHas_is a z n v x w hz hx b h
  have H3 : Hid (∀ w b, hasP a z n u y = b → Calls Tryz.prog 41 #[.agg #[.int .i64 a, .int .u64 (hiQ z), .int .u64 (loQ z), .int .i64 n], .agg #[.int .i64 u, .int .u64 (hiQ y), .int .u64 (loQ y)]] w fun e w' => e = .returned (.bool b) ∧ Below w.heap.size w w') := fun w b h => refHas_is a z n u y w hz hy b h
  clear hx hy hz
  generalize inR v x u y a z n = B at *
  obtain ⟨c0, c1, c2, c3, c4, c5, lW⟩ := R0
  obtain ⟨p0, p1, p2, p3, lP⟩ := P0
  go_enter Tryz.func15, Tryz.ntmps15
  go_wp2_with fail
  rw [← hW]
  clear hW
  refine (H1.out _ _ rfl).mono ?_
  rintro e w1 ⟨rfl, hb1⟩
  obtain ⟨k1, l1⟩ := keep hb1 _ lW
  obtain ⟨q1, m1⟩ := keep hb1 _ lP
  have B1 := below_next BW hb1
  cases h1 : okR v x u y
  · have HF : Hid (B = false) := by show _ = _; rw [HR.out, h1]; rfl
    clear h1 HR
    go_wp2
    go_ret
    exact ⟨by rw [HF.out]; rfl, B1⟩
  · go_wp2_with fail
    refine (H2.out _ _ rfl).mono ?_
    rintro e w2 ⟨rfl, hb2⟩
    obtain ⟨k2, l2⟩ := keep hb2 _ l1
    obtain ⟨q2, m2⟩ := keep hb2 _ m1
    have B2 := below_next B1 hb2
    cases h2 : hasP a z n v x
    · have HF : Hid (B = false) := by show _ = _; rw [HR.out, h2]; simp
      clear h1 h2 HR
      go_wp2
      go_ret
      exact ⟨by rw [HF.out]; rfl, B2⟩
    · have HF : Hid (B = hasP a z n u y) := by show _ = _; rw [HR.out, h1, h2]; rfl
      clear h1 h2 HR
      go_wp2_with fail
      refine (H3.out _ _ rfl).mono ?_
      rintro e w3 ⟨rfl, hb3⟩
      have B3 := below_next B2 hb3
      generalize hasP a z n u y = c at *
      go_wp2
      go_ret
      exact ⟨by rw [HF.out]; rfl, B3⟩
end Go.Proofs.YtmnemjhkmllniaaGreatDoor

/- The checker's own PrintRange, LessRange, OverRange. -/
namespace Go.Proofs.YtmnemjhkmllniaaGreatDoor
open Go.ChangeShapes Go.WideShapes Go.RowKit Go.Sort

set_option maxHeartbeats 2000000 in
set_option maxRecDepth 100000 in
theorem refPrintR_x (v : Int) (x : Nat) (u : Int) (y : Nat) (w : World) (hx : x < 340282366920938463463374607431768211456) (hy : y < 340282366920938463463374607431768211456) :
    Calls Tryz.prog 7 #[rgV v x u y] w fun e w' => e = .returned (.string (baS (tellR v x u y))) ∧ Below w.heap.size w w' := by
  have HX := Lib.hid (And.intro hx hy)
  obtain ⟨W, hW⟩ : ∃ W, W = w.alloc (.cells #[.int .i64 v, .int .u64 (hiQ x), .int .u64 (loQ x), .int .i64 u, .int .u64 (hiQ y), .int .u64 (loQ y)] 30) := ⟨_, rfl⟩
  have R0 : Rl W w.heap.size v (hiQ x) (loQ x) u (hiQ y) (loQ y) := hW ▸ rl_new w _ _ _ _ _ _
  have BW : Below w.heap.size w W := by rw [hW]; exact (Below.refl _ _).alloc (Nat.le_refl _) _
  have H1 : Hid (∀ w, Calls Tryz.prog 31 #[.agg #[.int .i64 v, .int .u64 (hiQ x), .int .u64 (loQ x)]] w fun e w' => e = .returned (.string (baS (tellV v x))) ∧ Below w.heap.size w w') := fun w => printE_x v x w hx
  have H2 : Hid (∀ w, Calls Tryz.prog 31 #[.agg #[.int .i64 u, .int .u64 (hiQ y), .int .u64 (loQ y)]] w fun e w' => e = .returned (.string (baS (tellV u y))) ∧ Below w.heap.size w w') := fun w => printE_x u y w hy
  clear hx hy
  obtain ⟨c0, c1, c2, c3, c4, c5, lW⟩ := id R0
  cases ho : okR v x u y
  · have HO := Lib.hid ho
    rw [show tellR v x u y = [] by simp [tellR, ho]]
    clear ho H1 H2
    go_enter Tryz.func7, Tryz.ntmps7
    go_wp2_with fail
    rw [← hW]
    clear hW
    refine (refOkR_is _ _ _ _ _ HX.out.1 HX.out.2 _ HO.out).mono ?_
    rintro e w1 ⟨rfl, hb1⟩
    go_wp2
    go_ret
    exact ⟨rfl, below_next BW hb1⟩
  · have HO := Lib.hid ho
    have ht : tellR v x u y = tellV v x ++ [45] ++ tellV u y := by simp [tellR, ho]
    have hl := tellV_len v x
    have hl2 := tellV_len u y
    rw [ht]
    generalize tellV v x = T at *
    generalize tellV u y = D at *
    have hadd1 : ∀ V, (Op.stringOp .add (baS T) ⟨#[45]⟩).run Tryz.prog V = .ok (.string (baS (T ++ [45]))) V := addS T [45] (by omega) (by decide)
    have hadd2 := addS (T ++ [45]) D (by simp; omega) (by omega)
    generalize T ++ [45] = T1 at *
    generalize T1 ++ D = T2 at *
    clear ho hl hl2 ht
    go_enter Tryz.func7, Tryz.ntmps7
    go_wp2_with fail
    rw [← hW]
    clear hW
    refine (refOkR_is _ _ _ _ _ HX.out.1 HX.out.2 _ HO.out).mono ?_
    rintro e V ⟨rfl, hb1⟩
    have B1 := below_next BW hb1
    have R1 := R0.below hb1
    have a0 := cell_regrown R1.c0; have a1 := cell_regrown R1.c1; have a2 := cell_regrown R1.c2; have a3 := cell_regrown R1.c3; have a4 := cell_regrown R1.c4; have a5 := cell_regrown R1.c5
    clear hb1 R0 R1 BW c0 c1 c2 c3 c4 c5
    go_wp2_with fail
    refine wp_region_quiet_below (by kernel_rfl) (by kernel_rfl) ?_
    repeat (go_big_quiet_step (first
      | (go_at_call 31; with_reducible exact Calls.regrown_of (H1.out _))
      | (go_at_call 31; with_reducible exact Calls.regrown_of (H2.out _))))
    refine wpQuiet_nil ?_
    intro _ hw'
    obtain ⟨⟨dq, osq⟩, hw''⟩ := hw'
    subst hw''
    go_wp2
    go_ret
    exact ⟨rfl, below_next B1 (below_regrown V dq osq)⟩
theorem overR_alt (v : Int) (x : Nat) (u : Int) (y : Nat) (a : Int) (s : Nat) (b : Int) (t : Nat) : overR v x u y a s b t = (okR v x u y && (okR a s b t && (decide (v = a) && (!ltB y s && !ltB t x)))) := by
  unfold overR
  cases h1 : okR v x u y
  · rfl
  · cases h2 : okR a s b t
    · rfl
    · obtain ⟨_, _, rfl, _⟩ := okR_is h1
      obtain ⟨_, _, rfl, _⟩ := okR_is h2
      simp only [Bool.true_and, ltA]
      by_cases h : v = a
      · subst h; simp
      · have h' : ¬ a = v := fun e => h e.symm
        simp only [if_neg h, if_neg h', decide_eq_false h, Bool.false_and]
        rw [Bool.eq_iff_iff]; simp; omega
set_option maxHeartbeats 1000000 in
theorem refOverR_x (v : Int) (x : Nat) (u : Int) (y : Nat) (a : Int) (s : Nat) (b : Int) (t : Nat) (w : World) (hx : x < 340282366920938463463374607431768211456) (hy : y < 340282366920938463463374607431768211456) (hs : s < 340282366920938463463374607431768211456) (ht : t < 340282366920938463463374607431768211456) :
    Calls Tryz.prog 17 #[rgV v x u y, rgV a s b t] w fun e w' => e = .returned (.bool (overR v x u y a s b t)) ∧ Below w.heap.size w w' := by
  obtain ⟨W, hW⟩ : ∃ W, W = (w.alloc (.cells #[.int .i64 v, .int .u64 (hiQ x), .int .u64 (loQ x), .int .i64 u, .int .u64 (hiQ y), .int .u64 (loQ y)] 30)).alloc (.cells #[.int .i64 a, .int .u64 (hiQ s), .int .u64 (loQ s), .int .i64 b, .int .u64 (hiQ t), .int .u64 (loQ t)] 30) := ⟨_, rfl⟩
  have R0 : Rl W w.heap.size v (hiQ x) (loQ x) u (hiQ y) (loQ y) := hW ▸ (rl_new w _ _ _ _ _ _).alloc _
  have P0 := rl_two hW
  have BW : Below w.heap.size w W := by rw [hW]; exact below2 _ _ _
  have HR := Lib.hid (overR_alt v x u y a s b t)
  have H1 : Hid (∀ w c, okR v x u y = c → Calls Tryz.prog 13 #[rgV v x u y] w fun e w' => e = .returned (.bool c) ∧ Below w.heap.size w w') := fun w c h => refOkR_is v x u y w hx hy c h
  have H2 : Hid (∀ w c, okR a s b t = c → Calls Tryz.prog 13 #[rgV a s b t] w fun e w' => e = .returned (.bool c) ∧ Below w.heap.size w w') := fun w c h => refOkR_is a s b t w hs ht c h
  have H3 : Hid (∀ w c, ltB y s = c → Calls Tryz.prog 39 #[.agg #[.int .u64 (hiQ y), .int .u64 (loQ y)], .agg #[.int .u64 (hiQ s), .int .u64 (loQ s)]] w fun e w' => e = .returned (.bool c) ∧ Below w.heap.size w w') := fun w c h => refLess_is y s w c h
  have H4 : Hid (∀ w c, ltB t x = c → Calls Tryz.prog 39 #[.agg #[.int .u64 (hiQ t), .int .u64 (loQ t)], .agg #[.int .u64 (hiQ x), .int .u64 (loQ x)]] w fun e w' => e = .returned (.bool c) ∧ Below w.heap.size w w') := fun w c h => refLess_is t x w c h
  clear hx hy hs ht
  generalize overR v x u y a s b t = B at *
  obtain ⟨c0, c1, c2, c3, c4, c5, lW⟩ := R0
  obtain ⟨p0, p1, p2, p3, p4, p5, lP⟩ := P0
  go_enter Tryz.func17, Tryz.ntmps17
  go_wp2_with fail
  rw [← hW]
  clear hW
  refine (H1.out _ _ rfl).mono ?_
  rintro e w1 ⟨rfl, hb1⟩
  obtain ⟨k1, l1⟩ := keep hb1 _ lW
  obtain ⟨q1, m1⟩ := keep hb1 _ lP
  have B1 := below_next BW hb1
  cases h1 : okR v x u y
  · have HF : Hid (B = false) := by show _ = _; rw [HR.out, h1]; rfl
    clear h1 HR
    go_wp2
    go_ret
    exact ⟨by rw [HF.out]; rfl, B1⟩
  · go_wp2_with fail
    refine (H2.out _ _ rfl).mono ?_
    rintro e w2 ⟨rfl, hb2⟩
    obtain ⟨k2, l2⟩ := keep hb2 _ l1
    obtain ⟨q2, m2⟩ := keep hb2 _ m1
    have B2 := below_next B1 hb2
    cases h2 : okR a s b t
    · have HF : Hid (B = false) := by show _ = _; rw [HR.out, h2]; simp
      clear h1 h2 HR
      go_wp2
      go_ret
      exact ⟨by rw [HF.out]; rfl, B2⟩
    · by_cases h0 : v = a
      · have HF0 : Hid (B = (!ltB y s && !ltB t x)) := by show _ = _; rw [HR.out, h1, h2, decide_eq_true h0]; rfl
        have h0' : (v == a) = true := by simp [h0]
        clear h1 h2 HR h0
        go_wp2_with fail
        refine (H3.out _ _ rfl).mono ?_
        rintro e w3 ⟨rfl, hb3⟩
        obtain ⟨k3, l3⟩ := keep hb3 _ l2
        obtain ⟨q3, m3⟩ := keep hb3 _ m2
        have B3 := below_next B2 hb3
        cases h3 : ltB y s
        · have HF : Hid (B = !ltB t x) := by show _ = _; rw [HF0.out, h3]; rfl
          clear h3 HF0
          go_wp2_with fail
          refine (H4.out _ _ rfl).mono ?_
          rintro e w4 ⟨rfl, hb4⟩
          have B4 := below_next B3 hb4
          generalize ltB t x = c at *
          go_wp2
          go_ret
          exact ⟨by rw [HF.out]; rfl, B4⟩
        · have HF : Hid (B = false) := by show _ = _; rw [HF0.out, h3]; rfl
          clear h3 HF0
          go_wp2
          go_ret
          exact ⟨by rw [HF.out]; rfl, B3⟩
      · have HF : Hid (B = false) := by show _ = _; rw [HR.out, decide_eq_false h0]; simp
        have h0' : (v == a) = false := by simp [h0]
        clear h1 h2 HR h0
        go_wp2
        go_ret
        exact ⟨by rw [HF.out]; rfl, B2⟩
end Go.Proofs.YtmnemjhkmllniaaGreatDoor

/- The checker's own LessRange. -/
namespace Go.Proofs.YtmnemjhkmllniaaGreatDoor
open Go.ChangeShapes Go.WideShapes Go.RowKit Go.Sort

theorem lessR_alt (v : Int) (x : Nat) (u : Int) (y : Nat) (a : Int) (s : Nat) (b : Int) (t : Nat) : lessR v x u y a s b t = (okR v x u y && (okR a s b t && (ltA v x a s || (decide (v = a ∧ x = s) && ltA u y b t)))) := by
  unfold lessR
  by_cases h : v = a ∧ x = s
  · obtain ⟨rfl, rfl⟩ := h
    simp [ltA, ltB]
  · rw [if_neg h, decide_eq_false h]; simp
set_option maxHeartbeats 1000000 in
theorem refLessR_x (v : Int) (x : Nat) (u : Int) (y : Nat) (a : Int) (s : Nat) (b : Int) (t : Nat) (w : World) (hx : x < 340282366920938463463374607431768211456) (hy : y < 340282366920938463463374607431768211456) (hs : s < 340282366920938463463374607431768211456) (ht : t < 340282366920938463463374607431768211456) :
    Calls Tryz.prog 19 #[rgV v x u y, rgV a s b t] w fun e w' => e = .returned (.bool (lessR v x u y a s b t)) ∧ Below w.heap.size w w' := by
  obtain ⟨W, hW⟩ : ∃ W, W = (w.alloc (.cells #[.int .i64 v, .int .u64 (hiQ x), .int .u64 (loQ x), .int .i64 u, .int .u64 (hiQ y), .int .u64 (loQ y)] 30)).alloc (.cells #[.int .i64 a, .int .u64 (hiQ s), .int .u64 (loQ s), .int .i64 b, .int .u64 (hiQ t), .int .u64 (loQ t)] 30) := ⟨_, rfl⟩
  have R0 : Rl W w.heap.size v (hiQ x) (loQ x) u (hiQ y) (loQ y) := hW ▸ (rl_new w _ _ _ _ _ _).alloc _
  have P0 := rl_two hW
  have BW : Below w.heap.size w W := by rw [hW]; exact below2 _ _ _
  have HR := Lib.hid (lessR_alt v x u y a s b t)
  have H1 : Hid (∀ w c, okR v x u y = c → Calls Tryz.prog 13 #[rgV v x u y] w fun e w' => e = .returned (.bool c) ∧ Below w.heap.size w w') := fun w c h => refOkR_is v x u y w hx hy c h
  have H2 : Hid (∀ w c, okR a s b t = c → Calls Tryz.prog 13 #[rgV a s b t] w fun e w' => e = .returned (.bool c) ∧ Below w.heap.size w w') := fun w c h => refOkR_is a s b t w hs ht c h
  have H3 : Hid (∀ w c, ltA v x a s = c → Calls Tryz.prog 42 #[.agg #[.int .i64 v, .int .u64 (hiQ x), .int .u64 (loQ x)], .agg #[.int .i64 a, .int .u64 (hiQ s), .int .u64 (loQ s)]] w fun e w' => e = .returned (.bool c) ∧ Below w.heap.size w w') := fun w c h => h ▸ refLessA_x v x a s w
  have H4 : Hid (∀ w c, ltA u y b t = c → Calls Tryz.prog 42 #[.agg #[.int .i64 u, .int .u64 (hiQ y), .int .u64 (loQ y)], .agg #[.int .i64 b, .int .u64 (hiQ t), .int .u64 (loQ t)]] w fun e w' => e = .returned (.bool c) ∧ Below w.heap.size w w') := fun w c h => h ▸ refLessA_x u y b t w
  clear hx hy hs ht
  generalize lessR v x u y a s b t = B at *
  obtain ⟨c0, c1, c2, c3, c4, c5, lW⟩ := R0
  obtain ⟨p0, p1, p2, p3, p4, p5, lP⟩ := P0
  go_enter Tryz.func19, Tryz.ntmps19
  go_wp2_with fail
  rw [← hW]
  clear hW
  refine (H1.out _ _ rfl).mono ?_
  rintro e w1 ⟨rfl, hb1⟩
  obtain ⟨k1, l1⟩ := keep hb1 _ lW
  obtain ⟨q1, m1⟩ := keep hb1 _ lP
  have B1 := below_next BW hb1
  cases h1 : okR v x u y
  · have HF : Hid (B = false) := by show _ = _; rw [HR.out, h1]; rfl
    clear h1 HR
    go_wp2
    go_ret
    exact ⟨by rw [HF.out]; rfl, B1⟩
  · go_wp2_with fail
    refine (H2.out _ _ rfl).mono ?_
    rintro e w2 ⟨rfl, hb2⟩
    obtain ⟨k2, l2⟩ := keep hb2 _ l1
    obtain ⟨q2, m2⟩ := keep hb2 _ m1
    have B2 := below_next B1 hb2
    cases h2 : okR a s b t
    · have HF : Hid (B = false) := by show _ = _; rw [HR.out, h2]; simp
      clear h1 h2 HR
      go_wp2
      go_ret
      exact ⟨by rw [HF.out]; rfl, B2⟩
    · have HF0 : Hid (B = (ltA v x a s || (decide (v = a ∧ x = s) && ltA u y b t))) := by show _ = _; rw [HR.out, h1, h2]; rfl
      clear h1 h2 HR
      go_wp2_with fail
      refine (H3.out _ _ rfl).mono ?_
      rintro e w3 ⟨rfl, hb3⟩
      obtain ⟨k3, l3⟩ := keep hb3 _ l2
      obtain ⟨q3, m3⟩ := keep hb3 _ m2
      have B3 := below_next B2 hb3
      cases h3 : ltA v x a s
      · by_cases h4 : v = a ∧ x = s
        · have HF : Hid (B = ltA u y b t) := by show _ = _; rw [HF0.out, h3, decide_eq_true h4]; rfl
          obtain ⟨rfl, rfl⟩ := h4
          clear h3 HF0 H3
          go_wp2_with fail
          refine (H4.out _ _ rfl).mono ?_
          rintro e w4 ⟨rfl, hb4⟩
          have B4 := below_next B3 hb4
          generalize ltA u y b t = c at *
          go_wp2
          go_ret
          exact ⟨by rw [HF.out]; rfl, B4⟩
        · have HF : Hid (B = false) := by show _ = _; rw [HF0.out, h3, decide_eq_false h4]; rfl
          have hq := ifne3 h4
          clear h3 HF0 h4
          go_wp2
          go_ret
          exact ⟨by rw [HF.out]; rfl, B3⟩
      · have HF : Hid (B = true) := by show _ = _; rw [HF0.out, h3]; rfl
        clear h3 HF0
        go_wp2
        go_ret
        exact ⟨by rw [HF.out]; rfl, B3⟩
end Go.Proofs.YtmnemjhkmllniaaGreatDoor
