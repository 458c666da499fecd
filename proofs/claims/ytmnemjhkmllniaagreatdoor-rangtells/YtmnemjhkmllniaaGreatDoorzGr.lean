/- rang.Ok, In, Over, Less: for every range, none too. -/
import Derived.Test.YtmnemjhkmllniaaGreatDoorzPr
import Derived.Test.YtmnemjhkmllniaaGreatDoorzAm
import Derived.Test.YtmnemjhkmllniaaGreatDoorzPt

namespace Go.Proofs.YtmnemjhkmllniaaGreatDoor
open Go.ChangeShapes Go.WideShapes Go.RowKit Go.Sort

/-- Six cells of a range lie in block b. -/
structure Rl (w : World) (b : Nat) (v h l u i m : Int) : Prop where
  c0 : w.cell? ⟨b, 0, none⟩ = some (.int .i64 v)
  c1 : w.cell? ⟨b, 1, none⟩ = some (.int .u64 h)
  c2 : w.cell? ⟨b, 2, none⟩ = some (.int .u64 l)
  c3 : w.cell? ⟨b, 3, none⟩ = some (.int .i64 u)
  c4 : w.cell? ⟨b, 4, none⟩ = some (.int .u64 i)
  c5 : w.cell? ⟨b, 5, none⟩ = some (.int .u64 m)
  lt : b < w.heap.size
theorem Rl.below {w w' : World} {b : Nat} {v h l u i m : Int} (c : Rl w b v h l u i m) (hb : Below w.heap.size w w') : Rl w' b v h l u i m := by
  obtain ⟨k, z⟩ := keep hb b c.lt
  exact ⟨(k 0).trans c.c0, (k 1).trans c.c1, (k 2).trans c.c2, (k 3).trans c.c3, (k 4).trans c.c4, (k 5).trans c.c5, z⟩
theorem Rl.alloc {w : World} {b : Nat} {v h l u i m : Int} (c : Rl w b v h l u i m) (o : Obj) : Rl (w.alloc o) b v h l u i m := c.below ((Below.refl _ _).alloc (Nat.le_refl _) _)
theorem rl_new (w : World) (v h l u i m : Int) : Rl (w.alloc (.cells #[.int .i64 v, .int .u64 h, .int .u64 l, .int .i64 u, .int .u64 i, .int .u64 m] 30)) w.heap.size v h l u i m :=
  ⟨by simp [go_sem], by simp [go_sem], by simp [go_sem], by simp [go_sem], by simp [go_sem], by simp [go_sem], by simp⟩
/-- A range as a value. -/
abbrev rgV (v : Int) (x : Nat) (u : Int) (y : Nat) : Value := .agg #[.int .i64 v, .int .u64 (hiQ x), .int .u64 (loQ x), .int .i64 u, .int .u64 (hiQ y), .int .u64 (loQ y)]
def okR (v : Int) (x : Nat) (u : Int) (y : Nat) : Bool := okV v x && (okV u y && (decide (v = u) && !ltA u y v x))
theorem okR_is {v : Int} {x : Nat} {u : Int} {y : Nat} (h : okR v x u y = true) : okV v x = true ∧ okV u y = true ∧ v = u ∧ x ≤ y := by
  simp [okR] at h
  obtain ⟨h1, h2, h3, h4⟩ := h
  subst h3
  refine ⟨h1, h2, rfl, ?_⟩
  simp [ltA, ltB] at h4; exact h4
theorem okR_of {v : Int} {x y : Nat} (h1 : okV v x = true) (h2 : okV v y = true) (h : x ≤ y) : okR v x v y = true := by
  simp [okR, h1, h2, ltA, ltB]; exact h
theorem lessA_b (v : Int) (x : Nat) (u : Int) (y : Nat) (w : World) (b : Bool) (h : ltA v x u y = b) :
    Calls Tryz.prog 38 #[.agg #[.int .i64 v, .int .u64 (hiQ x), .int .u64 (loQ x)], .agg #[.int .i64 u, .int .u64 (hiQ y), .int .u64 (loQ y)]] w fun e w' => e = .returned (.bool b) ∧ Below w.heap.size w w' := h ▸ lessA_x v x u y w
set_option maxHeartbeats 1000000 in
theorem okRang_x (v : Int) (x : Nat) (u : Int) (y : Nat) (w : World) :
    Calls Tryz.prog 12 #[rgV v x u y] w fun e w' => e = .returned (.bool (okR v x u y)) ∧ Below w.heap.size w w' := by
  obtain ⟨W, hW⟩ : ∃ W, W = w.alloc (.cells #[.int .i64 v, .int .u64 (hiQ x), .int .u64 (loQ x), .int .i64 u, .int .u64 (hiQ y), .int .u64 (loQ y)] 30) := ⟨_, rfl⟩
  have R0 : Rl W w.heap.size v (hiQ x) (loQ x) u (hiQ y) (loQ y) := hW ▸ rl_new w _ _ _ _ _ _
  have BW : Below w.heap.size w W := by rw [hW]; exact (Below.refl _ _).alloc (Nat.le_refl _) _
  have HR : Hid (okR v x u y = (okV v x && (okV u y && (decide (v = u) && !ltA u y v x)))) := rfl
  have H1 : Hid (∀ w b, okV v x = b → Calls Tryz.prog 37 #[.agg #[.int .i64 v, .int .u64 (hiQ x), .int .u64 (loQ x)]] w fun e w' => e = .returned (.bool b) ∧ Below w.heap.size w w') := fun w b h => ok_is v x w b h
  have H2 : Hid (∀ w b, okV u y = b → Calls Tryz.prog 37 #[.agg #[.int .i64 u, .int .u64 (hiQ y), .int .u64 (loQ y)]] w fun e w' => e = .returned (.bool b) ∧ Below w.heap.size w w') := fun w b h => ok_is u y w b h
  have H3 : Hid (∀ w b, ltA u y v x = b → Calls Tryz.prog 38 #[.agg #[.int .i64 u, .int .u64 (hiQ y), .int .u64 (loQ y)], .agg #[.int .i64 v, .int .u64 (hiQ x), .int .u64 (loQ x)]] w fun e w' => e = .returned (.bool b) ∧ Below w.heap.size w w') := fun w b h => lessA_b u y v x w b h
  generalize okR v x u y = B at *
  obtain ⟨c0, c1, c2, c3, c4, c5, lW⟩ := R0
  go_enter Tryz.func12, Tryz.ntmps12
  go_wp2_with fail
  rw [← hW]
  clear hW
  refine (H1.out _ _ rfl).mono ?_
  rintro e w1 ⟨rfl, hb1⟩
  obtain ⟨k1, l1⟩ := keep hb1 _ lW
  have B1 := below_next BW hb1
  cases h1 : okV v x
  · have HF : Hid (B = false) := by show _ = _; rw [HR.out, h1]; rfl
    clear h1 HR
    go_wp2
    go_ret
    exact ⟨by rw [HF.out]; rfl, B1⟩
  · go_wp2_with fail
    refine (H2.out _ _ rfl).mono ?_
    rintro e w2 ⟨rfl, hb2⟩
    obtain ⟨k2, l2⟩ := keep hb2 _ l1
    have B2 := below_next B1 hb2
    cases h2 : okV u y
    · have HF : Hid (B = false) := by show _ = _; rw [HR.out, h2]; simp
      clear h1 h2 HR
      go_wp2
      go_ret
      exact ⟨by rw [HF.out]; rfl, B2⟩
    · by_cases h3 : v = u
      · have HF : Hid (B = !ltA u y v x) := by show _ = _; rw [HR.out, h1, h2, decide_eq_true h3]; rfl
        have h3' : (v == u) = true := by simp [h3]
        clear h1 h2 HR h3
        go_wp2_with fail
        refine (H3.out _ _ rfl).mono ?_
        rintro e w3 ⟨rfl, hb3⟩
        have B3 := below_next B2 hb3
        generalize ltA u y v x = c at *
        go_wp2
        go_ret
        exact ⟨by rw [HF.out]; rfl, B3⟩
      · have HF : Hid (B = false) := by show _ = _; rw [HR.out, decide_eq_false h3]; simp
        have h3' : (v == u) = false := by simp [h3]
        clear h1 h2 HR h3
        go_wp2
        go_ret
        exact ⟨by rw [HF.out]; rfl, B2⟩
theorem okRang_is (v : Int) (x : Nat) (u : Int) (y : Nat) (w : World) (b : Bool) (h : okR v x u y = b) :
    Calls Tryz.prog 12 #[rgV v x u y] w fun e w' => e = .returned (.bool b) ∧ Below w.heap.size w w' := h ▸ okRang_x v x u y w
end Go.Proofs.YtmnemjhkmllniaaGreatDoor

/- rang.In, Over, Less: for every range, none too. -/
namespace Go.Proofs.YtmnemjhkmllniaaGreatDoor
open Go.ChangeShapes Go.WideShapes Go.RowKit Go.Sort

def inR (v : Int) (x : Nat) (u : Int) (y : Nat) (a : Int) (z : Nat) (n : Int) : Bool := okR v x u y && (hasP a z n v x && hasP a z n u y)
def overR (v : Int) (x : Nat) (u : Int) (y : Nat) (a : Int) (s : Nat) (b : Int) (t : Nat) : Bool := okR v x u y && (okR a s b t && (!ltA u y a s && !ltA b t v x))
def lessR (v : Int) (x : Nat) (u : Int) (y : Nat) (a : Int) (s : Nat) (b : Int) (t : Nat) : Bool := okR v x u y && (okR a s b t && (if v = a ∧ x = s then ltA u y b t else ltA v x a s))
set_option maxHeartbeats 1000000 in
theorem inRang_x (v : Int) (x : Nat) (u : Int) (y : Nat) (a : Int) (z : Nat) (n : Int) (w : World) (hx : x < 340282366920938463463374607431768211456) (hy : y < 340282366920938463463374607431768211456) (hz : z < 340282366920938463463374607431768211456) :
    Calls Tryz.prog 14 #[rgV v x u y, .agg #[.int .i64 a, .int .u64 (hiQ z), .int .u64 (loQ z), .int .i64 n]] w fun e w' => e = .returned (.bool (inR v x u y a z n)) ∧ Below w.heap.size w w' := by
  obtain ⟨W, hW⟩ : ∃ W, W = (w.alloc (.cells #[.int .i64 v, .int .u64 (hiQ x), .int .u64 (loQ x), .int .i64 u, .int .u64 (hiQ y), .int .u64 (loQ y)] 30)).alloc (.cells #[.int .i64 a, .int .u64 (hiQ z), .int .u64 (loQ z), .int .i64 n] 34) := ⟨_, rfl⟩
  have R0 : Rl W w.heap.size v (hiQ x) (loQ x) u (hiQ y) (loQ y) := hW ▸ (rl_new w _ _ _ _ _ _).alloc _
  have P0 : Pl W (w.heap.size + 1) a (hiQ z) (loQ z) n := by
    have := pl_new (w.alloc (.cells #[.int .i64 v, .int .u64 (hiQ x), .int .u64 (loQ x), .int .i64 u, .int .u64 (hiQ y), .int .u64 (loQ y)] 30)) a (hiQ z) (loQ z) n
    rw [← hW] at this; simpa using this
  have BW : Below w.heap.size w W := by rw [hW]; exact below2 _ _ _
  have HR : Hid (inR v x u y a z n = (okR v x u y && (hasP a z n v x && hasP a z n u y))) := rfl
  have H1 : Hid (∀ w b, okR v x u y = b → Calls Tryz.prog 12 #[rgV v x u y] w fun e w' => e = .returned (.bool b) ∧ Below w.heap.size w w') := fun w b h => okRang_is v x u y w b h
  have H2 : Hid (∀ w b, hasP a z n v x = b → Calls Tryz.prog 40 #[.agg #[.int .i64 a, .int .u64 (hiQ z), .int .u64 (loQ z), .int .i64 n], .agg #[.int .i64 v, .int .u64 (hiQ x), .int .u64 (loQ x)]] w fun e w' => e = .returned (.bool b) ∧ Below w.heap.size w w') := fun w b h => has_pis a z n v x w hz hx b h
  have H3 : Hid (∀ w b, hasP a z n u y = b → Calls Tryz.prog 40 #[.agg #[.int .i64 a, .int .u64 (hiQ z), .int .u64 (loQ z), .int .i64 n], .agg #[.int .i64 u, .int .u64 (hiQ y), .int .u64 (loQ y)]] w fun e w' => e = .returned (.bool b) ∧ Below w.heap.size w w') := fun w b h => has_pis a z n u y w hz hy b h
  clear hx hy hz
  generalize inR v x u y a z n = B at *
  obtain ⟨c0, c1, c2, c3, c4, c5, lW⟩ := R0
  obtain ⟨p0, p1, p2, p3, lP⟩ := P0
  go_enter Tryz.func14, Tryz.ntmps14
  go_wp2_with fail
  rw [← hW]
  clear hW
  refine (H1.out _ _ rfl).mono ?_
  rintro e w1 ⟨rfl, hb1⟩
  obtain ⟨k1, l1⟩ := keep hb1 _ lW
  obtain ⟨q1, m1⟩ := keep hb1 _ lP
  have B1 := below_next BW hb1
  cases h1 : okR v x u y
  · have HF : Hid (B = false) := by show _ = _; rw [HR.out, h1]; rfl
    clear h1 HR
    go_wp2
    go_ret
    exact ⟨by rw [HF.out]; rfl, B1⟩
  · go_wp2_with fail
    refine (H2.out _ _ rfl).mono ?_
    rintro e w2 ⟨rfl, hb2⟩
    obtain ⟨k2, l2⟩ := keep hb2 _ l1
    obtain ⟨q2, m2⟩ := keep hb2 _ m1
    have B2 := below_next B1 hb2
    cases h2 : hasP a z n v x
    · have HF : Hid (B = false) := by show _ = _; rw [HR.out, h2]; simp
      clear h1 h2 HR
      go_wp2
      go_ret
      exact ⟨by rw [HF.out]; rfl, B2⟩
    · have HF : Hid (B = hasP a z n u y) := by show _ = _; rw [HR.out, h1, h2]; rfl
      clear h1 h2 HR
      go_wp2_with fail
      refine (H3.out _ _ rfl).mono ?_
      rintro e w3 ⟨rfl, hb3⟩
      have B3 := below_next B2 hb3
      generalize hasP a z n u y = c at *
      go_wp2
      go_ret
      exact ⟨by rw [HF.out]; rfl, B3⟩
theorem inRang_is (v : Int) (x : Nat) (u : Int) (y : Nat) (a : Int) (z : Nat) (n : Int) (w : World) (hx : x < 340282366920938463463374607431768211456) (hy : y < 340282366920938463463374607431768211456) (hz : z < 340282366920938463463374607431768211456) (b : Bool) (h : inR v x u y a z n = b) :
    Calls Tryz.prog 14 #[rgV v x u y, .agg #[.int .i64 a, .int .u64 (hiQ z), .int .u64 (loQ z), .int .i64 n]] w fun e w' => e = .returned (.bool b) ∧ Below w.heap.size w w' := h ▸ inRang_x v x u y a z n w hx hy hz
theorem rl_two {w W : World} {o : Obj} {v h l u i m : Int} (hW : W = (w.alloc o).alloc (.cells #[.int .i64 v, .int .u64 h, .int .u64 l, .int .i64 u, .int .u64 i, .int .u64 m] 30)) : Rl W (w.heap.size + 1) v h l u i m := by
  have := rl_new (w.alloc o) v h l u i m
  rw [← hW] at this; simpa using this
set_option maxHeartbeats 1000000 in
theorem overRang_x (v : Int) (x : Nat) (u : Int) (y : Nat) (a : Int) (s : Nat) (b : Int) (t : Nat) (w : World) :
    Calls Tryz.prog 16 #[rgV v x u y, rgV a s b t] w fun e w' => e = .returned (.bool (overR v x u y a s b t)) ∧ Below w.heap.size w w' := by
  obtain ⟨W, hW⟩ : ∃ W, W = (w.alloc (.cells #[.int .i64 v, .int .u64 (hiQ x), .int .u64 (loQ x), .int .i64 u, .int .u64 (hiQ y), .int .u64 (loQ y)] 30)).alloc (.cells #[.int .i64 a, .int .u64 (hiQ s), .int .u64 (loQ s), .int .i64 b, .int .u64 (hiQ t), .int .u64 (loQ t)] 30) := ⟨_, rfl⟩
  have R0 : Rl W w.heap.size v (hiQ x) (loQ x) u (hiQ y) (loQ y) := hW ▸ (rl_new w _ _ _ _ _ _).alloc _
  have P0 := rl_two hW
  have BW : Below w.heap.size w W := by rw [hW]; exact below2 _ _ _
  have HR : Hid (overR v x u y a s b t = (okR v x u y && (okR a s b t && (!ltA u y a s && !ltA b t v x)))) := rfl
  have H1 : Hid (∀ w c, okR v x u y = c → Calls Tryz.prog 12 #[rgV v x u y] w fun e w' => e = .returned (.bool c) ∧ Below w.heap.size w w') := fun w c h => okRang_is v x u y w c h
  have H2 : Hid (∀ w c, okR a s b t = c → Calls Tryz.prog 12 #[rgV a s b t] w fun e w' => e = .returned (.bool c) ∧ Below w.heap.size w w') := fun w c h => okRang_is a s b t w c h
  have H3 : Hid (∀ w c, ltA u y a s = c → Calls Tryz.prog 38 #[.agg #[.int .i64 u, .int .u64 (hiQ y), .int .u64 (loQ y)], .agg #[.int .i64 a, .int .u64 (hiQ s), .int .u64 (loQ s)]] w fun e w' => e = .returned (.bool c) ∧ Below w.heap.size w w') := fun w c h => lessA_b u y a s w c h
  have H4 : Hid (∀ w c, ltA b t v x = c → Calls Tryz.prog 38 #[.agg #[.int .i64 b, .int .u64 (hiQ t), .int .u64 (loQ t)], .agg #[.int .i64 v, .int .u64 (hiQ x), .int .u64 (loQ x)]] w fun e w' => e = .returned (.bool c) ∧ Below w.heap.size w w') := fun w c h => lessA_b b t v x w c h
  generalize overR v x u y a s b t = B at *
  obtain ⟨c0, c1, c2, c3, c4, c5, lW⟩ := R0
  obtain ⟨p0, p1, p2, p3, p4, p5, lP⟩ := P0
  go_enter Tryz.func16, Tryz.ntmps16
  go_wp2_with fail
  rw [← hW]
  clear hW
  refine (H1.out _ _ rfl).mono ?_
  rintro e w1 ⟨rfl, hb1⟩
  obtain ⟨k1, l1⟩ := keep hb1 _ lW
  obtain ⟨q1, m1⟩ := keep hb1 _ lP
  have B1 := below_next BW hb1
  cases h1 : okR v x u y
  · have HF : Hid (B = false) := by show _ = _; rw [HR.out, h1]; rfl
    clear h1 HR
    go_wp2
    go_ret
    exact ⟨by rw [HF.out]; rfl, B1⟩
  · go_wp2_with fail
    refine (H2.out _ _ rfl).mono ?_
    rintro e w2 ⟨rfl, hb2⟩
    obtain ⟨k2, l2⟩ := keep hb2 _ l1
    obtain ⟨q2, m2⟩ := keep hb2 _ m1
    have B2 := below_next B1 hb2
    cases h2 : okR a s b t
    · have HF : Hid (B = false) := by show _ = _; rw [HR.out, h2]; simp
      clear h1 h2 HR
      go_wp2
      go_ret
      exact ⟨by rw [HF.out]; rfl, B2⟩
    · go_wp2_with fail
      refine (H3.out _ _ rfl).mono ?_
      rintro e w3 ⟨rfl, hb3⟩
      obtain ⟨k3, l3⟩ := keep hb3 _ l2
      obtain ⟨q3, m3⟩ := keep hb3 _ m2
      have B3 := below_next B2 hb3
      cases h3 : ltA u y a s
      · have HF : Hid (B = !ltA b t v x) := by show _ = _; rw [HR.out, h1, h2, h3]; rfl
        clear h1 h2 h3 HR
        go_wp2_with fail
        refine (H4.out _ _ rfl).mono ?_
        rintro e w4 ⟨rfl, hb4⟩
        have B4 := below_next B3 hb4
        generalize ltA b t v x = c at *
        go_wp2
        go_ret
        exact ⟨by rw [HF.out]; rfl, B4⟩
      · have HF : Hid (B = false) := by show _ = _; rw [HR.out, h3]; simp
        clear h1 h2 h3 HR
        go_wp2
        go_ret
        exact ⟨by rw [HF.out]; rfl, B3⟩
theorem overRang_is (v : Int) (x : Nat) (u : Int) (y : Nat) (a : Int) (s : Nat) (b : Int) (t : Nat) (w : World) (c : Bool) (h : overR v x u y a s b t = c) :
    Calls Tryz.prog 16 #[rgV v x u y, rgV a s b t] w fun e w' => e = .returned (.bool c) ∧ Below w.heap.size w w' := h ▸ overRang_x v x u y a s b t w
set_option maxHeartbeats 1000000 in
theorem lessRang_x (v : Int) (x : Nat) (u : Int) (y : Nat) (a : Int) (s : Nat) (b : Int) (t : Nat) (w : World) :
    Calls Tryz.prog 18 #[rgV v x u y, rgV a s b t] w fun e w' => e = .returned (.bool (lessR v x u y a s b t)) ∧ Below w.heap.size w w' := by
  obtain ⟨W, hW⟩ : ∃ W, W = (w.alloc (.cells #[.int .i64 v, .int .u64 (hiQ x), .int .u64 (loQ x), .int .i64 u, .int .u64 (hiQ y), .int .u64 (loQ y)] 30)).alloc (.cells #[.int .i64 a, .int .u64 (hiQ s), .int .u64 (loQ s), .int .i64 b, .int .u64 (hiQ t), .int .u64 (loQ t)] 30) := ⟨_, rfl⟩
  have R0 : Rl W w.heap.size v (hiQ x) (loQ x) u (hiQ y) (loQ y) := hW ▸ (rl_new w _ _ _ _ _ _).alloc _
  have P0 := rl_two hW
  have BW : Below w.heap.size w W := by rw [hW]; exact below2 _ _ _
  have HR : Hid (lessR v x u y a s b t = (okR v x u y && (okR a s b t && (if v = a ∧ x = s then ltA u y b t else ltA v x a s)))) := rfl
  have H1 : Hid (∀ w c, okR v x u y = c → Calls Tryz.prog 12 #[rgV v x u y] w fun e w' => e = .returned (.bool c) ∧ Below w.heap.size w w') := fun w c h => okRang_is v x u y w c h
  have H2 : Hid (∀ w c, okR a s b t = c → Calls Tryz.prog 12 #[rgV a s b t] w fun e w' => e = .returned (.bool c) ∧ Below w.heap.size w w') := fun w c h => okRang_is a s b t w c h
  have H3 : Hid (∀ w c, ltA v x a s = c → Calls Tryz.prog 38 #[.agg #[.int .i64 v, .int .u64 (hiQ x), .int .u64 (loQ x)], .agg #[.int .i64 a, .int .u64 (hiQ s), .int .u64 (loQ s)]] w fun e w' => e = .returned (.bool c) ∧ Below w.heap.size w w') := fun w c h => lessA_b v x a s w c h
  have H4 : Hid (∀ w c, ltA u y b t = c → Calls Tryz.prog 38 #[.agg #[.int .i64 u, .int .u64 (hiQ y), .int .u64 (loQ y)], .agg #[.int .i64 b, .int .u64 (hiQ t), .int .u64 (loQ t)]] w fun e w' => e = .returned (.bool c) ∧ Below w.heap.size w w') := fun w c h => lessA_b u y b t w c h
  generalize lessR v x u y a s b t = B at *
  obtain ⟨c0, c1, c2, c3, c4, c5, lW⟩ := R0
  obtain ⟨p0, p1, p2, p3, p4, p5, lP⟩ := P0
  go_enter Tryz.func18, Tryz.ntmps18
  go_wp2_with fail
  rw [← hW]
  clear hW
  refine (H1.out _ _ rfl).mono ?_
  rintro e w1 ⟨rfl, hb1⟩
  obtain ⟨k1, l1⟩ := keep hb1 _ lW
  obtain ⟨q1, m1⟩ := keep hb1 _ lP
  have B1 := below_next BW hb1
  cases h1 : okR v x u y
  · have HF : Hid (B = false) := by show _ = _; rw [HR.out, h1]; rfl
    clear h1 HR
    go_wp2
    go_ret
    exact ⟨by rw [HF.out]; rfl, B1⟩
  · go_wp2_with fail
    refine (H2.out _ _ rfl).mono ?_
    rintro e w2 ⟨rfl, hb2⟩
    obtain ⟨k2, l2⟩ := keep hb2 _ l1
    obtain ⟨q2, m2⟩ := keep hb2 _ m1
    have B2 := below_next B1 hb2
    cases h2 : okR a s b t
    · have HF : Hid (B = false) := by show _ = _; rw [HR.out, h2]; simp
      clear h1 h2 HR
      go_wp2
      go_ret
      exact ⟨by rw [HF.out]; rfl, B2⟩
    · by_cases h3 : v = a ∧ x = s
      · have HF : Hid (B = ltA u y b t) := by show _ = _; rw [HR.out, h1, h2, if_pos h3]; rfl
        obtain ⟨rfl, rfl⟩ := h3
        clear h1 h2 HR
        go_wp2_with fail
        refine (H4.out _ _ rfl).mono ?_
        rintro e w4 ⟨rfl, hb4⟩
        have B4 := below_next B2 hb4
        generalize ltA u y b t = c at *
        go_wp2
        go_ret
        exact ⟨by rw [HF.out]; rfl, B4⟩
      · have HF : Hid (B = ltA v x a s) := by show _ = _; rw [HR.out, h1, h2, if_neg h3]; rfl
        have hq := ifne3 h3
        clear h1 h2 HR h3
        go_wp2_with fail
        refine (H3.out _ _ rfl).mono ?_
        rintro e w4 ⟨rfl, hb4⟩
        have B4 := below_next B2 hb4
        generalize ltA v x a s = c at *
        go_wp2
        go_ret
        exact ⟨by rw [HF.out]; rfl, B4⟩
theorem lessRang_is (v : Int) (x : Nat) (u : Int) (y : Nat) (a : Int) (s : Nat) (b : Int) (t : Nat) (w : World) (c : Bool) (h : lessR v x u y a s b t = c) :
    Calls Tryz.prog 18 #[rgV v x u y, rgV a s b t] w fun e w' => e = .returned (.bool c) ∧ Below w.heap.size w w' := h ▸ lessRang_x v x u y a s b t w
end Go.Proofs.YtmnemjhkmllniaaGreatDoor

/- rang.widest: the greatest prefix from an address on that does not go beyond another. -/
namespace Go.Proofs.YtmnemjhkmllniaaGreatDoor
open Go.ChangeShapes Go.WideShapes Go.RowKit Go.Sort

theorem low_start {x y b : Nat} (hx : x < 340282366920938463463374607431768211456) (hy : y < 2 ^ b) (hb : b ≤ 128) : 2 ^ min (lowQ x) b ∣ x ∧ ∀ j, min (lowQ x) b < j → ¬ fits x y j := by
  have far : ∀ j, b < j → ¬ fits x y j := fun j hj hf => by
    have h1 := hf.2; have h2 := pow_le (show b + 1 ≤ j by omega); have := two_pos b
    rw [Nat.pow_succ] at h2; omega
  by_cases h0 : x = 0
  · subst h0
    rw [lowQ_zero, Nat.min_eq_right hb]
    exact ⟨Nat.dvd_zero _, far⟩
  · obtain ⟨m, e, hl⟩ := lowQ_odd x h0 hx
    have hd : 2 ^ lowQ x ∣ x := ⟨2 * m + 1, e⟩
    refine ⟨Nat.dvd_trans (pow_dvd (Nat.min_le_left _ _)) hd, fun j hj hf => ?_⟩
    by_cases hjb : b < j
    · exact far j hjb hf
    · have hj' : lowQ x + 1 ≤ j := by omega
      obtain ⟨c, hc⟩ := Nat.dvd_trans (pow_dvd hj') hf.1
      rw [Nat.pow_succ, Nat.mul_assoc] at hc
      have : 2 ^ lowQ x * (2 * m + 1) = 2 ^ lowQ x * (2 * c) := by rw [← e, ← hc]
      have := Nat.eq_of_mul_eq_mul_left (two_pos _) this
      omega
/-- A block of a prefix of noughts, laid behind W. -/
structure FreshP (W w : World) (N : Nat) : Prop where
  c0 : w.cell? ⟨N, 0, none⟩ = some (.int .i64 0)
  c1 : w.cell? ⟨N, 1, none⟩ = some (.int .u64 0)
  c2 : w.cell? ⟨N, 2, none⟩ = some (.int .u64 0)
  c3 : w.cell? ⟨N, 3, none⟩ = some (.int .i64 0)
  cf : ∀ o, w.frozen? ⟨N, o, none⟩ = false
  lt : N < w.heap.size
  le : W.heap.size ≤ N
abbrev zeroP : Obj := .cells #[.int .i64 0, .int .u64 0, .int .u64 0, .int .i64 0] 34
theorem freshP_new {W V w : World} (hb : Below (V.alloc zeroP).heap.size (V.alloc zeroP) w) (hW : Below W.heap.size W V) : FreshP W w V.heap.size := by
  obtain ⟨k, f, l⟩ := keepf hb V.heap.size (by simp)
  exact ⟨(k 0).trans (by simp [go_sem]), (k 1).trans (by simp [go_sem]), (k 2).trans (by simp [go_sem]), (k 3).trans (by simp [go_sem]), fun o => (f o).trans (by simp [go_sem]), l, hW.size⟩
theorem freshP_newd {W V w : World} (hb : Below (V.drew.alloc zeroP).heap.size (V.drew.alloc zeroP) w) (hW : Below W.heap.size W V) : FreshP W w V.heap.size := freshP_new (V := V.drew) hb (Below.drew hW)
theorem freshP_dnew {W V w : World} (hb : Below (V.alloc zeroP).drew.heap.size (V.alloc zeroP).drew w) (hW : Below W.heap.size W V) : FreshP W w V.heap.size := freshP_new (V := V) (below_next (Below.drew (Below.refl _ _)) hb) hW
theorem set4 {w : World} {B : Nat} {a b c d p q r s : Value} (h0 : w.cell? ⟨B, 0, none⟩ = some a) (h1 : w.cell? ⟨B, 1, none⟩ = some b) (h2 : w.cell? ⟨B, 2, none⟩ = some c) (h3 : w.cell? ⟨B, 3, none⟩ = some d) :
    let w' := (((w.setCell ⟨B, 0, none⟩ p).setCell ⟨B, 1, none⟩ q).setCell ⟨B, 2, none⟩ r).setCell ⟨B, 3, none⟩ s
    w'.cell? ⟨B, 0, none⟩ = some p ∧ w'.cell? ⟨B, 1, none⟩ = some q ∧ w'.cell? ⟨B, 2, none⟩ = some r ∧ w'.cell? ⟨B, 3, none⟩ = some s := by
  refine ⟨?_, ?_, ?_, ?_⟩ <;> simp [go_sem, h0, h1, h2, h3]
theorem far_ne {W : World} {B N : Nat} (h : B < W.heap.size) (h' : W.heap.size ≤ N) : N ≠ B := by omega
def intCell (w : World) (a : Addr) : Int := match w.cell? a with
  | some (.int _ i) => i
  | _ => 0
set_option maxHeartbeats 4000000 in
theorem widest_x (v : Int) (x y : Nat) (w : World) (ht : TabOk w) (hx : x < 340282366920938463463374607431768211456) (hy : y < 340282366920938463463374607431768211456) (h : okR v x v y = true) :
    Calls Tryz.prog 43 #[rgV v x v y] w fun e w' => e = .returned (.agg #[.int .i64 v, .int .u64 (hiQ x), .int .u64 (loQ x), .int .i64 ((bitsV v : Int) - widK x y)]) ∧ Below w.heap.size w w' := by
  have HX := Lib.hid hx
  have HT := Lib.hid ht
  obtain ⟨ok1, ok2, _, hxy⟩ := okR_is h
  have hy2 := okV_lt ok2 hy
  have hbb := bitsV_le v
  have HS := Lib.hid (low_start hx hy2 hbb)
  have HBits := Lib.hid (bits_any v)
  have HL : Hid (∀ w, TabOk w → Calls Tryz.prog 71 #[.agg #[.int .u64 (hiQ x), .int .u64 (loQ x)]] w fun e w' => e = .returned (.int .i64 (lowQ x : Nat)) ∧ Below w.heap.size w w') := fun w h => low_x x w h hx
  have HOkP : Hid (∀ k : Nat, k ≤ bitsV v → 2 ^ k ∣ x → okP v x ((bitsV v : Int) - k) = true ∧ lastX v x ((bitsV v : Int) - k) = x + (2 ^ k - 1)) := by
    intro k hk hd
    have e : hostK v ((bitsV v : Int) - k) = k := by unfold hostK; omega
    have := okP_of (n := (bitsV v : Int) - k) ok1 (by omega) (by omega) (by rw [e]; exact cutK_dvd.2 hd)
    exact ⟨this, by unfold lastX; rw [if_pos this, e]⟩
  have HLast : Hid (∀ w n, okP v x n = true → Calls Tryz.prog 45 #[.agg #[.int .i64 v, .int .u64 (hiQ x), .int .u64 (loQ x), .int .i64 n]] w fun e w' => e = .returned (.agg #[.int .i64 v, .int .u64 (hiQ (lastX v x n)), .int .u64 (loQ (lastX v x n))]) ∧ Below w.heap.size w w') := fun w n hn => by
    have := last_x v x n w hx
    rw [show firstV v x n = v from if_pos hn] at this; exact this
  have HLess : Hid (∀ w z b, decide (y < z) = b → Calls Tryz.prog 38 #[.agg #[.int .i64 v, .int .u64 (hiQ y), .int .u64 (loQ y)], .agg #[.int .i64 v, .int .u64 (hiQ z), .int .u64 (loQ z)]] w fun e w' => e = .returned (.bool b) ∧ Below w.heap.size w w') := fun w z b hb => lessA_b v y v z w b (by rw [← hb]; simp [ltA, ltB])
  have HXY := Lib.hid hxy
  clear hx hy ht h ok1 ok2 hxy hy2
  generalize bitsV v = b0 at *
  obtain ⟨W, hW⟩ : ∃ W, W = (w.alloc (.cells #[.int .i64 v, .int .u64 (hiQ x), .int .u64 (loQ x), .int .i64 v, .int .u64 (hiQ y), .int .u64 (loQ y)] 30)).alloc zeroP := ⟨_, rfl⟩
  have R0 : Rl W w.heap.size v (hiQ x) (loQ x) v (hiQ y) (loQ y) := hW ▸ (rl_new w _ _ _ _ _ _).alloc _
  have P0 : FreshP w W (w.heap.size + 1) := by
    have := freshP_new (W := w) (V := w.alloc (.cells #[.int .i64 v, .int .u64 (hiQ x), .int .u64 (loQ x), .int .i64 v, .int .u64 (hiQ y), .int .u64 (loQ y)] 30)) (w := W) (by rw [← hW]; exact Below.refl _ _) (ball (Below.refl _ _))
    simpa using this
  have BW : Below w.heap.size w W := by rw [hW]; exact below2 _ _ _
  have C0 := R0.c0
  go_enter Tryz.func43, Tryz.ntmps43
  go_wp2_with fail
  rw [← hW]
  clear hW
  refine (HBits.out _).mono ?_
  rintro e w1 ⟨rfl, hb1⟩
  have R1 := R0.below hb1
  have B1 := below_next BW hb1
  obtain ⟨kp, fp, lp⟩ := keepf hb1 _ P0.lt
  have r0 := (kp 0).trans P0.c0
  have r1 := (kp 1).trans P0.c1
  have r2 := (kp 2).trans P0.c2
  have r3 := (kp 3).trans P0.c3
  have rf := fun o => (fp o).trans (P0.cf o)
  clear R0 P0 BW C0 kp fp hb1
  obtain ⟨c0, c1, c2, c3, c4, c5, lW⟩ := R1
  have hmin : (b0 : Int) - min (lowQ x : Int) b0 = (b0 : Int) - (min (lowQ x) b0 : Nat) := by omega
  have HM := Lib.hid hmin
  have hl0 : 0 ≤ (lowQ x : Int) := by omega
  have hwr : IntKind.i64.wrap ((b0 : Int) - min (lowQ x : Int) b0) = (b0 : Int) - (min (lowQ x) b0 : Nat) := by rw [IntKind.wrap_i64]; omega
  clear hmin
  have HT1 : Hid (TabOk w1) := HT.out.below B1 HT.out.pos
  go_upto_region 2 with fail
  go_cut [4] (fun p wx => ∃ N, p = .pointer (some ⟨N, 0, none⟩) ∧ w1.heap.size ≤ N ∧ Pl wx N v (hiQ x) (loQ x) ((b0 : Int) - (min (lowQ x) b0 : Nat)) ∧ (∀ o, wx.frozen? ⟨N, o, none⟩ = false) ∧ Below w1.heap.size w1 wx)
  case first =>
    have nX := Nat.ne_of_gt lW
    go_region_held3 (fun w' => w'.cell? ⟨w.heap.size, 0, none⟩ = some (.int .i64 v) ∧ w'.cell? ⟨w.heap.size, 1, none⟩ = some (.int .u64 (hiQ x)) ∧ w'.cell? ⟨w.heap.size, 2, none⟩ = some (.int .u64 (loQ x))) (go_keep)
      (first
        | (go_at_call 71; refine (HL.out _ (HT1.out.below (by repeat (first | exact Below.refl _ _ | apply Below.drew | apply ball)) (Nat.lt_of_lt_of_le HT1.out.pos (Nat.le_refl _)))).mono ?_; rintro e w8 ⟨rfl, hb8⟩; (first | (have F8 := freshP_dnew (W := w1) hb8 (Below.refl _ _); obtain ⟨g0, g1, g2, g3, gf, gl, ge⟩ := id F8; have gn := far_ne lW ge) | (have F8 := freshP_newd (W := w1) hb8 (Below.refl _ _); obtain ⟨g0, g1, g2, g3, gf, gl, ge⟩ := id F8; have gn := far_ne lW ge) | (have F8 := freshP_new (W := w1) hb8 (by repeat (first | exact Below.refl _ _ | apply Below.drew)); obtain ⟨g0, g1, g2, g3, gf, gl, ge⟩ := id F8; have gn := far_ne lW ge) | skip); have C8 : Below w1.heap.size w1 w8 := below_next (by repeat (first | exact Below.refl _ _ | apply Below.drew | apply ball)) hb8; obtain ⟨k8, l8⟩ := keep C8 w.heap.size lW; have n8 := Nat.ne_of_gt l8))
    all_goals
      go_wp2_with fail
      go_meet
    all_goals first
      | exact ⟨_, rfl, ge, ⟨(set4 g0 g1 g2 g3).1, (set4 g0 g1 g2 g3).2.1, (set4 g0 g1 g2 g3).2.2.1, (set4 g0 g1 g2 g3).2.2.2, by simp; exact gl⟩, fun o => by simp [gf], pset4 C8 ge⟩
      | exact ⟨_, rfl, C8.size, pl_new _ _ _ _ _, fun o => by simp [go_sem], ball C8⟩
  case rest =>
    obtain ⟨M, rfl, hM, PX, pf, CX⟩ := hcut
    obtain ⟨ka, la⟩ := keep CX w.heap.size lW
    have y3 := (ka 3).trans c3
    have y4 := (ka 4).trans c4
    have y5 := (ka 5).trans c5
    obtain ⟨kr, fr, lr⟩ := keepf CX _ lp
    have s0 := (kr 0).trans r0
    have s1 := (kr 1).trans r1
    have s2 := (kr 2).trans r2
    have s3 := (kr 3).trans r3
    have sf := fun o => (fr o).trans (rf o)
    have BX := below_next B1 CX
    have hM2 : w.heap.size + 1 < M := Nat.lt_of_lt_of_le lp hM
    clear ka kr fr r0 r1 r2 r3 rf c0 c1 c2 c3 c4 c5 CX B1 HL HT HT1 HM hwr hM
    go_wp2_with fail
    go_loopw [26] (fun _ wr => ∃ k : Nat, k ≤ b0 ∧ Hid (2 ^ k ∣ x ∧ ∀ j, k < j → ¬ fits x y j) ∧ Pl wr M v (hiQ x) (loQ x) ((b0 : Int) - k) ∧ (∀ o, wr.frozen? ⟨M, o, none⟩ = false)
        ∧ wr.cell? ⟨w.heap.size, 3, none⟩ = some (.int .i64 v) ∧ wr.cell? ⟨w.heap.size, 4, none⟩ = some (.int .u64 (hiQ y)) ∧ wr.cell? ⟨w.heap.size, 5, none⟩ = some (.int .u64 (loQ y))
        ∧ wr.cell? ⟨w.heap.size + 1, 0, none⟩ = some (.int .i64 0) ∧ wr.cell? ⟨w.heap.size + 1, 1, none⟩ = some (.int .u64 0) ∧ wr.cell? ⟨w.heap.size + 1, 2, none⟩ = some (.int .u64 0) ∧ wr.cell? ⟨w.heap.size + 1, 3, none⟩ = some (.int .i64 0) ∧ (∀ o, wr.frozen? ⟨w.heap.size + 1, o, none⟩ = false) ∧ w.heap.size + 1 < wr.heap.size ∧ Below w.heap.size w wr)
      (fun _ wr => ((b0 : Int) - intCell wr ⟨M, 3, none⟩).toNat)
    case atStart => exact ⟨_, Nat.min_le_right _ _, HS.out, PX, pf, y3, y4, y5, s0, s1, s2, s3, sf, lr, BX⟩
    case round =>
      clear PX pf y3 y4 y5 s0 s1 s2 s3 sf lr BX HS
      obtain ⟨k, hk, hh, PX, pf, y3, y4, y5, s0, s1, s2, s3, sf, lr, BX⟩ := hrel
      obtain ⟨p0, p1, p2, p3, pl⟩ := PX
      have e0 := cell_regrown p0; have e1 := cell_regrown p1; have e2 := cell_regrown p2; have e3 := cell_regrown p3
      have e4 := cell_regrown y3; have e5 := cell_regrown y4; have e6 := cell_regrown y5
      have HK := Lib.hid (HOkP.out k hk hh.out.1)
      have HL1 : Hid (∀ w, Calls Tryz.prog 45 #[.agg #[.int .i64 v, .int .u64 (hiQ x), .int .u64 (loQ x), .int .i64 ((b0 : Int) - k)]] w fun e w' => e = .returned (.agg #[.int .i64 v, .int .u64 (hiQ (x + (2 ^ k - 1))), .int .u64 (loQ (x + (2 ^ k - 1)))]) ∧ Below w.heap.size w w') := fun w => by
        have := HLast.out w _ HK.out.1
        rw [HK.out.2] at this; exact this
      have hz : (x + (2 ^ k - 1) ≤ y ∧ widK x y = k ∨ y < x + (2 ^ k - 1) ∧ ¬ fits x y k ∧ 0 < k) := by
        by_cases hc : y < x + (2 ^ k - 1)
        · right
          refine ⟨hc, fun hf => ?_, ?_⟩
          · have := hf.2; have := two_pos k; omega
          · cases k with
            | zero => simp at hc; have := HXY.out; omega
            | succ k => omega
        · left
          refine ⟨by omega, widK_is (by omega) ⟨hh.out.1, by have := two_pos k; omega⟩ (fun j _ hj => hh.out.2 j hj)⟩
      generalize x + (2 ^ k - 1) = z at *
      clear HLast HOkP HK HXY
      rcases hz with ⟨hle, hw⟩ | ⟨hlt, hnf, hk0⟩
      · have HL2 : Hid (∀ w, Calls Tryz.prog 38 #[.agg #[.int .i64 v, .int .u64 (hiQ y), .int .u64 (loQ y)], .agg #[.int .i64 v, .int .u64 (hiQ z), .int .u64 (loQ z)]] w fun e w' => e = .returned (.bool false) ∧ Below w.heap.size w w') := fun w => HLess.out w z false (decide_eq_false (by omega))
        have HW := Lib.hid hw
        clear hle hw HLess hh
        go_wp2_with fail
        refine wp_region_quiet_below (by kernel_rfl) (by kernel_rfl) ?_
        repeat (go_big_quiet_step (first
          | (go_at_call 45; exact Calls.regrown_of (HL1.out _))
          | (go_at_call 38; exact Calls.regrown_of (HL2.out _))))
        refine wpQuiet_nil ?_
        intro _ hw'
        obtain ⟨⟨dq, osq⟩, hw''⟩ := hw'
        subst hw''
        have BQ := below_next BX (below_regrown wr dq osq)
        obtain ⟨kk, kl⟩ := keep (below_regrown wr dq osq) M pl
        obtain ⟨kr, fr, rl⟩ := keepf (below_regrown wr dq osq) _ lr
        generalize grow (redrawn wr dq) osq = V at *
        replace p0 := (kk 0).trans p0
        replace p1 := (kk 1).trans p1
        replace p2 := (kk 2).trans p2
        replace p3 := (kk 3).trans p3
        replace s0 := (kr 0).trans s0
        replace s1 := (kr 1).trans s1
        replace s2 := (kr 2).trans s2
        replace s3 := (kr 3).trans s3
        replace sf : ∀ o, V.frozen? ⟨w.heap.size + 1, o, none⟩ = false := fun o => (fr o).trans (sf o)
        clear kk kr fr e0 e1 e2 e3 e4 e5 e6 y3 y4 y5 pf
        go_wp2
        exact bodyPost_ret (v := .agg #[.int .i64 v, .int .u64 (hiQ x), .int .u64 (loQ x), .int .i64 ((b0 : Int) - k)]) (by simp [results, Tryz.results43, go_sem, *]) rfl ⟨by rw [HW.out], pset4 BQ (Nat.le_succ _)⟩
      · have HL2 : Hid (∀ w, Calls Tryz.prog 38 #[.agg #[.int .i64 v, .int .u64 (hiQ y), .int .u64 (loQ y)], .agg #[.int .i64 v, .int .u64 (hiQ z), .int .u64 (loQ z)]] w fun e w' => e = .returned (.bool true) ∧ Below w.heap.size w w') := fun w => HLess.out w z true (decide_eq_true (by omega))
        have HN : Hid (2 ^ (k - 1) ∣ x ∧ ∀ j, k - 1 < j → ¬ fits x y j) := ⟨Nat.dvd_trans (pow_dvd (by omega)) hh.out.1, fun j hj => by
          by_cases e : j = k
          · subst e; exact hnf
          · exact hh.out.2 j (by omega)⟩
        clear hlt hnf HLess hh
        go_wp2_with fail
        refine wp_region_quiet_below (by kernel_rfl) (by kernel_rfl) ?_
        repeat (go_big_quiet_step (first
          | (go_at_call 45; exact Calls.regrown_of (HL1.out _))
          | (go_at_call 38; exact Calls.regrown_of (HL2.out _))))
        refine wpQuiet_nil ?_
        intro _ hw'
        obtain ⟨⟨dq, osq⟩, hw''⟩ := hw'
        subst hw''
        have BQ := below_next BX (below_regrown wr dq osq)
        obtain ⟨kk, kf, kl⟩ := keepf (below_regrown wr dq osq) M pl
        obtain ⟨ka, la⟩ := keep (below_regrown wr dq osq) w.heap.size (by omega)
        obtain ⟨kr, fr, rl⟩ := keepf (below_regrown wr dq osq) _ lr
        have hm0 : intCell wr ⟨M, 3, none⟩ = (b0 : Int) - k := by unfold intCell; rw [p3]
        generalize grow (redrawn wr dq) osq = V at *
        replace p0 := (kk 0).trans p0
        replace p1 := (kk 1).trans p1
        replace p2 := (kk 2).trans p2
        replace p3 := (kk 3).trans p3
        replace pf : ∀ o, V.frozen? ⟨M, o, none⟩ = false := fun o => (kf o).trans (pf o)
        replace s0 := (kr 0).trans s0
        replace s1 := (kr 1).trans s1
        replace s2 := (kr 2).trans s2
        replace s3 := (kr 3).trans s3
        replace sf : ∀ o, V.frozen? ⟨w.heap.size + 1, o, none⟩ = false := fun o => (fr o).trans (sf o)
        replace y3 := (ka 3).trans y3
        replace y4 := (ka 4).trans y4
        replace y5 := (ka 5).trans y5
        clear kk kf kr fr ka e0 e1 e2 e3 e4 e5 e6
        have hn1 : M ≠ w.heap.size := by omega
        have hn2 : M ≠ w.heap.size + 1 := by omega
        go_wp2
        go_roundw
        case rel =>
          refine ⟨k - 1, by omega, HN.out, ⟨?_, ?_, ?_, ?_, by simp; exact kl⟩, fun o => by simp [pf], ?_, ?_, ?_, ?_, ?_, ?_, ?_, fun o => by simp [sf], by simp; exact rl, BQ.setCell (show w.heap.size ≤ M by omega) _⟩
          · rw [World.cell?_setCell_other _ _ _ _ (by simp)]; exact p0
          · rw [World.cell?_setCell_other _ _ _ _ (by simp)]; exact p1
          · rw [World.cell?_setCell_other _ _ _ _ (by simp)]; exact p2
          · rw [show (b0 : Int) - (k - 1 : Nat) = (b0 : Int) - k + 1 by omega]
            exact World.cell?_setCell_same _ _ _ p3
          all_goals (rw [World.cell?_setCell_other _ _ _ _ (by simp <;> omega)]; assumption)
        case measure =>
          rw [hm0, show intCell (V.setCell ⟨M, 3, none⟩ (.int .i64 ((b0 : Int) - k + 1))) ⟨M, 3, none⟩ = (b0 : Int) - k + 1 by unfold intCell; rw [World.cell?_setCell_same _ _ _ p3]]
          omega
end Go.Proofs.YtmnemjhkmllniaaGreatDoor
