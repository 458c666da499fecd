/- The laws' own small check 'awake', and what Parse, Print and Next answer at addresses that lie in memory. -/
import Derived.Test.YtmlhlidjgiofkaaDoorTp
namespace Go.Proofs.YtmlhlidjgiofkaaDoor
open Go.ChangeShapes Go.WideShapes Go.RowKit Go.Sort

/-- An address lies in block b. -/
structure Ad (w : World) (b : Nat) (v : Int) (x : Nat) : Prop where
  c0 : w.cell? ⟨b, 0, none⟩ = some (.int .i64 v)
  c1 : w.cell? ⟨b, 1, none⟩ = some (.int .u64 (hiQ x))
  c2 : w.cell? ⟨b, 2, none⟩ = some (.int .u64 (loQ x))
  lt : b < w.heap.size
theorem Ad.below {w w' : World} {b : Nat} {v : Int} {x : Nat} (h : Ad w b v x) (hb : Below w.heap.size w w') : Ad w' b v x := by
  obtain ⟨k, l⟩ := keep hb b h.lt
  exact ⟨(k 0).trans h.c0, (k 1).trans h.c1, (k 2).trans h.c2, l⟩
theorem Ad.alloc {w : World} {b : Nat} {v : Int} {x : Nat} (h : Ad w b v x) (o : Obj) : Ad (w.alloc o) b v x := h.below ((Below.refl _ _).alloc (Nat.le_refl _) _)
theorem ad_new (w : World) (v : Int) (x : Nat) : Ad (w.alloc (.cells #[.int .i64 v, .int .u64 (hiQ x), .int .u64 (loQ x)] 28)) w.heap.size v x :=
  ⟨by simp [go_sem], by simp [go_sem], by simp [go_sem], by simp⟩
theorem parse_some (s : ByteArray) (v x : Nat) (w : World) (hg : Gl w) (hs : s.size < 4294967281) (h : parseV s.data.toList = some (v, x)) :
    Calls Tryd.prog 6 #[.string s] w fun e w' => e = .returned (.tuple #[.agg #[.int .i64 v, .int .u64 (hiQ x), .int .u64 (loQ x)], .bool true]) ∧ Below w.heap.size w w' := by
  have := parse_x s w hg hs; rw [h] at this; exact this
theorem parse_none (s : ByteArray) (w : World) (hg : Gl w) (hs : s.size < 4294967281) (h : parseV s.data.toList = none) :
    Calls Tryd.prog 6 #[.string s] w fun e w' => e = .returned (.tuple #[.agg #[.int .i64 0, .int .u64 0, .int .u64 0], .bool false]) ∧ Below w.heap.size w w' := by
  have := parse_x s w hg hs; rw [h] at this; exact this
theorem parse_6 (s : ByteArray) (x : Nat) (w : World) (hg : Gl w) (hs : s.size < 4294967281) (h : parseV s.data.toList = some (6, x)) :
    Calls Tryd.prog 6 #[.string s] w fun e w' => e = .returned (.tuple #[.agg #[.int .i64 6, .int .u64 (hiQ x), .int .u64 (loQ x)], .bool true]) ∧ Below w.heap.size w w' := parse_some s 6 x w hg hs h
theorem parse_4 (s : ByteArray) (x : Nat) (w : World) (hg : Gl w) (hs : s.size < 4294967281) (h : parseV s.data.toList = some (4, x)) :
    Calls Tryd.prog 6 #[.string s] w fun e w' => e = .returned (.tuple #[.agg #[.int .i64 4, .int .u64 (hiQ x), .int .u64 (loQ x)], .bool true]) ∧ Below w.heap.size w w' := parse_some s 4 x w hg hs h
theorem print_is (v : Int) (x : Nat) (w : World) (hg : Gl w) (hx : x < 340282366920938463463374607431768211456) (s : ByteArray) (h : baS (tellV v x) = s) :
    Calls Tryd.prog 7 #[.agg #[.int .i64 v, .int .u64 (hiQ x), .int .u64 (loQ x)]] w fun e w' => e = .returned (.string s) ∧ Below w.heap.size w w' := h ▸ print_x v x w hg hx
theorem print_none5 (w : World) (hg : Gl w) :
    Calls Tryd.prog 7 #[.agg #[.int .i64 5, .int .u64 0, .int .u64 0]] w fun e w' => e = .returned (.string ⟨#[]⟩) ∧ Below w.heap.size w w' := print_x 5 0 w hg (by decide)
theorem next_4 (x : Nat) (w : World) (hx : x < 4294967295) :
    Calls Tryd.prog 10 #[.agg #[.int .i64 4, .int .u64 (hiQ x), .int .u64 (loQ x)]] w fun e w' => e = .returned (.tuple #[.agg #[.int .i64 4, .int .u64 (hiQ (x + 1)), .int .u64 (loQ (x + 1))], .bool true]) ∧ Below w.heap.size w w' := by
  have hb : nextB 4 x = true := by simp [nextB, okV, addB]; omega
  have := next_x 4 x w (by omega)
  rw [show nextV 4 x = 4 by simp [nextV, hb], show nextX 4 x = x + 1 by simp [nextX, hb], hb] at this
  exact this
theorem lessA_is (v : Int) (x : Nat) (u : Int) (y : Nat) (w : World) (b : Bool) (h : ltA v x u y = b) :
    Calls Tryd.prog 11 #[.agg #[.int .i64 v, .int .u64 (hiQ x), .int .u64 (loQ x)], .agg #[.int .i64 u, .int .u64 (hiQ y), .int .u64 (loQ y)]] w fun e w' => e = .returned (.bool b) ∧ Below w.heap.size w w' := h ▸ lessA_x v x u y w
set_option maxHeartbeats 4000000 in
set_option maxRecDepth 100000 in
theorem awake_x (w : World) (hg : Gl w) : Calls Tryd.prog 8 #[] w fun e w' => e = .returned (.bool true) ∧ Below w.heap.size w w' := by
  obtain ⟨x1, hx1, h1, t1⟩ : ∃ x, x < 340282366920938463463374607431768211456 ∧ parseV [50, 48, 48, 49, 58, 68, 66, 56, 58, 48, 58, 48, 58, 58, 49] = some (6, x) ∧ tellV 6 x = [50, 48, 48, 49, 58, 100, 98, 56, 58, 58, 49] := ⟨42540766411282592856903984951653826561, by decide, by decide +kernel, by decide +kernel⟩
  obtain ⟨x2, hx2, h2, t2⟩ : ∃ x, x < 340282366920938463463374607431768211456 ∧ parseV [58, 58, 102, 102, 102, 102, 58, 49, 48, 46, 48, 46, 48, 46, 49] = some (6, x) ∧ tellV 6 x = [58, 58, 102, 102, 102, 102, 58, 97, 48, 48, 58, 49] := ⟨281470849515521, by decide, by decide +kernel, by decide +kernel⟩
  obtain ⟨x3, hx3, h3, t3⟩ : ∃ x, x < 4294967295 ∧ parseV [49, 48, 46, 48, 46, 48, 46, 50, 53, 53] = some (4, x) ∧ tellV 4 (x + 1) = [49, 48, 46, 48, 46, 49, 46, 48] := ⟨167772415, by decide, by decide +kernel, by decide +kernel⟩
  have h4 : parseV [49, 48, 46, 48, 46, 48, 46, 48, 49] = none := by decide +kernel
  have h5 : parseV [49, 58, 58, 50, 58, 58, 51] = none := by decide +kernel
  have H1 := Lib.hid (And.intro hx1 (And.intro h1 t1))
  have H2 := Lib.hid (And.intro hx2 (And.intro h2 t2))
  have H3 := Lib.hid (And.intro hx3 (And.intro h3 t3))
  have H4 := Lib.hid h4
  have H5 := Lib.hid h5
  have HG := Lib.hid hg
  clear hx1 h1 t1 hx2 h2 t2 hx3 h3 t3 h4 h5 hg
  go_enter Tryd.func8, Tryd.ntmps8
  go_wp2_with fail
  refine (parse_6 _ x1 _ HG.out (by decide) H1.out.2.1).mono ?_
  rintro e w1 ⟨rfl, hb1⟩
  have G1 := HG.out.below hb1
  go_wp2_with fail
  refine (parse_6 _ x2 _ (G1.alloc _) (by decide) H2.out.2.1).mono ?_
  rintro e w2 ⟨rfl, hb2⟩
  have B2 := below_next (ball hb1) hb2
  have G2 := (G1.alloc _).below hb2
  have A1 := (ad_new w1 6 x1).below hb2
  clear hb1 G1 hb2
  go_wp2_with fail
  refine (parse_4 _ x3 _ (G2.alloc _) (by decide) H3.out.2.1).mono ?_
  rintro e w3 ⟨rfl, hb3⟩
  have B3 := below_next (ball B2) hb3
  have G3 := (G2.alloc _).below hb3
  replace A1 := (A1.alloc _).below hb3
  have A2 := (ad_new w2 6 x2).below hb3
  clear B2 G2 hb3
  go_wp2_with fail
  refine (parse_none _ _ (G3.alloc _) (by decide) H4.out).mono ?_
  rintro e w4 ⟨rfl, hb4⟩
  have B4 := below_next (ball B3) hb4
  have G4 := (G3.alloc _).below hb4
  replace A1 := (A1.alloc _).below hb4
  replace A2 := (A2.alloc _).below hb4
  have A3 := (ad_new w3 4 x3).below hb4
  clear B3 G3 hb4
  go_wp2_with fail
  refine (parse_none _ _ (G4.alloc _) (by decide) H5.out).mono ?_
  rintro e w5 ⟨rfl, hb5⟩
  have B5 := below_next (ball B4) hb5
  have G5 := (G4.alloc _).below hb5
  replace A1 := (A1.alloc _).below hb5
  replace A2 := (A2.alloc _).below hb5
  replace A3 := (A3.alloc _).below hb5
  clear B4 G4 hb5
  obtain ⟨a30, a31, a32, l3⟩ := id A3
  go_wp2_with fail
  refine (next_4 x3 _ H3.out.1).mono ?_
  rintro e w6 ⟨rfl, hb6⟩
  have B6 := below_next (ball B5) hb6
  have G6 := (G5.alloc _).below hb6
  replace A1 := (A1.alloc _).below hb6
  replace A2 := (A2.alloc _).below hb6
  replace A3 := (A3.alloc _).below hb6
  clear B5 G5 hb6 a30 a31 a32 l3
  obtain ⟨a0, a1, a2, l1⟩ := id A1
  go_wp2_with fail
  refine (print_is 6 x1 _ (G6.alloc _) H1.out.1 ⟨#[50, 48, 48, 49, 58, 100, 98, 56, 58, 58, 49]⟩ (by rw [H1.out.2.2]; rfl)).mono ?_
  rintro e w7 ⟨rfl, hb7⟩
  have B7 := below_next (ball B6) hb7
  have G7 := (G6.alloc _).below hb7
  replace A1 := (A1.alloc _).below hb7
  replace A2 := (A2.alloc _).below hb7
  replace A3 := (A3.alloc _).below hb7
  have A4 := (ad_new w6 4 (x3 + 1)).below hb7
  clear B6 G6 hb7 a0 a1 a2 l1
  obtain ⟨a0, a1, a2, l1⟩ := id A2
  go_wp2_with fail
  refine (print_is 6 x2 _ G7 H2.out.1 ⟨#[58, 58, 102, 102, 102, 102, 58, 97, 48, 48, 58, 49]⟩ (by rw [H2.out.2.2]; rfl)).mono ?_
  rintro e w8 ⟨rfl, hb8⟩
  have B8 := below_next B7 hb8
  have G8 := G7.below hb8
  replace A1 := A1.below hb8
  replace A3 := A3.below hb8
  replace A4 := A4.below hb8
  clear B7 G7 hb8 a0 a1 a2 l1 A2
  obtain ⟨a0, a1, a2, l1⟩ := id A4
  go_wp2_with fail
  refine (print_is 4 (x3 + 1) _ G8 (by have := H3.out.1; omega) ⟨#[49, 48, 46, 48, 46, 49, 46, 48]⟩ (by rw [H3.out.2.2]; rfl)).mono ?_
  rintro e w9 ⟨rfl, hb9⟩
  have B9 := below_next B8 hb9
  have G9 := G8.below hb9
  replace A1 := A1.below hb9
  replace A3 := A3.below hb9
  clear B8 G8 hb9 a0 a1 a2 l1 A4
  obtain ⟨a0, a1, a2, l1⟩ := A1
  obtain ⟨b0, b1, b2, l2⟩ := A3
  go_wp2_with fail
  refine (lessA_is 4 x3 6 x1 _ true rfl).mono ?_
  rintro e w10 ⟨rfl, hb10⟩
  go_wp2_with fail
  refine (bits_6 _).mono ?_
  rintro e w11 ⟨rfl, hb11⟩
  go_wp2_with fail
  refine (print_none5 _ ((G9.below hb10).below hb11)).mono ?_
  rintro e w12 ⟨rfl, hb12⟩
  go_wp2
  go_ret
  exact ⟨rfl, below_next (below_next (below_next B9 hb10) hb11) hb12⟩
end Go.Proofs.YtmlhlidjgiofkaaDoor
