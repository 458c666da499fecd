/- glebelaw4's awake. -/
import Derived.Test.YtmnemjhkmllniaaGreatDoorzGp
import Derived.Test.YtmnemjhkmllniaaGreatDoorzYp
import Derived.Test.YtmnemjhkmllniaaGreatDoorzRt
namespace Go.Proofs.YtmnemjhkmllniaaGreatDoor
open Go.ChangeShapes Go.WideShapes Go.RowKit Go.Sort

theorem parseG_some (s : ByteArray) (v x y : Nat) (w : World) (hg : Gl w) (hs : s.size < 4294967281) (h : rangV s.data.toList = some (v, x, y)) :
    Calls Tryz.prog 9 #[.string s] w fun e w' => e = .returned (.tuple #[rgV v x v y, .bool true]) ∧ Below w.heap.size w w' := by
  have := parseG_x s w hg hs; rw [h] at this; exact this
theorem parseG_none (s : ByteArray) (w : World) (hg : Gl w) (hs : s.size < 4294967281) (h : rangV s.data.toList = none) :
    Calls Tryz.prog 9 #[.string s] w fun e w' => e = .returned (.tuple #[.agg #[.int .i64 0, .int .u64 0, .int .u64 0, .int .i64 0, .int .u64 0, .int .u64 0], .bool false]) ∧ Below w.heap.size w w' := by
  have := parseG_x s w hg hs; rw [h] at this; exact this
theorem refPrintP_is (v : Int) (x : Nat) (n : Int) (w : World) (hx : x < 340282366920938463463374607431768211456) (s : ByteArray) (h : baS (tellP v x n) = s) :
    Calls Tryz.prog 23 #[.agg #[.int .i64 v, .int .u64 (hiQ x), .int .u64 (loQ x), .int .i64 n]] w fun e w' => e = .returned (.string s) ∧ Below w.heap.size w w' := h ▸ refPrintP_x v x n w hx
def aw4a : Bs := [49, 48, 46, 48, 46, 48, 46, 49, 45, 49, 48, 46, 48, 46, 48, 46, 54]
structure Aw4 (x y z q p : Nat) : Prop where
  hx : x < 340282366920938463463374607431768211456
  hy : y < 340282366920938463463374607431768211456
  hz : z < 340282366920938463463374607431768211456
  hp : p < 340282366920938463463374607431768211456
  pr : rangV [49, 48, 46, 48, 46, 48, 46, 49, 45, 49, 48, 46, 48, 46, 48, 46, 54] = some (4, x, y)
  no : rangV [49, 48, 46, 48, 46, 48, 46, 50, 45, 49, 48, 46, 48, 46, 48, 46, 49] = none
  te : tellR 4 x 4 y = [49, 48, 46, 48, 46, 48, 46, 49, 45, 49, 48, 46, 48, 46, 48, 46, 54]
  co : coverR 4 x 4 y = [(x, 0), (z, 1), (q, 1), (y, 0)]
  tp : tellP 4 z 31 = [49, 48, 46, 48, 46, 48, 46, 50, 47, 51, 49]
  pp : prefV [49, 48, 46, 48, 46, 48, 46, 48, 47, 50, 57] = some (4, p, 29)
  io : inR 4 x 4 y 4 p 29 = true
  ov : overR 4 x 4 y 4 x 4 y = true
  le : lessR 4 x 4 y 4 x 4 y = false
theorem aw4_is : Aw4 167772161 167772166 167772162 167772164 167772160 where
  hx := by decide
  hy := by decide
  hz := by decide
  hp := by decide
  pr := by decide +kernel
  no := by decide +kernel
  te := by decide +kernel
  co := by
    rw [coverR_yes (by decide +kernel)]
    exact coverX_F 167772166 10 _ _ (by decide +kernel)
  tp := by decide +kernel
  pp := by decide +kernel
  io := by decide +kernel
  ov := by decide +kernel
  le := by decide +kernel
theorem prefix29 (w : World) (p : Nat) (h : prefV [49, 48, 46, 48, 46, 48, 46, 48, 47, 50, 57] = some (4, p, 29)) :
    Calls Tryz.prog 22 #[.string ⟨#[49, 48, 46, 48, 46, 48, 46, 48, 47, 50, 57]⟩] w fun e w' => e = .returned (.tuple #[.agg #[.int .i64 4, .int .u64 (hiQ p), .int .u64 (loQ p), .int .i64 29], .bool true]) ∧ Below w.heap.size w w' := by
  have := refPrefix_of [49, 48, 46, 48, 46, 48, 46, 48] [50, 57] w (by decide) (by decide) (fun w => refParse_four _ 167772160 w (by decide) (by decide +kernel))
  simp only [List.cons_append, List.nil_append] at this
  rw [h] at this
  exact this
theorem ok0 (w : World) : Calls Tryz.prog 12 #[.agg #[.int .i64 0, .int .u64 0, .int .u64 0, .int .i64 0, .int .u64 0, .int .u64 0]] w fun e w' => e = .returned (.bool false) ∧ Below w.heap.size w w' := okRang_is 0 0 0 0 w false rfl
set_option maxHeartbeats 4000000 in
set_option maxRecDepth 100000 in
theorem awake4_x (w : World) (hg : Gl w) : Calls Tryz.prog 4 #[] w fun e w' => e = .returned (.bool true) ∧ Below w.heap.size w w' := by
  obtain ⟨x, y, z, q, p, ha⟩ : ∃ x y z q p, Aw4 x y z q p := ⟨_, _, _, _, _, aw4_is⟩
  have H := Lib.hid ha
  have HG := Lib.hid hg
  have HCov := Lib.hid (fun w hg => cover_x 4 x 4 y w hg ha.hx ha.hy)
  rw [ha.co] at HCov
  clear ha hg
  go_enter Tryz.func4, Tryz.ntmps4
  go_wp2_with fail
  refine (parseG_some _ 4 x y _ HG.out (by decide) H.out.pr).mono ?_
  rintro e w1 ⟨rfl, hb1⟩
  have G1 := HG.out.below hb1
  have B1 := hb1
  go_wp2_with fail
  refine (parseG_none _ _ (G1.alloc _) (by decide) H.out.no).mono ?_
  rintro e w2 ⟨rfl, hb2⟩
  have R2 := (rl_new w1 4 (hiQ x) (loQ x) 4 (hiQ y) (loQ y)).below hb2
  have B2 := below_next (ball B1) hb2
  have G2 := (G1.alloc (.cells #[.int .i64 4, .int .u64 (hiQ x), .int .u64 (loQ x), .int .i64 4, .int .u64 (hiQ y), .int .u64 (loQ y)] 30)).below hb2
  clear hb1 hb2 B1 G1
  obtain ⟨r0, r1, r2, r3, r4, r5, rl⟩ := id R2
  go_wp2_with fail
  refine (HCov.out _ (G2.alloc _).tz).mono ?_
  rintro e w3 ⟨hb3, pc, c, rfl, hc, hrow⟩
  obtain ⟨g, rfl, hg0, hgl, hR⟩ := hrow.resolve_left (fun h => by cases h.1)
  obtain ⟨q0, q1, q2, q3⟩ := hR 1 z 1 rfl
  have R3 := (R2.alloc _).below hb3
  have B3 := below_next (ball B2) hb3
  have G3 := (G2.alloc (.cells #[.int .i64 0, .int .u64 0, .int .u64 0, .int .i64 0, .int .u64 0, .int .u64 0] 30)).below hb3
  clear hR r0 r1 r2 r3 r4 r5 rl R2 B2 G2 hb3 HCov
  simp only [List.length_cons, List.length_nil] at hc
  simp only [List.length_cons, List.length_nil, Nat.one_mul, Nat.zero_add, Nat.reduceAdd] at q0 q1 q2 q3 ⊢
  go_wp2_with fail
  refine (prefix29 _ p H.out.pp).mono ?_
  rintro e w4 ⟨rfl, hb4⟩
  have R4 := R3.below hb4
  have B4 := below_next B3 hb4
  have G4 := G3.below hb4
  obtain ⟨kg, lg⟩ := keep hb4 g hgl
  replace q0 := (kg 4).trans q0
  replace q1 := (kg 5).trans q1
  replace q2 := (kg 6).trans q2
  replace q3 := (kg 7).trans q3
  clear R3 B3 G3 hb4 kg hgl
  obtain ⟨r0, r1, r2, r3, r4, r5, rl⟩ := id R4
  go_wp2_with fail
  refine (printG_is _ _ _ _ _ (G4.alloc _) H.out.hx H.out.hy ⟨#[49, 48, 46, 48, 46, 48, 46, 49, 45, 49, 48, 46, 48, 46, 48, 46, 54]⟩ (by rw [H.out.te]; rfl)).mono ?_
  rintro e w5 ⟨rfl, hb5⟩
  have hne : (w4.alloc (.cells #[.int .i64 4, .int .u64 (hiQ p), .int .u64 (loQ p), .int .i64 29] 34)).heap.size = w4.heap.size + 1 := World.size_alloc _ _
  have R5 := (R4.alloc _).below hb5
  have P5 := (pl_new w4 4 (hiQ p) (loQ p) 29).below hb5
  have B5 := below_next (ball B4) hb5
  obtain ⟨kg, lg5⟩ := keep (below_next (ball (Below.refl w4.heap.size w4)) hb5) g lg
  replace q0 := (kg 4).trans q0
  replace q1 := (kg 5).trans q1
  replace q2 := (kg 6).trans q2
  replace q3 := (kg 7).trans q3
  clear R4 B4 hb5 kg lg r0 r1 r2 r3 r4 r5 rl hne
  have hn31 : ((bitsV 4 : Int) - (1 : Nat)) = 31 := by rw [bitsV_4]; rfl
  rw [hn31] at q3
  clear hn31
  go_wp2_with fail
  refine (refPrintP_is _ _ _ _ H.out.hz ⟨#[49, 48, 46, 48, 46, 48, 46, 50, 47, 51, 49]⟩ (by rw [H.out.tp]; rfl)).mono ?_
  rintro e w6 ⟨rfl, hb6⟩
  have R6 := R5.below hb6
  have P6 := P5.below hb6
  have B6 := below_next B5 hb6
  clear R5 P5 B5 hb6 q0 q1 q2 q3
  obtain ⟨r0, r1, r2, r3, r4, r5, rl⟩ := id R6
  obtain ⟨p0, p1, p2, p3, pl⟩ := id P6
  go_wp2_with fail
  refine (inRang_is _ _ _ _ _ _ _ _ H.out.hx H.out.hy H.out.hp _ H.out.io).mono ?_
  rintro e w7 ⟨rfl, hb7⟩
  have R7 := R6.below hb7
  have B7 := below_next B6 hb7
  clear R6 P6 B6 hb7 r0 r1 r2 r3 r4 r5 rl p0 p1 p2 p3 pl
  obtain ⟨r0, r1, r2, r3, r4, r5, rl⟩ := id R7
  go_wp2_with fail
  refine (overRang_is _ _ _ _ _ _ _ _ _ _ H.out.ov).mono ?_
  rintro e w8 ⟨rfl, hb8⟩
  have R8 := R7.below hb8
  have B8 := below_next B7 hb8
  clear R7 B7 hb8 r0 r1 r2 r3 r4 r5 rl
  obtain ⟨r0, r1, r2, r3, r4, r5, rl⟩ := id R8
  go_wp2_with fail
  refine (lessRang_is _ _ _ _ _ _ _ _ _ _ H.out.le).mono ?_
  rintro e w9 ⟨rfl, hb9⟩
  have B9 := below_next B8 hb9
  clear R8 B8 hb9 r0 r1 r2 r3 r4 r5 rl
  go_wp2_with fail
  refine (ok0 _).mono ?_
  rintro e w10 ⟨rfl, hb10⟩
  have B10 := below_next B9 hb10
  clear B9 hb10
  go_wp2
  go_ret
  exact ⟨rfl, B10⟩
end Go.Proofs.YtmnemjhkmllniaaGreatDoor
