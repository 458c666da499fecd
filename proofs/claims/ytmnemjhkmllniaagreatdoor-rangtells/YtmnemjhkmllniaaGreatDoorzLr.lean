/- Arguments of the laws as they lie in memory: ranges. -/
import Derived.Test.YtmnemjhkmllniaaGreatDoorzLT2
import Derived.Test.YtmnemjhkmllniaaGreatDoorzGr
import Derived.Test.YtmnemjhkmllniaaGreatDoorzLRT
import Derived.Test.YtmnemjhkmllniaaGreatDoorzLd
namespace Go.Proofs.YtmnemjhkmllniaaGreatDoor
open Go.ChangeShapes Go.WideShapes Go.ChangeAt Go.RowKit Go.Joins

theorem cellsRg : Tryz.prog.cellsOf 30 = 6 := by kernel_rfl
theorem six_array {cs : Array Value} (h : cs.size = 6) : ∃ a b c d e f, cs = #[a, b, c, d, e, f] := by
  obtain ⟨l⟩ := cs
  match l, h with
  | [a, b, c, d, e, f], _ => exact ⟨a, b, c, d, e, f, rfl⟩
set_option maxRecDepth 100000 in
theorem rang_of {H : Type} {enc : TypeId × Value → H} {W : World} {b0 base : Nat} {held : Bool} {v : Value} {d : DataW H} {ps : List MemPlace}
    (hval : Value.okWide Tryz.prog W .any b0 30 v) (h : DataW.Trod enc Tryz.prog W base (fun _ => true) held 30 v d ps) : ∃ (a : Int) (x : Nat) (b : Int) (y : Nat), v = rgV a x b y ∧ x < 340282366920938463463374607431768211456 ∧ y < 340282366920938463463374607431768211456 := by
  obtain ⟨cs, rfl, hsz⟩ := okWide_struct Tryz.underlying30 hval
  obtain ⟨c0, c1, c2, c3, c4, c5, rfl⟩ := six_array (hsz.trans cellsRg)
  obtain ⟨fuel, hf⟩ := h
  obtain ⟨y0, y1, m, _, _, h0, h1⟩ := trod_struct2 Tryz.underlying30 hf
  rw [cells28] at h0
  rw [cells28] at h1
  obtain ⟨a, x, rfl, rfl, rfl, hx⟩ := addr_trod (c0 := c0) (c1 := c1) (c2 := c2) (by simpa [Value.cells] using h0)
  obtain ⟨b, y, rfl, rfl, rfl, hy⟩ := addr_trod (c0 := c3) (c1 := c4) (c2 := c5) (by simpa [Value.cells] using h1)
  exact ⟨a, x, b, y, rfl, hx, hy⟩
end Go.Proofs.YtmnemjhkmllniaaGreatDoor

/- RangTells: for every input the law returns true and leaves its arguments as they were; the library's variables hold what the program's text lays (tied).
   Its conditions: those of the given card alone. -/
namespace Go.Proofs.YtmnemjhkmllniaaGreatDoor.rangTells
open Go.Proofs.YtmnemjhkmllniaaGreatDoor
open Go.ChangeShapes Go.WideShapes Go.ChangeAt Go.RowKit Go.Joins
theorem gl {W : World} (h : laidMetH Tryz.prog Rows.rangTellsRow.laid W) (hS : W.ShapedOpen Tryz.prog) : Gl W := gl_of h hS (by kernel_rfl) (by kernel_rfl) (by kernel_rfl) (by kernel_rfl)
set_option maxRecDepth 100000 in
theorem contract (H : Type) (enc : TypeId × Value → H) (W : World) (base : Nat) (args : Array Value) (ds gs : List (DataW H)) (before : List MemPlace)
    (hval : ∀ (j : Nat) t v, Tryz.f3.params[j]? = some t → args[j]? = some v → Value.okWide Tryz.prog W .any base t v)
    (hW : DataW.Whole enc Tryz.prog Tryz.f3.params.toList Rows.rangTellsSpec.vars false W args.toList ds gs before) (hL : laidMetH Tryz.prog Rows.rangTellsRow.laid W) (hS : W.ShapedOpen Tryz.prog)
    (hsz0 : (DataW.weightsEach Tryz.prog (Tryz.f3.params.toList ++ (OpenSpec.ofChange Rows.rangTellsSpec).bare.plain.varTypes Tryz.prog) (ds ++ gs)).all (· ≤ reachBytes) = true) :
    Calls Tryz.prog 3 args W fun e W' => ∃ v, e = .returned v ∧ Rows.rangTellsSpec.post enc Tryz.prog Tryz.f3 false true false false W args v W' := by
  have hW' := hW
  obtain ⟨p, q, hA0, hV, rfl, hfz, hnd⟩ := hW
  have hA : DataW.TrodAll enc Tryz.prog W 0 (fun _ => true) true Tryz.f3.params.toList args.toList ds p := hA0
  rw [Tryz.params3] at hA hval
  obtain ⟨v0, vs0, d0, ds0, p0, q0, hargs, rfl, rfl, h0, r0⟩ := trodAll_cons hA
  obtain ⟨v1, vs1, d1, ds1, p1, q1, rfl, rfl, rfl, h1, r1⟩ := trodAll_cons r0
  obtain ⟨v2, vs2, d2, ds2, p2, q2, rfl, rfl, rfl, h2, r2⟩ := trodAll_cons r1
  obtain ⟨v3, vs3, d3, ds3, p3, q3, rfl, rfl, rfl, h3, r3⟩ := trodAll_cons r2
  obtain ⟨v4, vs4, d4, ds4, p4, q4, rfl, rfl, rfl, h4, r4⟩ := trodAll_cons r3
  obtain ⟨v5, vs5, d5, ds5, p5, q5, rfl, rfl, rfl, h5, r5⟩ := trodAll_cons r4
  obtain ⟨v6, vs6, d6, ds6, p6, q6, rfl, rfl, rfl, h6, r6⟩ := trodAll_cons r5
  obtain ⟨v7, vs7, d7, ds7, p7, q7, rfl, rfl, rfl, h7, r7⟩ := trodAll_cons r6
  obtain ⟨v8, vs8, d8, ds8, p8, q8, rfl, rfl, rfl, h8, r8⟩ := trodAll_cons r7
  obtain ⟨rfl, rfl, rfl⟩ := trodAll_nil r8
  obtain rfl : args = #[v0, v1, v2, v3, v4, v5, v6, v7, v8] := by cases args; simp_all
  obtain ⟨rfl, rfl⟩ := trodVars_none hV
  have G0 := bytes_of (hval 0 22 v0 rfl rfl) h0
  obtain ⟨a0, l0, c0, rfl, hr0⟩ := G0
  obtain ⟨n1, rfl, rfl, rfl, wn1⟩ := open_int Tryz.underlying3 (hval 1 3 v1 rfl rfl) h1
  obtain ⟨n2, rfl, rfl, rfl, wn2⟩ := open_int Tryz.underlying23 (hval 2 23 v2 rfl rfl) h2
  obtain ⟨n3, rfl, rfl, rfl, wn3⟩ := open_int Tryz.underlying23 (hval 3 23 v3 rfl rfl) h3
  obtain ⟨n4, rfl, rfl, rfl, wn4⟩ := open_int Tryz.underlying23 (hval 4 23 v4 rfl rfl) h4
  have G5 := ints_of (hval 5 24 v5 rfl rfl) h5
  obtain ⟨a5, n5, c5, rfl, hr5, hn5⟩ := G5
  have G6 := rang_of (hval 6 30 v6 rfl rfl) h6
  obtain ⟨a6, x6, b6, y6, rfl, hx6⟩ := G6
  obtain ⟨n7, rfl, rfl, rfl, wn7⟩ := open_int Tryz.underlying23 (hval 7 23 v7 rfl rfl) h7
  obtain ⟨n8, rfl, rfl, rfl, wn8⟩ := open_int Tryz.underlying3 (hval 8 3 v8 rfl rfl) h8
  refine (rtells_walk a0 l0 c0 n1 n2 n3 n4 a5 n5 c5 a6 x6 b6 y6 n7 n8 W (gl hL hS) hr0 ⟨(bounds_u64 wn2).1, Int.lt_of_le_of_lt (bounds_u64 wn2).2 (by decide)⟩ ⟨(bounds_u64 wn3).1, Int.lt_of_le_of_lt (bounds_u64 wn3).2 (by decide)⟩ ⟨(bounds_u64 wn4).1, Int.lt_of_le_of_lt (bounds_u64 wn4).2 (by decide)⟩ hr5 hn5 hx6 ⟨(bounds_u64 wn7).1, Int.lt_of_le_of_lt (bounds_u64 wn7).2 (by decide)⟩).mono fun e W' ⟨he, hb⟩ => ?_
  subst he
  exact ⟨_, rfl, law_post hW' rfl (by kernel_rfl) Tryz.underlying4 rfl laidOut (by rw [Tryz.params3]; exact of_decide_eq_true (by kernel_rfl)) hb⟩
theorem laid_met (os : Os) : laidMet Tryz.prog Rows.rangTellsRow.laid ((World.laidAll Tryz.prog os Rows.rangTellsRow.laid).forCall (fun _ _ => 0) ⟨#[], #[.slice none 0 0, .int .i64 0, .int .u64 0, .int .u64 0, .int .u64 0, .slice none 0 0, .agg #[.int .i64 0, .int .u64 0, .int .u64 0, .int .i64 0, .int .u64 0, .int .u64 0], .int .u64 0, .int .i64 0], []⟩).memory :=
  laidMet_laidAll #[.slice none 0 0, .int .i64 0, .int .u64 0, .int .u64 0, .int .u64 0, .slice none 0 0, .agg #[.int .i64 0, .int .u64 0, .int .u64 0, .int .i64 0, .int .u64 0, .int .u64 0], .int .u64 0, .int .i64 0] (by kernel_rfl) (by kernel_rfl)
theorem reads (os : Os) {H : Type} (enc : TypeId × Value → H) : ∃ places, DataW.whole enc Tryz.prog ((World.laidAll Tryz.prog os Rows.rangTellsRow.laid).forCall (fun _ _ => 0) ⟨#[], #[.slice none 0 0, .int .i64 0, .int .u64 0, .int .u64 0, .int .u64 0, .slice none 0 0, .agg #[.int .i64 0, .int .u64 0, .int .u64 0, .int .i64 0, .int .u64 0, .int .u64 0], .int .u64 0, .int .i64 0], []⟩).memory Tryz.f3.params.toList Rows.rangTellsSpec.vars false (#[.slice none 0 0, .int .i64 0, .int .u64 0, .int .u64 0, .int .u64 0, .slice none 0 0, .agg #[.int .i64 0, .int .u64 0, .int .u64 0, .int .i64 0, .int .u64 0, .int .u64 0], .int .u64 0, .int .i64 0] : Array Value).toList 8 = some ([.nil, .lit (.int .i64 0), .lit (.int .u64 0), .lit (.int .u64 0), .lit (.int .u64 0), .nil, .agg [.agg [.lit (.int .i64 0), .agg [.lit (.int .u64 0), .lit (.int .u64 0)]], .agg [.lit (.int .i64 0), .agg [.lit (.int .u64 0), .lit (.int .u64 0)]]], .lit (.int .u64 0), .lit (.int .i64 0)], [], places) :=
  ⟨[], by kernel_rfl⟩
set_option maxRecDepth 100000 in
theorem lifted (os : Os) (started : os.Started) (H : Type) (enc : TypeId × Value → H) (F : Stop.Interp) :
    ReturnsInHanded {} Tryz.checked os 3 .any ((OpenSpec.ofChange Rows.rangTellsSpec).preRow enc Tryz.prog Tryz.f3 Rows.rangTellsRow.domain false Rows.rangTellsRow.laid) (((OpenSpec.ofChange Rows.rangTellsSpec).at F).post enc Tryz.prog Tryz.f3 false true false false) := by
  obtain ⟨places, hx⟩ := reads os enc
  refine returnsInHanded_of_row (C := Tryz.checked) (s := OpenSpec.ofChange Rows.rangTellsSpec) own started (by kernel_rfl) Tryz.func3
    (witness_row_at (enc := enc) (C := Tryz.checked) false (World.laidAll Tryz.prog os Rows.rangTellsRow.laid) #[.slice none 0 0, .int .i64 0, .int .u64 0, .int .u64 0, .int .u64 0, .slice none 0 0, .agg #[.int .i64 0, .int .u64 0, .int .u64 0, .int .i64 0, .int .u64 0, .int .u64 0], .int .u64 0, .int .i64 0] (World.laidAll_os _ _ _) (by kernel_rfl) (by kernel_rfl) (by kernel_rfl)
      (OpenSpec.preRow_of_cond 8 hx (by kernel_rfl) (fun k hk => by cases hk) (by kernel_rfl) (laid_met os))) ?_
  intro W base args ds gs before hval hW _ _ hsz hL hS _
  exact contract H enc W base args ds gs before hval hW hL hS hsz
theorem said : Rows.RangTellsSaid :=
  OpenClaim.holds_of_cond 3 Tryz.f3 rfl rfl rfl rfl rfl rfl rfl ⟨rfl, rfl, rfl, rfl, rfl⟩ rfl rfl rfl rfl rfl (by kernel_rfl) Tryz.func3 (by kernel_rfl)
    (of_decide_eq_true (by kernel_rfl)) (by unfold Func.isWrapper; first | (rw [if_pos (by decide +kernel)]; kernel_rfl) | (rw [if_neg (by decide +kernel)]; exact ⟨rfl, rfl⟩))
    (fun os started H enc _ F => by rw [OpenClaim.pre_eq_preRow]; exact lifted os started H enc F)
theorem plain (f : FuncId) (fn : Func) (hf : Tryz.pinned.checked.prog.funcNamed Rows.rangTellsRow.func = some f) (hfn : Tryz.pinned.checked.prog.funcs[f]? = some fn) :
    true = Tryz.pinned.checked.prog.looks [] ∧ ∀ (j : Nat) t, fn.params[j]? = some t → Tryz.pinned.checked.prog.wantsStandIn t = false := by
  obtain rfl : f = 3 := Option.some.inj ((show Tryz.prog.funcNamed Rows.rangTellsRow.func = some 3 by kernel_rfl).symm.trans hf) |>.symm
  obtain rfl : fn = Tryz.f3 := (Option.some.inj (Tryz.func3.symm.trans hfn)).symm
  refine ⟨by kernel_rfl, fun j t ht => ?_⟩
  rw [Tryz.params3] at ht
  have hm : ∀ u ∈ (#[22, 3, 23, 23, 23, 24, 30, 23, 3] : Array Nat), Tryz.prog.wantsStandIn u = false := of_decide_eq_true (by kernel_rfl)
  exact hm t (Array.mem_of_getElem? ht)
theorem card : Rows.RangTellsCardSaid :=
  Claim7.holds_tied_plain_at .later _ _ _ _ _ said (fun _ h => by cases h) (by kernel_rfl) (fun _ h => by cases h) rangTells_row_tie rfl ⟨rfl, rfl⟩ (by kernel_rfl) rfl plain (by kernel_rfl)
end Go.Proofs.YtmnemjhkmllniaaGreatDoor.rangTells
