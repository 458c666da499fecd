/- Arguments of the laws as they lie in memory: rows of numbers and of bytes, addresses, prefixes. -/
import Derived.Test.YtkmbfnjmgimlhaaGreatDoorzLT1
import Derived.Test.YtkmbfnjmgimlhaaGreatDoorzLaw
import Derived.Test.YtkmbfnjmgimlhaaGreatDoorzLPTells
import Derived.Test.YtkmbfnjmgimlhaaGreatDoorzLd
namespace Go.Proofs.YtkmbfnjmgimlhaaGreatDoor
open Go.ChangeShapes Go.WideShapes Go.ChangeAt Go.RowKit Go.Joins

set_option maxRecDepth 100000 in
theorem ints_of {H : Type} {enc : TypeId × Value → H} {W : World} {b0 base : Nat} {held : Bool} {v : Value} {d : DataW H} {ps : List MemPlace}
    (hval : Value.okWide Tryz.prog W .any b0 24 v) (h : DataW.Trod enc Tryz.prog W base (fun _ => true) held 24 v d ps) : ∃ a n c, v = .slice a n c ∧ IntsAt W a n ∧ n ≤ 9223372036854775807 := by
  obtain ⟨a, n, c, rfl⟩ := okWide_slice Tryz.underlying24 hval
  obtain ⟨fuel, hf⟩ := h
  refine ⟨a, n, c, rfl, ?_⟩
  rcases open_ints Tryz.underlying24 Tryz.underlying3 (by kernel_rfl) hf with ⟨hcs, _⟩ | ⟨a', len, cap, zs, hcs, _, hl, hm, hz, _, hc, _⟩
  · simp [Value.cells] at hcs
    obtain ⟨rfl, rfl, rfl⟩ := hcs
    exact ⟨fun j hj => absurd hj (Nat.not_lt_zero _), by omega⟩
  · simp [Value.cells] at hcs
    obtain ⟨rfl, rfl, rfl⟩ := hcs
    refine ⟨fun j hj => ?_, Nat.le_trans hl (Nat.le_trans hm (by decide))⟩
    have hj' : j < zs.length := by rw [hz]; simp; omega
    have e := hc j hj'
    exact ⟨a', _, rfl, by have := World.block_lt_of_cell? _ _ e; rwa [add_block] at this, e⟩
theorem u8_of {n : Int} (h : (Lit.int .u8 n).wf = true) : 0 ≤ n ∧ n < 256 := by
  have := bounds_u8 h
  omega
set_option maxRecDepth 100000 in
theorem bytes_of {H : Type} {enc : TypeId × Value → H} {W : World} {b0 base : Nat} {held : Bool} {v : Value} {d : DataW H} {ps : List MemPlace}
    (hval : Value.okWide Tryz.prog W .any b0 22 v) (h : DataW.Trod enc Tryz.prog W base (fun _ => true) held 22 v d ps) : ∃ (a : Option Addr) (l : Bs) (c : Nat), v = .slice a l.length c ∧ BytesAt W a l := by
  obtain ⟨a, n, c, rfl⟩ := okWide_slice Tryz.underlying22 hval
  obtain ⟨fuel, hf⟩ := h
  rcases open_ints Tryz.underlying22 Tryz.underlying5 (by kernel_rfl) hf with ⟨hcs, _⟩ | ⟨a', len, cap, zs, hcs, _, hl, hm, hz, _, hc, hw⟩
  · simp [Value.cells] at hcs
    obtain ⟨rfl, rfl, rfl⟩ := hcs
    exact ⟨none, [], 0, rfl, fun j b hj => by simp at hj⟩
  · simp [Value.cells] at hcs
    obtain ⟨rfl, rfl, rfl⟩ := hcs
    simp at hz
    have hlen : ((zs.take n).map (fun z => UInt8.ofNat z.toNat)).length = n := by simp; omega
    refine ⟨some a', (zs.take n).map (fun z => UInt8.ofNat z.toNat), c, by rw [hlen], fun j b hj => ?_⟩
    have hjn : j < n := by have := (List.getElem?_eq_some_iff.1 hj).1; rw [hlen] at this; exact this
    have hj' : j < zs.length := by omega
    have e := hc j hj'
    have hb := u8_of (hw _ (List.getElem_mem hj'))
    have hg : zs.getD j 0 = zs[j]'hj' := by simp [List.getD, List.getElem?_eq_getElem hj']
    rw [hg] at e
    have hbb : b = UInt8.ofNat (zs[j]'hj').toNat := by
      rw [List.getElem?_map, List.getElem?_take_of_lt hjn, List.getElem?_eq_getElem hj'] at hj
      simpa using hj.symm
    refine ⟨a', rfl, by have := World.block_lt_of_cell? _ _ e; rwa [add_block] at this, ?_⟩
    rw [e, hbb]
    have : ((UInt8.ofNat (zs[j]'hj').toNat).toNat : Int) = zs[j]'hj' := by simp; omega
    rw [this]
theorem cells28 : Tryz.prog.cellsOf 28 = 3 := by kernel_rfl
theorem cells26 : Tryz.prog.cellsOf 26 = 2 := by kernel_rfl
theorem cells30 : Tryz.prog.cellsOf 30 = 4 := by kernel_rfl
theorem cells3 : Tryz.prog.cellsOf 3 = 1 := by kernel_rfl
theorem cells23 : Tryz.prog.cellsOf 23 = 1 := by kernel_rfl
set_option maxRecDepth 100000 in
theorem quad_trod {H : Type} {enc : TypeId × Value → H} {W : World} {base n : Nat} {sp : Nat → Bool} {held : Bool} {c1 c2 : Value} {y : DataW H × List MemPlace}
    (h : DataW.trod enc Tryz.prog W base sp held n 26 [c1, c2] = some y) : ∃ x : Nat, c1 = .int .u64 (hiQ x) ∧ c2 = .int .u64 (loQ x) ∧ x < 340282366920938463463374607431768211456 := by
  obtain ⟨y0, y1, m, _, _, h0, h1⟩ := trod_struct2 Tryz.underlying26 h
  rw [cells23] at h0 h1
  obtain ⟨a0, e0, _, w0⟩ := DataW.trod_int Tryz.underlying23 h0
  obtain ⟨a1, e1, _, w1⟩ := DataW.trod_int Tryz.underlying23 h1
  simp at e0 e1
  subst e0 e1
  obtain ⟨x, hx, rfl, rfl⟩ := q_of a0 a1 (bounds_u64 w0).1 (bounds_u64 w0).2 (bounds_u64 w1).1 (bounds_u64 w1).2
  exact ⟨x, rfl, rfl, hx⟩
set_option maxRecDepth 100000 in
theorem addr_trod {H : Type} {enc : TypeId × Value → H} {W : World} {base n : Nat} {sp : Nat → Bool} {held : Bool} {c0 c1 c2 : Value} {y : DataW H × List MemPlace}
    (h : DataW.trod enc Tryz.prog W base sp held n 28 [c0, c1, c2] = some y) : ∃ (v : Int) (x : Nat), c0 = .int .i64 v ∧ c1 = .int .u64 (hiQ x) ∧ c2 = .int .u64 (loQ x) ∧ x < 340282366920938463463374607431768211456 := by
  obtain ⟨y0, y1, m, _, _, h0, h1⟩ := trod_struct2 Tryz.underlying28 h
  rw [cells3] at h0
  rw [cells26] at h1
  obtain ⟨a0, e0, _, _⟩ := DataW.trod_int Tryz.underlying3 h0
  simp at e0
  subst e0
  obtain ⟨x, e1, e2, hx⟩ := quad_trod (c1 := c1) (c2 := c2) (by simpa using h1)
  exact ⟨a0, x, rfl, e1, e2, hx⟩
set_option maxRecDepth 100000 in
theorem addr_of {H : Type} {enc : TypeId × Value → H} {W : World} {b0 base : Nat} {held : Bool} {v : Value} {d : DataW H} {ps : List MemPlace}
    (hval : Value.okWide Tryz.prog W .any b0 28 v) (h : DataW.Trod enc Tryz.prog W base (fun _ => true) held 28 v d ps) : ∃ (a : Int) (x : Nat), v = .agg #[.int .i64 a, .int .u64 (hiQ x), .int .u64 (loQ x)] ∧ x < 340282366920938463463374607431768211456 := by
  obtain ⟨cs, rfl, hsz⟩ := okWide_struct Tryz.underlying28 hval
  obtain ⟨c0, c1, c2, rfl⟩ := array3 (hsz.trans cells28)
  obtain ⟨fuel, hf⟩ := h
  obtain ⟨a, x, rfl, rfl, rfl, hx⟩ := addr_trod (c0 := c0) (c1 := c1) (c2 := c2) (by simpa [Value.cells] using hf)
  exact ⟨a, x, rfl, hx⟩
set_option maxRecDepth 100000 in
theorem pref_of {H : Type} {enc : TypeId × Value → H} {W : World} {b0 base : Nat} {held : Bool} {v : Value} {d : DataW H} {ps : List MemPlace}
    (hval : Value.okWide Tryz.prog W .any b0 30 v) (h : DataW.Trod enc Tryz.prog W base (fun _ => true) held 30 v d ps) : ∃ (a : Int) (x : Nat) (n : Int), v = .agg #[.int .i64 a, .int .u64 (hiQ x), .int .u64 (loQ x), .int .i64 n] ∧ x < 340282366920938463463374607431768211456 := by
  obtain ⟨cs, rfl, hsz⟩ := okWide_struct Tryz.underlying30 hval
  obtain ⟨c0, c1, c2, c3, rfl⟩ := array4 (hsz.trans cells30)
  obtain ⟨fuel, hf⟩ := h
  obtain ⟨y0, y1, m, _, _, h0, h1⟩ := trod_struct2 Tryz.underlying30 hf
  rw [cells28] at h0
  rw [cells3] at h1
  obtain ⟨a, x, rfl, rfl, rfl, hx⟩ := addr_trod (c0 := c0) (c1 := c1) (c2 := c2) (by simpa [Value.cells] using h0)
  obtain ⟨n0, e0, _, _⟩ := DataW.trod_int Tryz.underlying3 h1
  simp [Value.cells] at e0
  subst e0
  exact ⟨a, x, n0, rfl, hx⟩
end Go.Proofs.YtkmbfnjmgimlhaaGreatDoor

/- PrefTells: for every input the law returns true and leaves its arguments as they were; the library's variables hold what the program's text lays (tied).
   Its conditions: those of the given card alone. -/
namespace Go.Proofs.YtkmbfnjmgimlhaaGreatDoor.prefTells
open Go.Proofs.YtkmbfnjmgimlhaaGreatDoor
open Go.ChangeShapes Go.WideShapes Go.ChangeAt Go.RowKit Go.Joins
theorem gl {W : World} (h : laidMetH Tryz.prog Rows.prefTellsRow.laid W) (hS : W.ShapedOpen Tryz.prog) : Gl W := gl_of h hS (by kernel_rfl) (by kernel_rfl) (by kernel_rfl) (by kernel_rfl)
set_option maxRecDepth 100000 in
theorem contract (H : Type) (enc : TypeId × Value → H) (W : World) (base : Nat) (args : Array Value) (ds gs : List (DataW H)) (before : List MemPlace)
    (hval : ∀ (j : Nat) t v, Tryz.f3.params[j]? = some t → args[j]? = some v → Value.okWide Tryz.prog W .any base t v)
    (hW : DataW.Whole enc Tryz.prog Tryz.f3.params.toList Rows.prefTellsSpec.vars false W args.toList ds gs before) (hL : laidMetH Tryz.prog Rows.prefTellsRow.laid W) (hS : W.ShapedOpen Tryz.prog)
    (hsz0 : (DataW.weightsEach Tryz.prog (Tryz.f3.params.toList ++ (OpenSpec.ofChange Rows.prefTellsSpec).bare.plain.varTypes Tryz.prog) (ds ++ gs)).all (· ≤ reachBytes) = true) :
    Calls Tryz.prog 3 args W fun e W' => ∃ v, e = .returned v ∧ Rows.prefTellsSpec.post enc Tryz.prog Tryz.f3 false true false false W args v W' := by
  have hW' := hW
  obtain ⟨p, q, hA0, hV, rfl, hfz, hnd⟩ := hW
  have hA : DataW.TrodAll enc Tryz.prog W 0 (fun _ => true) true Tryz.f3.params.toList args.toList ds p := hA0
  rw [Tryz.params3] at hA hval
  obtain ⟨v0, vs0, d0, ds0, p0, q0, hargs, rfl, rfl, h0, r0⟩ := trodAll_cons hA
  obtain ⟨v1, vs1, d1, ds1, p1, q1, rfl, rfl, rfl, h1, r1⟩ := trodAll_cons r0
  obtain ⟨v2, vs2, d2, ds2, p2, q2, rfl, rfl, rfl, h2, r2⟩ := trodAll_cons r1
  obtain ⟨v3, vs3, d3, ds3, p3, q3, rfl, rfl, rfl, h3, r3⟩ := trodAll_cons r2
  obtain ⟨v4, vs4, d4, ds4, p4, q4, rfl, rfl, rfl, h4, r4⟩ := trodAll_cons r3
  obtain ⟨v5, vs5, d5, ds5, p5, q5, rfl, rfl, rfl, h5, r5⟩ := trodAll_cons r4
  obtain ⟨v6, vs6, d6, ds6, p6, q6, rfl, rfl, rfl, h6, r6⟩ := trodAll_cons r5
  obtain ⟨v7, vs7, d7, ds7, p7, q7, rfl, rfl, rfl, h7, r7⟩ := trodAll_cons r6
  obtain ⟨rfl, rfl, rfl⟩ := trodAll_nil r7
  obtain rfl : args = #[v0, v1, v2, v3, v4, v5, v6, v7] := by cases args; simp_all
  obtain ⟨rfl, rfl⟩ := trodVars_none hV
  have G0 := bytes_of (hval 0 22 v0 rfl rfl) h0
  obtain ⟨a0, l0, c0, rfl, hr0⟩ := G0
  obtain ⟨n1, rfl, rfl, rfl, wn1⟩ := open_int Tryz.underlying3 (hval 1 3 v1 rfl rfl) h1
  obtain ⟨n2, rfl, rfl, rfl, wn2⟩ := open_int Tryz.underlying23 (hval 2 23 v2 rfl rfl) h2
  obtain ⟨n3, rfl, rfl, rfl, wn3⟩ := open_int Tryz.underlying23 (hval 3 23 v3 rfl rfl) h3
  obtain ⟨n4, rfl, rfl, rfl, wn4⟩ := open_int Tryz.underlying3 (hval 4 3 v4 rfl rfl) h4
  have G5 := ints_of (hval 5 24 v5 rfl rfl) h5
  obtain ⟨a5, n5, c5, rfl, hr5, hn5⟩ := G5
  have G6 := pref_of (hval 6 30 v6 rfl rfl) h6
  obtain ⟨a6, x6, n6, rfl, hx6⟩ := G6
  have G7 := addr_of (hval 7 28 v7 rfl rfl) h7
  obtain ⟨a7, x7, rfl, hx7⟩ := G7
  refine (ptells_walk a0 l0 c0 n1 n2 n3 n4 a5 n5 c5 a6 x6 n6 a7 x7 W (gl hL hS) hr0 ⟨(bounds_u64 wn2).1, Int.lt_of_le_of_lt (bounds_u64 wn2).2 (by decide)⟩ ⟨(bounds_u64 wn3).1, Int.lt_of_le_of_lt (bounds_u64 wn3).2 (by decide)⟩ hr5 hn5 hx6 hx7).mono fun e W' ⟨he, hb⟩ => ?_
  subst he
  exact ⟨_, rfl, law_post hW' rfl (by kernel_rfl) Tryz.underlying4 rfl laidOut (by rw [Tryz.params3]; exact of_decide_eq_true (by kernel_rfl)) hb⟩
theorem laid_met (os : Os) : laidMet Tryz.prog Rows.prefTellsRow.laid ((World.laidAll Tryz.prog os Rows.prefTellsRow.laid).forCall (fun _ _ => 0) ⟨#[], #[.slice none 0 0, .int .i64 0, .int .u64 0, .int .u64 0, .int .i64 0, .slice none 0 0, .agg #[.int .i64 0, .int .u64 0, .int .u64 0, .int .i64 0], .agg #[.int .i64 0, .int .u64 0, .int .u64 0]], []⟩).memory :=
  laidMet_laidAll #[.slice none 0 0, .int .i64 0, .int .u64 0, .int .u64 0, .int .i64 0, .slice none 0 0, .agg #[.int .i64 0, .int .u64 0, .int .u64 0, .int .i64 0], .agg #[.int .i64 0, .int .u64 0, .int .u64 0]] (by kernel_rfl) (by kernel_rfl)
theorem reads (os : Os) {H : Type} (enc : TypeId × Value → H) : ∃ places, DataW.whole enc Tryz.prog ((World.laidAll Tryz.prog os Rows.prefTellsRow.laid).forCall (fun _ _ => 0) ⟨#[], #[.slice none 0 0, .int .i64 0, .int .u64 0, .int .u64 0, .int .i64 0, .slice none 0 0, .agg #[.int .i64 0, .int .u64 0, .int .u64 0, .int .i64 0], .agg #[.int .i64 0, .int .u64 0, .int .u64 0]], []⟩).memory Tryz.f3.params.toList Rows.prefTellsSpec.vars false (#[.slice none 0 0, .int .i64 0, .int .u64 0, .int .u64 0, .int .i64 0, .slice none 0 0, .agg #[.int .i64 0, .int .u64 0, .int .u64 0, .int .i64 0], .agg #[.int .i64 0, .int .u64 0, .int .u64 0]] : Array Value).toList 8 = some ([.nil, .lit (.int .i64 0), .lit (.int .u64 0), .lit (.int .u64 0), .lit (.int .i64 0), .nil, .agg [.agg [.lit (.int .i64 0), .agg [.lit (.int .u64 0), .lit (.int .u64 0)]], .lit (.int .i64 0)], .agg [.lit (.int .i64 0), .agg [.lit (.int .u64 0), .lit (.int .u64 0)]]], [], places) :=
  ⟨[], by kernel_rfl⟩
set_option maxRecDepth 100000 in
theorem lifted (os : Os) (started : os.Started) (H : Type) (enc : TypeId × Value → H) (F : Stop.Interp) :
    ReturnsInHanded {} Tryz.checked os 3 .any ((OpenSpec.ofChange Rows.prefTellsSpec).preRow enc Tryz.prog Tryz.f3 Rows.prefTellsRow.domain false Rows.prefTellsRow.laid) (((OpenSpec.ofChange Rows.prefTellsSpec).at F).post enc Tryz.prog Tryz.f3 false true false false) := by
  obtain ⟨places, hx⟩ := reads os enc
  refine returnsInHanded_of_row (C := Tryz.checked) (s := OpenSpec.ofChange Rows.prefTellsSpec) own started (by kernel_rfl) Tryz.func3
    (witness_row_at (enc := enc) (C := Tryz.checked) false (World.laidAll Tryz.prog os Rows.prefTellsRow.laid) #[.slice none 0 0, .int .i64 0, .int .u64 0, .int .u64 0, .int .i64 0, .slice none 0 0, .agg #[.int .i64 0, .int .u64 0, .int .u64 0, .int .i64 0], .agg #[.int .i64 0, .int .u64 0, .int .u64 0]] (World.laidAll_os _ _ _) (by kernel_rfl) (by kernel_rfl) (by kernel_rfl)
      (OpenSpec.preRow_of_cond 8 hx (by kernel_rfl) (fun k hk => by cases hk) (by kernel_rfl) (laid_met os))) ?_
  intro W base args ds gs before hval hW _ _ hsz hL hS _
  exact contract H enc W base args ds gs before hval hW hL hS hsz
theorem said : Rows.PrefTellsSaid :=
  OpenClaim.holds_of_cond 3 Tryz.f3 rfl rfl rfl rfl rfl rfl rfl ⟨rfl, rfl, rfl, rfl, rfl⟩ rfl rfl rfl rfl rfl (by kernel_rfl) Tryz.func3 (by kernel_rfl)
    (of_decide_eq_true (by kernel_rfl)) (by unfold Func.isWrapper; first | (rw [if_pos (by decide +kernel)]; kernel_rfl) | (rw [if_neg (by decide +kernel)]; exact ⟨rfl, rfl⟩))
    (fun os started H enc _ F => by rw [OpenClaim.pre_eq_preRow]; exact lifted os started H enc F)
theorem plain (f : FuncId) (fn : Func) (hf : Tryz.pinned.checked.prog.funcNamed Rows.prefTellsRow.func = some f) (hfn : Tryz.pinned.checked.prog.funcs[f]? = some fn) :
    true = Tryz.pinned.checked.prog.looks [] ∧ ∀ (j : Nat) t, fn.params[j]? = some t → Tryz.pinned.checked.prog.wantsStandIn t = false := by
  obtain rfl : f = 3 := Option.some.inj ((show Tryz.prog.funcNamed Rows.prefTellsRow.func = some 3 by kernel_rfl).symm.trans hf) |>.symm
  obtain rfl : fn = Tryz.f3 := (Option.some.inj (Tryz.func3.symm.trans hfn)).symm
  refine ⟨by kernel_rfl, fun j t ht => ?_⟩
  rw [Tryz.params3] at ht
  have hm : ∀ u ∈ (#[22, 3, 23, 23, 3, 24, 30, 28] : Array Nat), Tryz.prog.wantsStandIn u = false := of_decide_eq_true (by kernel_rfl)
  exact hm t (Array.mem_of_getElem? ht)
theorem card : Rows.PrefTellsCardSaid :=
  Claim7.holds_tied_plain_at .later _ _ _ _ _ said (fun _ h => by cases h) (by kernel_rfl) (fun _ h => by cases h) prefTells_row_tie rfl ⟨rfl, rfl⟩ (by kernel_rfl) rfl plain (by kernel_rfl)
end Go.Proofs.YtkmbfnjmgimlhaaGreatDoor.prefTells
