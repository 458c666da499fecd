/- Arguments of the laws as they lie in memory: rows of numbers and of bytes, addresses, prefixes. -/
import Derived.Test.YtmnemjhkmllniaaGreatDoorzLT1
import Derived.Test.YtmnemjhkmllniaaGreatDoorzLaw
namespace Go.Proofs.YtmnemjhkmllniaaGreatDoor
open Go.ChangeShapes Go.WideShapes Go.ChangeAt Go.RowKit Go.Joins

set_option maxRecDepth 100000 in
theorem ints_of {H : Type} {enc : TypeId × Value → H} {W : World} {b0 base : Nat} {held : Bool} {v : Value} {d : DataW H} {ps : List MemPlace}
    (hval : Value.okWide Tryz.prog W .any b0 24 v) (h : DataW.Trod enc Tryz.prog W base (fun _ => true) held 24 v d ps) : ∃ a n c, v = .slice a n c ∧ IntsAt W a n ∧ n ≤ 9223372036854775807 := by
  obtain ⟨a, n, c, rfl⟩ := okWide_slice Tryz.underlying24 hval
  obtain ⟨fuel, hf⟩ := h
  refine ⟨a, n, c, rfl, ?_⟩
  rcases open_ints Tryz.underlying24 Tryz.underlying3 (by kernel_rfl) hf with ⟨hcs, _⟩ | ⟨a', len, cap, zs, hcs, _, hl, hm, hz, _, hc, _⟩
  · simp [Value.cells] at hcs
    obtain ⟨rfl, rfl, rfl⟩ := hcs
    exact ⟨fun j hj => absurd hj (Nat.not_lt_zero _), by omega⟩
  · simp [Value.cells] at hcs
    obtain ⟨rfl, rfl, rfl⟩ := hcs
    refine ⟨fun j hj => ?_, Nat.le_trans hl (Nat.le_trans hm (by decide))⟩
    have hj' : j < zs.length := by rw [hz]; simp; omega
    have e := hc j hj'
    exact ⟨a', _, rfl, by have := World.block_lt_of_cell? _ _ e; rwa [add_block] at this, e⟩
theorem u8_of {n : Int} (h : (Lit.int .u8 n).wf = true) : 0 ≤ n ∧ n < 256 := by
  have := bounds_u8 h
  omega
set_option maxRecDepth 100000 in
theorem bytes_of {H : Type} {enc : TypeId × Value → H} {W : World} {b0 base : Nat} {held : Bool} {v : Value} {d : DataW H} {ps : List MemPlace}
    (hval : Value.okWide Tryz.prog W .any b0 22 v) (h : DataW.Trod enc Tryz.prog W base (fun _ => true) held 22 v d ps) : ∃ (a : Option Addr) (l : Bs) (c : Nat), v = .slice a l.length c ∧ BytesAt W a l := by
  obtain ⟨a, n, c, rfl⟩ := okWide_slice Tryz.underlying22 hval
  obtain ⟨fuel, hf⟩ := h
  rcases open_ints Tryz.underlying22 Tryz.underlying5 (by kernel_rfl) hf with ⟨hcs, _⟩ | ⟨a', len, cap, zs, hcs, _, hl, hm, hz, _, hc, hw⟩
  · simp [Value.cells] at hcs
    obtain ⟨rfl, rfl, rfl⟩ := hcs
    exact ⟨none, [], 0, rfl, fun j b hj => by simp at hj⟩
  · simp [Value.cells] at hcs
    obtain ⟨rfl, rfl, rfl⟩ := hcs
    simp at hz
    have hlen : ((zs.take n).map (fun z => UInt8.ofNat z.toNat)).length = n := by simp; omega
    refine ⟨some a', (zs.take n).map (fun z => UInt8.ofNat z.toNat), c, by rw [hlen], fun j b hj => ?_⟩
    have hjn : j < n := by have := (List.getElem?_eq_some_iff.1 hj).1; rw [hlen] at this; exact this
    have hj' : j < zs.length := by omega
    have e := hc j hj'
    have hb := u8_of (hw _ (List.getElem_mem hj'))
    have hg : zs.getD j 0 = zs[j]'hj' := by simp [List.getD, List.getElem?_eq_getElem hj']
    rw [hg] at e
    have hbb : b = UInt8.ofNat (zs[j]'hj').toNat := by
      rw [List.getElem?_map, List.getElem?_take_of_lt hjn, List.getElem?_eq_getElem hj'] at hj
      simpa using hj.symm
    refine ⟨a', rfl, by have := World.block_lt_of_cell? _ _ e; rwa [add_block] at this, ?_⟩
    rw [e, hbb]
    have : ((UInt8.ofNat (zs[j]'hj').toNat).toNat : Int) = zs[j]'hj' := by simp; omega
    rw [this]
theorem cells28 : Tryz.prog.cellsOf 28 = 3 := by kernel_rfl
theorem cells26 : Tryz.prog.cellsOf 26 = 2 := by kernel_rfl
theorem cells30 : Tryz.prog.cellsOf 34 = 4 := by kernel_rfl
theorem cells3 : Tryz.prog.cellsOf 3 = 1 := by kernel_rfl
theorem cells23 : Tryz.prog.cellsOf 23 = 1 := by kernel_rfl
set_option maxRecDepth 100000 in
theorem quad_trod {H : Type} {enc : TypeId × Value → H} {W : World} {base n : Nat} {sp : Nat → Bool} {held : Bool} {c1 c2 : Value} {y : DataW H × List MemPlace}
    (h : DataW.trod enc Tryz.prog W base sp held n 26 [c1, c2] = some y) : ∃ x : Nat, c1 = .int .u64 (hiQ x) ∧ c2 = .int .u64 (loQ x) ∧ x < 340282366920938463463374607431768211456 := by
  obtain ⟨y0, y1, m, _, _, h0, h1⟩ := trod_struct2 Tryz.underlying26 h
  rw [cells23] at h0 h1
  obtain ⟨a0, e0, _, w0⟩ := DataW.trod_int Tryz.underlying23 h0
  obtain ⟨a1, e1, _, w1⟩ := DataW.trod_int Tryz.underlying23 h1
  simp at e0 e1
  subst e0 e1
  obtain ⟨x, hx, rfl, rfl⟩ := q_of a0 a1 (bounds_u64 w0).1 (bounds_u64 w0).2 (bounds_u64 w1).1 (bounds_u64 w1).2
  exact ⟨x, rfl, rfl, hx⟩
set_option maxRecDepth 100000 in
theorem addr_trod {H : Type} {enc : TypeId × Value → H} {W : World} {base n : Nat} {sp : Nat → Bool} {held : Bool} {c0 c1 c2 : Value} {y : DataW H × List MemPlace}
    (h : DataW.trod enc Tryz.prog W base sp held n 28 [c0, c1, c2] = some y) : ∃ (v : Int) (x : Nat), c0 = .int .i64 v ∧ c1 = .int .u64 (hiQ x) ∧ c2 = .int .u64 (loQ x) ∧ x < 340282366920938463463374607431768211456 := by
  obtain ⟨y0, y1, m, _, _, h0, h1⟩ := trod_struct2 Tryz.underlying28 h
  rw [cells3] at h0
  rw [cells26] at h1
  obtain ⟨a0, e0, _, _⟩ := DataW.trod_int Tryz.underlying3 h0
  simp at e0
  subst e0
  obtain ⟨x, e1, e2, hx⟩ := quad_trod (c1 := c1) (c2 := c2) (by simpa using h1)
  exact ⟨a0, x, rfl, e1, e2, hx⟩
set_option maxRecDepth 100000 in
theorem addr_of {H : Type} {enc : TypeId × Value → H} {W : World} {b0 base : Nat} {held : Bool} {v : Value} {d : DataW H} {ps : List MemPlace}
    (hval : Value.okWide Tryz.prog W .any b0 28 v) (h : DataW.Trod enc Tryz.prog W base (fun _ => true) held 28 v d ps) : ∃ (a : Int) (x : Nat), v = .agg #[.int .i64 a, .int .u64 (hiQ x), .int .u64 (loQ x)] ∧ x < 340282366920938463463374607431768211456 := by
  obtain ⟨cs, rfl, hsz⟩ := okWide_struct Tryz.underlying28 hval
  obtain ⟨c0, c1, c2, rfl⟩ := array3 (hsz.trans cells28)
  obtain ⟨fuel, hf⟩ := h
  obtain ⟨a, x, rfl, rfl, rfl, hx⟩ := addr_trod (c0 := c0) (c1 := c1) (c2 := c2) (by simpa [Value.cells] using hf)
  exact ⟨a, x, rfl, hx⟩
set_option maxRecDepth 100000 in
theorem pref_of {H : Type} {enc : TypeId × Value → H} {W : World} {b0 base : Nat} {held : Bool} {v : Value} {d : DataW H} {ps : List MemPlace}
    (hval : Value.okWide Tryz.prog W .any b0 34 v) (h : DataW.Trod enc Tryz.prog W base (fun _ => true) held 34 v d ps) : ∃ (a : Int) (x : Nat) (n : Int), v = .agg #[.int .i64 a, .int .u64 (hiQ x), .int .u64 (loQ x), .int .i64 n] ∧ x < 340282366920938463463374607431768211456 := by
  obtain ⟨cs, rfl, hsz⟩ := okWide_struct Tryz.underlying34 hval
  obtain ⟨c0, c1, c2, c3, rfl⟩ := array4 (hsz.trans cells30)
  obtain ⟨fuel, hf⟩ := h
  obtain ⟨y0, y1, m, _, _, h0, h1⟩ := trod_struct2 Tryz.underlying34 hf
  rw [cells28] at h0
  rw [cells3] at h1
  obtain ⟨a, x, rfl, rfl, rfl, hx⟩ := addr_trod (c0 := c0) (c1 := c1) (c2 := c2) (by simpa [Value.cells] using h0)
  obtain ⟨n0, e0, _, _⟩ := DataW.trod_int Tryz.underlying3 h1
  simp [Value.cells] at e0
  subst e0
  exact ⟨a, x, n0, rfl, hx⟩
end Go.Proofs.YtmnemjhkmllniaaGreatDoor
