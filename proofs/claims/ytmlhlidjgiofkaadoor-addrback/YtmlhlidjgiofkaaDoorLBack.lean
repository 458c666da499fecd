/- AddrBack: for any address of numbers and any text that the law makes, the law answers true. -/
import Derived.Test.YtmlhlidjgiofkaaDoorLt
import Derived.Test.YtmlhlidjgiofkaaDoorLNext
namespace Go.Proofs.YtmlhlidjgiofkaaDoor
open Go.ChangeShapes Go.WideShapes Go.RowKit Go.Sort

set_option maxRecDepth 100000 in
/-- A row of numbers that a call hands over lies in memory. -/
theorem ints_of {H : Type} {enc : TypeId × Value → H} {W : World} {b0 base : Nat} {held : Bool} {v : Value} {d : DataW H} {ps : List MemPlace}
    (hval : Value.okWide Tryd.prog W .any b0 39 v) (h : DataW.Trod enc Tryd.prog W base (fun _ => true) held 39 v d ps) : ∃ a n c, v = .slice a n c ∧ IntsAt W a n ∧ n ≤ 9223372036854775807 := by
  obtain ⟨a, n, c, rfl⟩ := okWide_slice Tryd.underlying39 hval
  obtain ⟨fuel, hf⟩ := h
  refine ⟨a, n, c, rfl, ?_⟩
  rcases open_ints Tryd.underlying39 Tryd.underlying3 (by kernel_rfl) hf with ⟨hcs, _⟩ | ⟨a', len, cap, zs, hcs, _, hl, hm, hz, _, hc, _⟩
  · simp [Value.cells] at hcs
    obtain ⟨rfl, rfl, rfl⟩ := hcs
    exact ⟨fun j hj => absurd hj (Nat.not_lt_zero _), by omega⟩
  · simp [Value.cells] at hcs
    obtain ⟨rfl, rfl, rfl⟩ := hcs
    refine ⟨fun j hj => ?_, Nat.le_trans hl (Nat.le_trans hm (by decide))⟩
    have hj' : j < zs.length := by rw [hz]; simp; omega
    have e := hc j hj'
    exact ⟨a', _, rfl, by have := World.block_lt_of_cell? _ _ e; rwa [add_block] at this, e⟩
theorem parse_back (u : Int) (x : Nat) (w : World) (hg : Gl w) (ho : okV u x = true) (hx : x < 340282366920938463463374607431768211456) (s : ByteArray) (hs : baS (tellV u x) = s) :
    Calls Tryd.prog 6 #[.string s] w fun e w' => e = .returned (.tuple #[.agg #[.int .i64 u, .int .u64 (hiQ x), .int .u64 (loQ x)], .bool true]) ∧ Below w.heap.size w w' := by
  subst hs
  have h := parse_tell u x ho hx
  have hl := tellV_len u x
  have k := parse_some (baS (tellV u x)) u.toNat x w hg (by rw [baS_size]; omega) (by rw [show (baS (tellV u x)).data.toList = tellV u x by simp [baS]]; exact h)
  have e : ((u.toNat : Nat) : Int) = u := by rcases okV_cases ho with rfl | ⟨rfl, _⟩ <;> rfl
  rw [e] at k
  exact k
set_option maxHeartbeats 8000000 in
set_option maxRecDepth 100000 in
theorem back_walk (v a b : Int) (p : Option Addr) (n c : Nat) (w : World) (hg : Gl w) (ha : 0 ≤ a ∧ a < 18446744073709551616) (hb : 0 ≤ b ∧ b < 18446744073709551616) (hp : IntsAt w p n) (hn : n ≤ 9223372036854775807) :
    Calls Tryd.prog 5 #[.int .i64 v, .int .u64 a, .int .u64 b, .slice p n c] w fun e w' => e = .returned (.bool true) ∧ Below w.heap.size w w' := by
  have HA := Lib.hid (And.intro ha (And.intro hb hn))
  have HG := Lib.hid hg
  have HP := Lib.hid hp
  clear ha hb hg hp hn
  go_enter Tryd.func5, Tryd.ntmps5
  go_wp2_with fail
  refine (addr_x v a b _ HA.out.1 HA.out.2.1).mono ?_
  rintro e w1 ⟨⟨u, x, rfl, ho, hx⟩, hb1⟩
  have HO := Lib.hid (And.intro ho hx)
  clear ho hx
  have G1 := (HG.out.below hb1).alloc (.cells #[.int .i64 u, .int .u64 (hiQ x), .int .u64 (loQ x)] 28)
  have A1 := ad_new w1 u x
  have B1 := ball (o := .cells #[.int .i64 u, .int .u64 (hiQ x), .int .u64 (loQ x)] 28) hb1
  obtain ⟨s, hs⟩ : ∃ s, baS (tellV u x) = s := ⟨_, rfl⟩
  have HS := Lib.hid hs
  clear hs hb1
  go_wp2_with fail
  refine (print_is u x _ G1 HO.out.2 s HS.out).mono ?_
  rintro e w2 ⟨rfl, hb2⟩
  have G2 := G1.below hb2
  have A2 := A1.below hb2
  have B2 := below_next B1 hb2
  clear G1 A1 B1 hb2
  go_wp2_with fail
  refine (parse_back u x w2 G2 HO.out.1 HO.out.2 s HS.out).mono ?_
  rintro e w3 ⟨rfl, hb3⟩
  have G3 := (G2.below hb3).alloc (.cells #[.int .i64 u, .int .u64 (hiQ x), .int .u64 (loQ x)] 28)
  have A3 := (A2.below hb3).alloc (.cells #[.int .i64 u, .int .u64 (hiQ x), .int .u64 (loQ x)] 28)
  have A4 := ad_new w3 u x
  have B3 := ball (o := .cells #[.int .i64 u, .int .u64 (hiQ x), .int .u64 (loQ x)] 28) (below_next B2 hb3)
  clear G2 A2 B2 hb3
  obtain ⟨a30, a31, a32, l3⟩ := id A3
  go_wp2_with fail
  refine (print_is u x _ G3 HO.out.2 s HS.out).mono ?_
  rintro e w4 ⟨rfl, hb4⟩
  have G4 := G3.below hb4
  have B4 := below_next B3 hb4
  have P4 := HP.out.below B4
  clear G3 B3 hb4 A3 A4 a30 a31 a32 l3
  go_wp2_with fail
  refine (text_x v a b p n c w4 HA.out.1 HA.out.2.1 P4 HA.out.2.2).mono ?_
  rintro e w5 ⟨⟨t, rfl, ht⟩, hb5⟩
  have G5 := G4.below hb5
  have B5 := below_next B4 hb5
  have HT : Hid ((baS t).size < 4294967281) := by show _ < _; rw [baS_size]; omega
  have HD : Hid ((baS t).data.toList = t) := by show _ = _; simp [baS]
  clear G4 B4 hb5 P4 ht
  cases hv : parseV t with
  | none =>
    have HV := Lib.hid hv
    clear hv
    go_wp2_with fail
    refine (parse_none (baS t) w5 G5 HT.out (by rw [HD.out]; exact HV.out)).mono ?_
    rintro e w6 ⟨rfl, hb6⟩
    have G6 := G5.below hb6
    have B6 := below_next B5 hb6
    go_wp2_with fail
    refine (awake_x _ (G6.alloc _)).mono ?_
    rintro e w7 ⟨rfl, hb7⟩
    go_wp2
    go_ret
    exact ⟨rfl, below_next (ball B6) hb7⟩
  | some vy =>
    obtain ⟨k, y⟩ := vy
    obtain ⟨ok, hy, _⟩ := parseV_ok hv
    have HV := Lib.hid hv
    have HY := Lib.hid (And.intro ok hy)
    clear hv ok hy
    go_wp2_with fail
    refine (parse_some (baS t) k y w5 G5 HT.out (by rw [HD.out]; exact HV.out)).mono ?_
    rintro e w6 ⟨rfl, hb6⟩
    have G6 := (G5.below hb6).alloc (.cells #[.int .i64 k, .int .u64 (hiQ y), .int .u64 (loQ y)] 28)
    have B6 := ball (o := .cells #[.int .i64 k, .int .u64 (hiQ y), .int .u64 (loQ y)] 28) (below_next B5 hb6)
    have A6 := ad_new w6 k y
    obtain ⟨s', hs'⟩ : ∃ s, baS (tellV k y) = s := ⟨_, rfl⟩
    have HS' := Lib.hid hs'
    clear hs' hb6 G5 B5
    go_wp2_with fail
    refine (print_is k y _ G6 HY.out.2 s' HS'.out).mono ?_
    rintro e w7 ⟨rfl, hb7⟩
    have G7 := G6.below hb7
    have B7 := below_next B6 hb7
    have A7 := A6.below hb7
    clear G6 B6 A6 hb7
    go_wp2_with fail
    refine (parse_back k y w7 G7 HY.out.1 HY.out.2 s' HS'.out).mono ?_
    rintro e w8 ⟨rfl, hb8⟩
    have G8 := (G7.below hb8).alloc (.cells #[.int .i64 k, .int .u64 (hiQ y), .int .u64 (loQ y)] 28)
    have B8 := ball (o := .cells #[.int .i64 k, .int .u64 (hiQ y), .int .u64 (loQ y)] 28) (below_next B7 hb8)
    have A8 := (A7.below hb8).alloc (.cells #[.int .i64 k, .int .u64 (hiQ y), .int .u64 (loQ y)] 28)
    clear G7 B7 A7 hb8
    obtain ⟨a0, a1, a2, l8⟩ := id A8
    go_wp2_with fail
    refine (print_is k y _ G8 HY.out.2 s' HS'.out).mono ?_
    rintro e w9 ⟨rfl, hb9⟩
    have G9 := G8.below hb9
    have B9 := below_next B8 hb9
    have A9 := A8.below hb9
    clear G8 B8 A8 hb9 a0 a1 a2 l8
    obtain ⟨a0, a1, a2, l8⟩ := id A9
    go_wp2_with fail
    refine (ok_is k y w9 true HY.out.1).mono ?_
    rintro e w10 ⟨rfl, hb10⟩
    have G10 := G9.below hb10
    have B10 := below_next B9 hb10
    clear G9 B9 A9 hb10 a0 a1 a2 l8
    go_wp2_with fail
    refine (awake_x w10 G10).mono ?_
    rintro e w11 ⟨rfl, hb11⟩
    go_wp2
    go_ret
    exact ⟨rfl, below_next B10 hb11⟩
end Go.Proofs.YtmlhlidjgiofkaaDoor
