/- The walks of package quad: what each of its functions answers, for every number of 128 bits. -/
import Derived.Test.YtmnemjhkmllniaaGreatDoorChecked
import Derived.WalkKit
import Derived.Lib.TrailingZeros
import Derived.Lib.LaidTab
import Derived.Shelf.Spec.BitsCarry
import Derived.Test.YtmnemjhkmllniaaGreatDoorzQm
namespace Go.Proofs.YtmnemjhkmllniaaGreatDoor
open Go.ChangeShapes Go.WideShapes Go.RowKit

theorem below2 (w : World) (a b : Obj) : Below w.heap.size w ((w.alloc a).alloc b) := ((Below.refl _ _).alloc (Nat.le_refl _) _).alloc (by simp) _
theorem below3 (w : World) (a b c : Obj) : Below w.heap.size w (((w.alloc a).alloc b).alloc c) := (below2 w a b).alloc (by simp; omega) _

set_option maxHeartbeats 400000 in
theorem and_x (x y : Nat) (w : World) (hx : x < 340282366920938463463374607431768211456) (hy : y < 340282366920938463463374607431768211456) :
    Calls Tryz.prog 87 #[.agg #[.int .u64 (hiQ x), .int .u64 (loQ x)], .agg #[.int .u64 (hiQ y), .int .u64 (loQ y)]] w fun e w' => e = .returned (.agg #[.int .u64 (hiQ (x &&& y)), .int .u64 (loQ (x &&& y))]) ∧ Below w.heap.size w w' := by
  have a1 := hiQ_nn x; have a2 := hiQ_lt x hx; have a3 := loQ_nn x; have a4 := loQ_lt x
  have b1 := hiQ_nn y; have b2 := hiQ_lt y hy; have b3 := loQ_nn y; have b4 := loQ_lt y
  go_enter Tryz.func87, Tryz.ntmps87
  go_wp2
  rw [u64_and _ _ a1 a2 b1 b2, u64_and _ _ a3 a4 b3 b4, ← (half_and x y).1, ← (half_and x y).2]
  exact bodyPost_ret (v := .agg #[.int .u64 (hiQ (x &&& y)), .int .u64 (loQ (x &&& y))]) (by simp [results, Tryz.results87, go_sem]) rfl ⟨rfl, below3 _ _ _ _⟩

set_option maxHeartbeats 400000 in
theorem or_x (x y : Nat) (w : World) (hx : x < 340282366920938463463374607431768211456) (hy : y < 340282366920938463463374607431768211456) :
    Calls Tryz.prog 73 #[.agg #[.int .u64 (hiQ x), .int .u64 (loQ x)], .agg #[.int .u64 (hiQ y), .int .u64 (loQ y)]] w fun e w' => e = .returned (.agg #[.int .u64 (hiQ (x ||| y)), .int .u64 (loQ (x ||| y))]) ∧ Below w.heap.size w w' := by
  have a1 := hiQ_nn x; have a2 := hiQ_lt x hx; have a3 := loQ_nn x; have a4 := loQ_lt x
  have b1 := hiQ_nn y; have b2 := hiQ_lt y hy; have b3 := loQ_nn y; have b4 := loQ_lt y
  go_enter Tryz.func73, Tryz.ntmps73
  go_wp2
  rw [u64_or _ _ a1 a2 b1 b2, u64_or _ _ a3 a4 b3 b4, ← (half_or x y).1, ← (half_or x y).2]
  exact bodyPost_ret (v := .agg #[.int .u64 (hiQ (x ||| y)), .int .u64 (loQ (x ||| y))]) (by simp [results, Tryz.results73, go_sem]) rfl ⟨rfl, below3 _ _ _ _⟩

set_option maxHeartbeats 400000 in
theorem not_x (x : Nat) (w : World) (hx : x < 340282366920938463463374607431768211456) :
    Calls Tryz.prog 74 #[.agg #[.int .u64 (hiQ x), .int .u64 (loQ x)]] w fun e w' => e = .returned (.agg #[.int .u64 (hiQ (notQ x)), .int .u64 (loQ (notQ x))]) ∧ Below w.heap.size w w' := by
  have HN : Hid (hiQ (notQ x) = bits .xor .u64 IntKind.u64.max (hiQ x) ∧ loQ (notQ x) = bits .xor .u64 IntKind.u64.max (loQ x)) := by
    rw [(half_not x hx).1, (half_not x hx).2, u64_not _ (hiQ_nn x) (hiQ_lt x hx), u64_not _ (loQ_nn x) (loQ_lt x)]; exact ⟨rfl, rfl⟩
  clear hx
  go_enter Tryz.func74, Tryz.ntmps74
  go_wp2
  exact bodyPost_ret (v := .agg #[.int .u64 (hiQ (notQ x)), .int .u64 (loQ (notQ x))]) (by rw [HN.out.1, HN.out.2]; simp [results, Tryz.results74, go_sem]) rfl ⟨rfl, below2 _ _ _⟩

set_option maxHeartbeats 400000 in
theorem less_x (x y : Nat) (w : World) :
    Calls Tryz.prog 65 #[.agg #[.int .u64 (hiQ x), .int .u64 (loQ x)], .agg #[.int .u64 (hiQ y), .int .u64 (loQ y)]] w fun e w' => e = .returned (.bool (decide (x < y))) ∧ Below w.heap.size w w' := by
  have a3 := loQ_nn x; have a4 := loQ_lt x
  have b3 := loQ_nn y; have b4 := loQ_lt y
  have ex := q_eq x; have ey := q_eq y
  by_cases h : hiQ x = hiQ y
  · have h1 : (hiQ x != hiQ y) = false := by simp [h]
    have hr : decide (x < y) = decide (loQ x < loQ y) := by rw [Bool.eq_iff_iff]; simp; omega
    rw [hr]
    clear hr ex ey h
    go_enter Tryz.func65, Tryz.ntmps65
    go_wp2
    go_ret
    exact ⟨rfl, below2 _ _ _⟩
  · have h1 : (hiQ x != hiQ y) = true := by rw [bne_iff_ne]; omega
    have hr : decide (x < y) = decide (hiQ x < hiQ y) := by rw [Bool.eq_iff_iff]; simp; omega
    rw [hr]
    clear hr ex ey h
    go_enter Tryz.func65, Tryz.ntmps65
    go_wp2
    go_ret
    exact ⟨rfl, below2 _ _ _⟩

theorem add64 (x y c : Int) (hx : 0 ≤ x) (hy : 0 ≤ y) (hc0 : 0 ≤ c) (hc : c ≤ 1) (w : World) :
    (callFunc 89 #[.int .u64 x, .int .u64 y, .int .u64 c]).run Tryz.prog w =
      .ok (.value (.tuple #[.int .u64 ((x + y + c) % 18446744073709551616), .int .u64 ((x + y + c) / 18446744073709551616)])) w := by
  rw [run_callFunc_extern Tryz.func89 (by kernel_rfl) (by kernel_rfl) (by kernel_rfl) (e := add64Entry) (by kernel_rfl), run_add64 x y c hx hy hc0 hc]
  rfl

set_option maxHeartbeats 400000 in
theorem add_x (x y : Nat) (w : World) (hx : x < 340282366920938463463374607431768211456) (hy : y < 340282366920938463463374607431768211456) (h : x + y < 340282366920938463463374607431768211456) :
    Calls Tryz.prog 72 #[.agg #[.int .u64 (hiQ x), .int .u64 (loQ x)], .agg #[.int .u64 (hiQ y), .int .u64 (loQ y)]] w fun e w' => e = .returned (.tuple #[.agg #[.int .u64 (hiQ (x + y)), .int .u64 (loQ (x + y))], .bool true]) ∧ Below w.heap.size w w' := by
  have a1 := hiQ_nn x; have a2 := hiQ_lt x hx; have a3 := loQ_nn x; have a4 := loQ_lt x
  have b1 := hiQ_nn y; have b2 := hiQ_lt y hy; have b3 := loQ_nn y; have b4 := loQ_lt y
  have c0 : 0 ≤ (loQ x + loQ y) / 18446744073709551616 := by omega
  have c1 : (loQ x + loQ y) / 18446744073709551616 ≤ 1 := by omega
  have s := half_add x y
  have hh := hiQ_lt (x + y) h
  have hz : ((hiQ x + hiQ y + (loQ x + loQ y) / 18446744073709551616) / 18446744073709551616 != 0) = false := by
    rw [bne_eq_false_iff_eq]; omega
  have HS : Hid (hiQ (x + y) = (hiQ x + hiQ y + (loQ x + loQ y) / 18446744073709551616) % 18446744073709551616 ∧ loQ (x + y) = (loQ x + loQ y) % 18446744073709551616) := by
    refine ⟨?_, s.2⟩; rw [s.1]; omega
  clear s hh h hx hy
  go_enter Tryz.func72, Tryz.ntmps72
  go_wp2_with (first | simp only [add64 _ _ 0 a3 b3 (by omega) (by omega)] | simp only [add64 _ _ _ a1 b1 c0 c1])
  refine bodyPost_ret (v := .tuple #[.agg #[.int .u64 (hiQ (x + y)), .int .u64 (loQ (x + y))], .bool true]) (by rw [HS.out.1, HS.out.2]; simp [results, Tryz.results72, go_sem]) rfl ⟨rfl, below3 _ _ _ _⟩

set_option maxHeartbeats 400000 in
theorem add_no (x y : Nat) (w : World) (hx : x < 340282366920938463463374607431768211456) (hy : y < 340282366920938463463374607431768211456) (h : 340282366920938463463374607431768211456 ≤ x + y) :
    Calls Tryz.prog 72 #[.agg #[.int .u64 (hiQ x), .int .u64 (loQ x)], .agg #[.int .u64 (hiQ y), .int .u64 (loQ y)]] w fun e w' => e = .returned (.tuple #[.agg #[.int .u64 0, .int .u64 0], .bool false]) ∧ Below w.heap.size w w' := by
  have a1 := hiQ_nn x; have a2 := hiQ_lt x hx; have a3 := loQ_nn x; have a4 := loQ_lt x
  have b1 := hiQ_nn y; have b2 := hiQ_lt y hy; have b3 := loQ_nn y; have b4 := loQ_lt y
  have c0 : 0 ≤ (loQ x + loQ y) / 18446744073709551616 := by omega
  have c1 : (loQ x + loQ y) / 18446744073709551616 ≤ 1 := by omega
  have e1 := q_eq x; have e2 := q_eq y
  have hz : ((hiQ x + hiQ y + (loQ x + loQ y) / 18446744073709551616) / 18446744073709551616 != 0) = true := by
    rw [bne_iff_ne]; omega
  clear e1 e2 h hx hy
  go_enter Tryz.func72, Tryz.ntmps72
  go_wp2_with (first | simp only [add64 _ _ 0 a3 b3 (by omega) (by omega)] | simp only [add64 _ _ _ a1 b1 c0 c1])
  exact bodyPost_ret (v := .tuple #[.agg #[.int .u64 0, .int .u64 0], .bool false]) (by simp [results, Tryz.results72, go_sem]) rfl ⟨rfl, below3 _ _ _ _⟩

end Go.Proofs.YtmnemjhkmllniaaGreatDoor

/- More walks of package quad: the lowest bit, masks, single bits. -/
namespace Go.Proofs.YtmnemjhkmllniaaGreatDoor
open Go.ChangeShapes Go.WideShapes Go.RowKit

/-- The table of the library's TrailingZeros64 lies in the block of its variable. -/
def TabOk (w : World) : Prop := ∀ k, k < 64 → w.cell? ⟨1, k, none⟩ = some (.int .u8 ((Lib.deBruijn64tab.getD k 0 : Nat) : Int))
theorem TabOk.pos {w : World} (h : TabOk w) : 1 < w.heap.size := block_lt_of_cell (h 0 (by decide))
theorem TabOk.below {w w' : World} {B : Nat} (h : TabOk w) (hb : Below B w w') (hB : 1 < B) : TabOk w' := fun k hk => by
  rw [hb.cell (p := ⟨1, k, none⟩) hB]; exact h k hk

theorem tz_index (n : Nat) (h0 : n ≠ 0) (hn : n < 18446744073709551616) :
    ∃ j : Nat, j < 64 ∧ IntKind.u64.wrap (bits BinOp.and IntKind.u64 (n : Int) (IntKind.u64.wrap (-(n : Int))) * 285870213051353865) / 288230376151711744 = (j : Int) ∧ Lib.deBruijn64tab.getD j 0 = Lib.ctz 64 n := by
  obtain ⟨h1, h2⟩ := Lib.lowest_bit 64 n h0 (by rw [pow64]; exact hn)
  have h3 := Lib.deBruijn64_at (Lib.ctz 64 n) h2
  refine ⟨_, h3.1, ?_, h3.2⟩
  have e : IntKind.u64.wrap (-(n : Int)) = ((18446744073709551616 - n : Nat) : Int) := by rw [IntKind.wrap_u64]; omega
  rw [e, u64_and_nat _ _ hn (by omega), ← pow64, h1, IntKind.wrap_u64]
  generalize 2 ^ Lib.ctz 64 n = p
  omega

set_option maxHeartbeats 400000 in
theorem tz_x (n : Nat) (w : World) (ht : TabOk w) (h0 : n ≠ 0) (hn : n < 18446744073709551616) :
    Calls Tryz.prog 88 #[.int .u64 n] w fun e w' => e = .returned (.int .i64 (Lib.ctz 64 n : Nat)) ∧ w' = w := by
  have h1 : ((n : Int) == 0) = false := by rw [beq_eq_false_iff_ne]; omega
  obtain ⟨j, hj, hi, hk⟩ := tz_index n h0 hn
  have hc := ht j hj
  rw [hk] at hc
  have hlt : Lib.ctz 64 n < 64 := (Lib.lowest_bit 64 n h0 (by rw [pow64]; exact hn)).2
  have hj' : (j : Int) < 64 := by omega
  generalize Lib.ctz 64 n = z at *
  clear h0 hn ht hk
  go_enter Tryz.func88, Tryz.ntmps88
  go_wp2
  go_ret
  exact ⟨rfl, rfl⟩
set_option maxHeartbeats 400000 in
theorem tz_0 (w : World) :
    Calls Tryz.prog 88 #[.int .u64 0] w fun e w' => e = .returned (.int .i64 64) ∧ w' = w := by
  go_enter Tryz.func88, Tryz.ntmps88
  go_wp2
  go_ret
  exact ⟨rfl, rfl⟩
theorem tz_any (n : Int) (w : World) (ht : TabOk w) (h0 : 0 ≤ n) (hn : n < 18446744073709551616) :
    Calls Tryz.prog 88 #[.int .u64 n] w fun e w' => e = .returned (.int .i64 (Lib.ctz 64 n.toNat : Nat)) ∧ w' = w := by
  obtain ⟨k, rfl⟩ := Int.eq_ofNat_of_zero_le h0
  by_cases h : k = 0
  · subst h; exact tz_0 w
  · exact tz_x k w ht h (by omega)
set_option maxHeartbeats 400000 in
theorem low_x (x : Nat) (w : World) (ht : TabOk w) (hx : x < 340282366920938463463374607431768211456) :
    Calls Tryz.prog 71 #[.agg #[.int .u64 (hiQ x), .int .u64 (loQ x)]] w fun e w' => e = .returned (.int .i64 (lowQ x : Nat)) ∧ Below w.heap.size w w' := by
  have a1 := hiQ_nn x; have a2 := hiQ_lt x hx; have a3 := loQ_nn x; have a4 := loQ_lt x
  have ht' : ∀ o, TabOk (w.alloc o) := fun o => ht.below (B := w.heap.size) ((Below.refl _ _).alloc (Nat.le_refl _) o) ht.pos
  by_cases hl : x % 18446744073709551616 = 0
  · have e : loQ x = 0 := by unfold loQ; omega
    have h1 : (loQ x != 0) = false := by simp [e]
    have hq := lowQ_hi x hl hx
    have hh : (hiQ x).toNat = x / 18446744073709551616 := by unfold hiQ; omega
    rw [← hh] at hq
    have hb : Lib.ctz 64 (hiQ x).toNat ≤ 64 := by
      unfold Lib.ctz; split
      · omega
      · rename_i h0; have := (Lib.ctzFrom_spec 64 (hiQ x).toNat (by omega) (by rw [pow64]; omega)); omega
    rw [hq]
    have HT := ht'
    clear e hq hh hx hl ht ht'
    go_enter Tryz.func71, Tryz.ntmps71
    go_wp2_with (go_at_call 88; refine (tz_any _ _ (HT _) (by omega) (by omega)).mono ?_; rintro e w' ⟨rfl, rfl⟩)
    go_ret
    exact ⟨by simp, (Below.refl _ _).alloc (Nat.le_refl _) _⟩
  · have h1 : (loQ x != 0) = true := by rw [bne_iff_ne]; unfold loQ; omega
    have hq := lowQ_lo x hl
    have hh : (loQ x).toNat = x % 18446744073709551616 := by unfold loQ; omega
    rw [← hh] at hq
    rw [hq]
    have HT := ht'
    clear hq hh hx hl ht ht'
    go_enter Tryz.func71, Tryz.ntmps71
    go_wp2_with (go_at_call 88; refine (tz_any _ _ (HT _) (by omega) (by omega)).mono ?_; rintro e w' ⟨rfl, rfl⟩)
    go_ret
    exact ⟨by simp, (Below.refl _ _).alloc (Nat.le_refl _) _⟩

set_option maxHeartbeats 400000 in
theorem bit_lo (n : Int) (w : World) (h0 : 0 ≤ n) (hn : n < 64) :
    Calls Tryz.prog 66 #[.int .i64 n] w fun e w' => e = .returned (.agg #[.int .u64 (hiQ (2 ^ n.toNat)), .int .u64 (loQ (2 ^ n.toNat))]) ∧ Below w.heap.size w w' := by
  have hh := half_bit_lo n.toNat (by omega)
  have H : Hid (hiQ (2 ^ n.toNat) = 0 ∧ loQ (2 ^ n.toNat) = IntKind.u64.wrap (2 ^ n.toNat)) := hh
  clear hh
  go_enter Tryz.func66, Tryz.ntmps66
  go_wp2
  exact bodyPost_ret (v := .agg #[.int .u64 (hiQ (2 ^ n.toNat)), .int .u64 (loQ (2 ^ n.toNat))]) (by rw [H.out.1, H.out.2]; simp [results, Tryz.results66, go_sem]) rfl ⟨rfl, (Below.refl _ _).alloc (Nat.le_refl _) _⟩
set_option maxHeartbeats 400000 in
theorem bit_hi (n : Int) (w : World) (h0 : 64 ≤ n) (hn : n < 128) :
    Calls Tryz.prog 66 #[.int .i64 n] w fun e w' => e = .returned (.agg #[.int .u64 (hiQ (2 ^ n.toNat)), .int .u64 (loQ (2 ^ n.toNat))]) ∧ Below w.heap.size w w' := by
  have hh := half_bit_hi' (n - 64).toNat (by omega)
  rw [show 64 + (n - 64).toNat = n.toNat from by omega] at hh
  have H : Hid (hiQ (2 ^ n.toNat) = IntKind.u64.wrap (2 ^ (n - 64).toNat) ∧ loQ (2 ^ n.toNat) = 0) := hh
  clear hh
  go_enter Tryz.func66, Tryz.ntmps66
  go_wp2
  exact bodyPost_ret (v := .agg #[.int .u64 (hiQ (2 ^ n.toNat)), .int .u64 (loQ (2 ^ n.toNat))]) (by rw [H.out.1, H.out.2]; simp [results, Tryz.results66, go_sem]) rfl ⟨rfl, (Below.refl _ _).alloc (Nat.le_refl _) _⟩
theorem bit_x (n : Int) (w : World) (h0 : 0 ≤ n) (hn : n < 128) :
    Calls Tryz.prog 66 #[.int .i64 n] w fun e w' => e = .returned (.agg #[.int .u64 (hiQ (2 ^ n.toNat)), .int .u64 (loQ (2 ^ n.toNat))]) ∧ Below w.heap.size w w' := by
  by_cases h : n < 64
  · exact bit_lo n w h0 h
  · exact bit_hi n w (by omega) hn
set_option maxHeartbeats 400000 in
theorem bit_no (n : Int) (w : World) (h : n < 0 ∨ 127 < n) :
    Calls Tryz.prog 66 #[.int .i64 n] w fun e w' => e = .returned (.agg #[.int .u64 0, .int .u64 0]) ∧ Below w.heap.size w w' := by
  rcases h with h | h
  · go_enter Tryz.func66, Tryz.ntmps66
    go_wp2
    exact bodyPost_ret (v := .agg #[.int .u64 0, .int .u64 0]) (by simp [results, Tryz.results66, go_sem]) rfl ⟨rfl, (Below.refl _ _).alloc (Nat.le_refl _) _⟩
  · have h' : ¬ n < 0 := by omega
    go_enter Tryz.func66, Tryz.ntmps66
    go_wp2
    exact bodyPost_ret (v := .agg #[.int .u64 0, .int .u64 0]) (by simp [results, Tryz.results66, go_sem]) rfl ⟨rfl, (Below.refl _ _).alloc (Nat.le_refl _) _⟩

set_option maxHeartbeats 400000 in
theorem highest_x (n : Int) (w : World) (h0 : 0 ≤ n) (hn : n ≤ 64) :
    Calls Tryz.prog 101 #[.int .u64 n] w fun e w' => e = .returned (.int .u64 (18446744073709551615 - 18446744073709551615 / 2 ^ n.toNat)) ∧ w' = w := by
  obtain ⟨k, rfl⟩ := Int.eq_ofNat_of_zero_le h0
  have hh := u64_not _ (ones_shr k).1 (ones_shr k).2
  rw [Int.toNat_natCast, ← hh]
  clear hh
  go_enter Tryz.func101, Tryz.ntmps101
  go_wp2
  go_ret
  exact ⟨rfl, rfl⟩

set_option maxHeartbeats 400000 in
theorem mask_lo (n : Int) (w : World) (h0 : 0 ≤ n) (hn : n ≤ 64) :
    Calls Tryz.prog 90 #[.int .i64 n] w fun e w' => e = .returned (.agg #[.int .u64 (hiQ (maskQ n.toNat)), .int .u64 (loQ (maskQ n.toNat))]) ∧ Below w.heap.size w w' := by
  rw [(half_mask_lo n.toNat (by omega)).1, (half_mask_lo n.toNat (by omega)).2]
  generalize hm : (18446744073709551615 : Int) - 18446744073709551615 / 2 ^ n.toNat = m
  have hc : ∀ w, Calls Tryz.prog 101 #[.int .u64 n] w fun e w' => e = .returned (.int .u64 m) ∧ w' = w := fun w => by rw [← hm]; exact highest_x n w h0 hn
  have HC : Hid (∀ w, Calls Tryz.prog 101 #[.int .u64 n] w fun e w' => e = .returned (.int .u64 m) ∧ w' = w) := hc
  clear hc hm
  go_enter Tryz.func90, Tryz.ntmps90
  go_wp2_with (go_at_call 101; refine (HC.out _).mono ?_; rintro e w' ⟨rfl, rfl⟩)
  exact bodyPost_ret (v := .agg #[.int .u64 m, .int .u64 0]) (by simp [results, Tryz.results90, go_sem]) rfl ⟨rfl, (Below.refl _ _).alloc (Nat.le_refl _) _⟩
set_option maxHeartbeats 400000 in
theorem mask_hi (n : Int) (w : World) (h0 : 64 < n) (hn : n ≤ 128) :
    Calls Tryz.prog 90 #[.int .i64 n] w fun e w' => e = .returned (.agg #[.int .u64 (hiQ (maskQ n.toNat)), .int .u64 (loQ (maskQ n.toNat))]) ∧ Below w.heap.size w w' := by
  have hh := half_mask_hi' (n - 64).toNat (by omega)
  rw [show 64 + (n - 64).toNat = n.toNat from by omega] at hh
  rw [hh.1, hh.2]
  generalize hm : (18446744073709551615 : Int) - 18446744073709551615 / 2 ^ (n - 64).toNat = m
  have hc : ∀ w, Calls Tryz.prog 101 #[.int .u64 (n - 64)] w fun e w' => e = .returned (.int .u64 m) ∧ w' = w := fun w => by rw [← hm]; exact highest_x (n - 64) w (by omega) (by omega)
  have HC : Hid (∀ w, Calls Tryz.prog 101 #[.int .u64 (n - 64)] w fun e w' => e = .returned (.int .u64 m) ∧ w' = w) := hc
  clear hc hm hh
  go_enter Tryz.func90, Tryz.ntmps90
  go_wp2_with (go_at_call 101; refine (HC.out _).mono ?_; rintro e w' ⟨rfl, rfl⟩)
  exact bodyPost_ret (v := .agg #[.int .u64 18446744073709551615, .int .u64 m]) (by simp [results, Tryz.results90, go_sem]) rfl ⟨rfl, (Below.refl _ _).alloc (Nat.le_refl _) _⟩
theorem mask_x (n : Int) (w : World) (h0 : 0 ≤ n) (hn : n ≤ 128) :
    Calls Tryz.prog 90 #[.int .i64 n] w fun e w' => e = .returned (.agg #[.int .u64 (hiQ (maskQ n.toNat)), .int .u64 (loQ (maskQ n.toNat))]) ∧ Below w.heap.size w w' := by
  by_cases h : n ≤ 64
  · exact mask_lo n w h0 h
  · exact mask_hi n w (by omega) hn
end Go.Proofs.YtmnemjhkmllniaaGreatDoor

/- The laws' own small check 'awake', and what quad's functions answer at numbers that are written out. -/
namespace Go.Proofs.YtmnemjhkmllniaaGreatDoor
open Go.ChangeShapes Go.WideShapes Go.RowKit

theorem keep {W w1 : World} (hb : Below W.heap.size W w1) (b : Nat) (h : b < W.heap.size) : (∀ o, w1.cell? ⟨b, o, none⟩ = W.cell? ⟨b, o, none⟩) ∧ b < w1.heap.size :=
  ⟨fun o => hb.cell (p := ⟨b, o, none⟩) h, Nat.lt_of_lt_of_le h hb.size⟩
theorem olds {W w1 : World} (hb : Below W.heap.size W w1) (b o : Nat) (h : b < W.heap.size) : w1.cell? ⟨b, o, none⟩ = W.cell? ⟨b, o, none⟩ := (keep hb b h).1 o
theorem keepf {W w1 : World} (hb : Below W.heap.size W w1) (b : Nat) (h : b < W.heap.size) : (∀ o, w1.cell? ⟨b, o, none⟩ = W.cell? ⟨b, o, none⟩) ∧ (∀ o, w1.frozen? ⟨b, o, none⟩ = W.frozen? ⟨b, o, none⟩) ∧ b < w1.heap.size :=
  ⟨fun o => hb.cell (p := ⟨b, o, none⟩) h, fun o => hb.frozen (p := ⟨b, o, none⟩) h, Nat.lt_of_lt_of_le h hb.size⟩
theorem below_next {W a b : World} (h : Below W.heap.size W a) (k : Below a.heap.size a b) : Below W.heap.size W b := h.trans (k.mono h.size)
theorem set2 {w : World} {B : Nat} {u v a b : Value} (h0 : w.cell? ⟨B, 0, none⟩ = some u) (h1 : w.cell? ⟨B, 1, none⟩ = some v) :
    ((w.setCell ⟨B, 0, none⟩ a).setCell ⟨B, 1, none⟩ b).cell? ⟨B, 0, none⟩ = some a ∧ ((w.setCell ⟨B, 0, none⟩ a).setCell ⟨B, 1, none⟩ b).cell? ⟨B, 1, none⟩ = some b := by
  have e1 : (w.setCell ⟨B, 0, none⟩ a).cell? ⟨B, 0, none⟩ = some a := World.cell?_setCell_same w _ a h0
  have e2 : (w.setCell ⟨B, 0, none⟩ a).cell? ⟨B, 1, none⟩ = some v := (World.cell?_setCell_other w _ _ a (by simp)).trans h1
  exact ⟨(World.cell?_setCell_other _ _ _ b (by simp)).trans e1, World.cell?_setCell_same _ _ b e2⟩
theorem ball {W a : World} {o : Obj} (h : Below W.heap.size W a) : Below W.heap.size W (a.alloc o) := h.alloc h.size o
theorem below_step {W a b : World} {o : Obj} (h : Below W.heap.size W a) (k : Below (a.alloc o).heap.size (a.alloc o) b) : Below W.heap.size W b :=
  below_next (h.alloc h.size o) k

theorem add_any (x y : Nat) (w : World) (hx : x < 340282366920938463463374607431768211456) (hy : y < 340282366920938463463374607431768211456) :
    Calls Tryz.prog 72 #[.agg #[.int .u64 (hiQ x), .int .u64 (loQ x)], .agg #[.int .u64 (hiQ y), .int .u64 (loQ y)]] w fun e w' => e = .returned (.tuple #[.agg #[.int .u64 (hiQ (addR x y)), .int .u64 (loQ (addR x y))], .bool (addB x y)]) ∧ Below w.heap.size w w' := by
  by_cases h : x + y < 340282366920938463463374607431768211456
  · rw [show addR x y = x + y from if_pos h, show addB x y = true from decide_eq_true h]; exact add_x x y w hx hy h
  · rw [show addR x y = 0 from if_neg h, show addB x y = false from decide_eq_false h, hiQ_zero, loQ_zero]; exact add_no x y w hx hy (by omega)
theorem less_any (x y : Nat) (w : World) :
    Calls Tryz.prog 65 #[.agg #[.int .u64 (hiQ x), .int .u64 (loQ x)], .agg #[.int .u64 (hiQ y), .int .u64 (loQ y)]] w fun e w' => e = .returned (.bool (ltB x y)) ∧ Below w.heap.size w w' := less_x x y w

theorem less_is (x y : Nat) (w : World) (b : Bool) (h : ltB x y = b) :
    Calls Tryz.prog 65 #[.agg #[.int .u64 (hiQ x), .int .u64 (loQ x)], .agg #[.int .u64 (hiQ y), .int .u64 (loQ y)]] w fun e w' => e = .returned (.bool b) ∧ Below w.heap.size w w' := h ▸ less_any x y w
theorem mask_at (j : Nat) (w : World) (h : j ≤ 128) :
    Calls Tryz.prog 90 #[.int .i64 j] w fun e w' => e = .returned (.agg #[.int .u64 (hiQ (maskQ j)), .int .u64 (loQ (maskQ j))]) ∧ Below w.heap.size w w' := mask_x j w (by omega) (by omega)
theorem mask_succ (j : Nat) (w : World) (h : j < 128) :
    Calls Tryz.prog 90 #[.int .i64 ((j : Int) + 1)] w fun e w' => e = .returned (.agg #[.int .u64 (hiQ (maskQ (j + 1))), .int .u64 (loQ (maskQ (j + 1)))]) ∧ Below w.heap.size w w' := mask_at (j + 1) w (by omega)
theorem mask_128 (w : World) :
    Calls Tryz.prog 90 #[.int .i64 128] w fun e w' => e = .returned (.agg #[.int .u64 (hiQ (maskQ 128)), .int .u64 (loQ (maskQ 128))]) ∧ Below w.heap.size w w' := mask_at 128 w (by omega)
theorem bit_at (j : Nat) (w : World) (h : j < 128) :
    Calls Tryz.prog 66 #[.int .i64 j] w fun e w' => e = .returned (.agg #[.int .u64 (hiQ (2 ^ j)), .int .u64 (loQ (2 ^ j))]) ∧ Below w.heap.size w w' := bit_x j w (by omega) (by omega)
theorem bit_sub (j : Nat) (w : World) (h : j < 128) :
    Calls Tryz.prog 66 #[.int .i64 (127 - (j : Int))] w fun e w' => e = .returned (.agg #[.int .u64 (hiQ (2 ^ (127 - j))), .int .u64 (loQ (2 ^ (127 - j)))]) ∧ Below w.heap.size w w' := by
  have := bit_at (127 - j) w (by omega)
  rw [show (((127 - j : Nat) : Int)) = 127 - (j : Int) from by omega] at this
  exact this
theorem bit_v (j : Nat) (w : World) (h : j ≤ 128) :
    Calls Tryz.prog 66 #[.int .i64 j] w fun e w' => e = .returned (.agg #[.int .u64 (hiQ (bitV j)), .int .u64 (loQ (bitV j))]) ∧ Below w.heap.size w w' := by
  by_cases h1 : j < 128
  · rw [show bitV j = 2 ^ j from if_pos h1]; exact bit_at j w h1
  · rw [show bitV j = 0 from if_neg h1, hiQ_zero, loQ_zero]; exact bit_no j w (by omega)
theorem bit_v127 (j : Nat) (w : World) (h : j < 128) :
    Calls Tryz.prog 66 #[.int .i64 (127 - (j : Int))] w fun e w' => e = .returned (.agg #[.int .u64 (hiQ (bitV (127 - j))), .int .u64 (loQ (bitV (127 - j)))]) ∧ Below w.heap.size w w' := by
  have := bit_v (127 - j) w (by omega)
  rw [show (((127 - j : Nat) : Int)) = 127 - (j : Int) from by omega] at this
  exact this

theorem aw_add1 (w : World) : Calls Tryz.prog 72 #[.agg #[.int .u64 0, .int .u64 18446744073709551615], .agg #[.int .u64 0, .int .u64 1]] w fun e w' => e = .returned (.tuple #[.agg #[.int .u64 1, .int .u64 0], .bool true]) ∧ Below w.heap.size w w' :=
  add_x 18446744073709551615 1 w (by decide) (by decide) (by decide)
theorem aw_add2 (w : World) : Calls Tryz.prog 72 #[.agg #[.int .u64 18446744073709551615, .int .u64 18446744073709551615], .agg #[.int .u64 0, .int .u64 1]] w fun e w' => e = .returned (.tuple #[.agg #[.int .u64 0, .int .u64 0], .bool false]) ∧ Below w.heap.size w w' :=
  add_no 340282366920938463463374607431768211455 1 w (by decide) (by decide) (by decide)
theorem aw_mask (w : World) : Calls Tryz.prog 90 #[.int .i64 65] w fun e w' => e = .returned (.agg #[.int .u64 18446744073709551615, .int .u64 9223372036854775808]) ∧ Below w.heap.size w w' :=
  mask_x 65 w (by decide) (by decide)
theorem aw_low (w : World) (ht : TabOk w) : Calls Tryz.prog 71 #[.agg #[.int .u64 0, .int .u64 0]] w fun e w' => e = .returned (.int .i64 128) ∧ Below w.heap.size w w' :=
  low_x 0 w ht (by decide)
theorem aw_bit (w : World) : Calls Tryz.prog 66 #[.int .i64 64] w fun e w' => e = .returned (.agg #[.int .u64 1, .int .u64 0]) ∧ Below w.heap.size w w' :=
  bit_x 64 w (by decide) (by decide)
theorem aw_less (w : World) : Calls Tryz.prog 65 #[.agg #[.int .u64 0, .int .u64 5], .agg #[.int .u64 1, .int .u64 0]] w fun e w' => e = .returned (.bool true) ∧ Below w.heap.size w w' :=
  less_x 5 18446744073709551616 w

end Go.Proofs.YtmnemjhkmllniaaGreatDoor
