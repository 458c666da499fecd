/- More walks of package quad: the lowest bit, masks, single bits. -/
import Derived.Test.YtkmbfnjmgimlhaaGreatDoorChecked
import Derived.WalkKit
import Derived.Lib.TrailingZeros
import Derived.Lib.LaidTab
import Derived.Test.YtkmbfnjmgimlhaaGreatDoorzQm
namespace Go.Proofs.YtkmbfnjmgimlhaaGreatDoor
open Go.ChangeShapes Go.WideShapes Go.RowKit

/-- The table of the library's TrailingZeros64 lies in the block of its variable. -/
def TabOk (w : World) : Prop := ∀ k, k < 64 → w.cell? ⟨0, k, none⟩ = some (.int .u8 ((Lib.deBruijn64tab.getD k 0 : Nat) : Int))
theorem TabOk.pos {w : World} (h : TabOk w) : 0 < w.heap.size := block_lt_of_cell (h 0 (by decide))
theorem TabOk.below {w w' : World} {B : Nat} (h : TabOk w) (hb : Below B w w') (hB : 0 < B) : TabOk w' := fun k hk => by
  rw [hb.cell (p := ⟨0, k, none⟩) hB]; exact h k hk

theorem tz_index (n : Nat) (h0 : n ≠ 0) (hn : n < 18446744073709551616) :
    ∃ j : Nat, j < 64 ∧ IntKind.u64.wrap (bits BinOp.and IntKind.u64 (n : Int) (IntKind.u64.wrap (-(n : Int))) * 285870213051353865) / 288230376151711744 = (j : Int) ∧ Lib.deBruijn64tab.getD j 0 = Lib.ctz 64 n := by
  obtain ⟨h1, h2⟩ := Lib.lowest_bit 64 n h0 (by rw [pow64]; exact hn)
  have h3 := Lib.deBruijn64_at (Lib.ctz 64 n) h2
  refine ⟨_, h3.1, ?_, h3.2⟩
  have e : IntKind.u64.wrap (-(n : Int)) = ((18446744073709551616 - n : Nat) : Int) := by rw [IntKind.wrap_u64]; omega
  rw [e, u64_and_nat _ _ hn (by omega), ← pow64, h1, IntKind.wrap_u64]
  generalize 2 ^ Lib.ctz 64 n = p
  omega

set_option maxHeartbeats 400000 in
theorem tz_x (n : Nat) (w : World) (ht : TabOk w) (h0 : n ≠ 0) (hn : n < 18446744073709551616) :
    Calls Tryz.prog 92 #[.int .u64 n] w fun e w' => e = .returned (.int .i64 (Lib.ctz 64 n : Nat)) ∧ w' = w := by
  have h1 : ((n : Int) == 0) = false := by rw [beq_eq_false_iff_ne]; omega
  obtain ⟨j, hj, hi, hk⟩ := tz_index n h0 hn
  have hc := ht j hj
  rw [hk] at hc
  have hlt : Lib.ctz 64 n < 64 := (Lib.lowest_bit 64 n h0 (by rw [pow64]; exact hn)).2
  have hj' : (j : Int) < 64 := by omega
  generalize Lib.ctz 64 n = z at *
  clear h0 hn ht hk
  go_enter Tryz.func92, Tryz.ntmps92
  go_wp2
  go_ret
  exact ⟨rfl, rfl⟩
set_option maxHeartbeats 400000 in
theorem tz_0 (w : World) :
    Calls Tryz.prog 92 #[.int .u64 0] w fun e w' => e = .returned (.int .i64 64) ∧ w' = w := by
  go_enter Tryz.func92, Tryz.ntmps92
  go_wp2
  go_ret
  exact ⟨rfl, rfl⟩
theorem tz_any (n : Int) (w : World) (ht : TabOk w) (h0 : 0 ≤ n) (hn : n < 18446744073709551616) :
    Calls Tryz.prog 92 #[.int .u64 n] w fun e w' => e = .returned (.int .i64 (Lib.ctz 64 n.toNat : Nat)) ∧ w' = w := by
  obtain ⟨k, rfl⟩ := Int.eq_ofNat_of_zero_le h0
  by_cases h : k = 0
  · subst h; exact tz_0 w
  · exact tz_x k w ht h (by omega)
set_option maxHeartbeats 400000 in
theorem low_x (x : Nat) (w : World) (ht : TabOk w) (hx : x < 340282366920938463463374607431768211456) :
    Calls Tryz.prog 68 #[.agg #[.int .u64 (hiQ x), .int .u64 (loQ x)]] w fun e w' => e = .returned (.int .i64 (lowQ x : Nat)) ∧ Below w.heap.size w w' := by
  have a1 := hiQ_nn x; have a2 := hiQ_lt x hx; have a3 := loQ_nn x; have a4 := loQ_lt x
  have ht' : ∀ o, TabOk (w.alloc o) := fun o => ht.below (B := w.heap.size) ((Below.refl _ _).alloc (Nat.le_refl _) o) ht.pos
  by_cases hl : x % 18446744073709551616 = 0
  · have e : loQ x = 0 := by unfold loQ; omega
    have h1 : (loQ x != 0) = false := by simp [e]
    have hq := lowQ_hi x hl hx
    have hh : (hiQ x).toNat = x / 18446744073709551616 := by unfold hiQ; omega
    rw [← hh] at hq
    have hb : Lib.ctz 64 (hiQ x).toNat ≤ 64 := by
      unfold Lib.ctz; split
      · omega
      · rename_i h0; have := (Lib.ctzFrom_spec 64 (hiQ x).toNat (by omega) (by rw [pow64]; omega)); omega
    rw [hq]
    have HT := ht'
    clear e hq hh hx hl ht ht'
    go_enter Tryz.func68, Tryz.ntmps68
    go_wp2_with (go_at_call 92; refine (tz_any _ _ (HT _) (by omega) (by omega)).mono ?_; rintro e w' ⟨rfl, rfl⟩)
    go_ret
    exact ⟨by simp, (Below.refl _ _).alloc (Nat.le_refl _) _⟩
  · have h1 : (loQ x != 0) = true := by rw [bne_iff_ne]; unfold loQ; omega
    have hq := lowQ_lo x hl
    have hh : (loQ x).toNat = x % 18446744073709551616 := by unfold loQ; omega
    rw [← hh] at hq
    rw [hq]
    have HT := ht'
    clear hq hh hx hl ht ht'
    go_enter Tryz.func68, Tryz.ntmps68
    go_wp2_with (go_at_call 92; refine (tz_any _ _ (HT _) (by omega) (by omega)).mono ?_; rintro e w' ⟨rfl, rfl⟩)
    go_ret
    exact ⟨by simp, (Below.refl _ _).alloc (Nat.le_refl _) _⟩

set_option maxHeartbeats 400000 in
theorem bit_lo (n : Int) (w : World) (h0 : 0 ≤ n) (hn : n < 64) :
    Calls Tryz.prog 98 #[.int .i64 n] w fun e w' => e = .returned (.agg #[.int .u64 (hiQ (2 ^ n.toNat)), .int .u64 (loQ (2 ^ n.toNat))]) ∧ Below w.heap.size w w' := by
  have hh := half_bit_lo n.toNat (by omega)
  have H : Hid (hiQ (2 ^ n.toNat) = 0 ∧ loQ (2 ^ n.toNat) = IntKind.u64.wrap (2 ^ n.toNat)) := hh
  clear hh
  go_enter Tryz.func98, Tryz.ntmps98
  go_wp2
  exact bodyPost_ret (v := .agg #[.int .u64 (hiQ (2 ^ n.toNat)), .int .u64 (loQ (2 ^ n.toNat))]) (by rw [H.out.1, H.out.2]; simp [results, Tryz.results98, go_sem]) rfl ⟨rfl, (Below.refl _ _).alloc (Nat.le_refl _) _⟩
set_option maxHeartbeats 400000 in
theorem bit_hi (n : Int) (w : World) (h0 : 64 ≤ n) (hn : n < 128) :
    Calls Tryz.prog 98 #[.int .i64 n] w fun e w' => e = .returned (.agg #[.int .u64 (hiQ (2 ^ n.toNat)), .int .u64 (loQ (2 ^ n.toNat))]) ∧ Below w.heap.size w w' := by
  have hh := half_bit_hi' (n - 64).toNat (by omega)
  rw [show 64 + (n - 64).toNat = n.toNat from by omega] at hh
  have H : Hid (hiQ (2 ^ n.toNat) = IntKind.u64.wrap (2 ^ (n - 64).toNat) ∧ loQ (2 ^ n.toNat) = 0) := hh
  clear hh
  go_enter Tryz.func98, Tryz.ntmps98
  go_wp2
  exact bodyPost_ret (v := .agg #[.int .u64 (hiQ (2 ^ n.toNat)), .int .u64 (loQ (2 ^ n.toNat))]) (by rw [H.out.1, H.out.2]; simp [results, Tryz.results98, go_sem]) rfl ⟨rfl, (Below.refl _ _).alloc (Nat.le_refl _) _⟩
theorem bit_x (n : Int) (w : World) (h0 : 0 ≤ n) (hn : n < 128) :
    Calls Tryz.prog 98 #[.int .i64 n] w fun e w' => e = .returned (.agg #[.int .u64 (hiQ (2 ^ n.toNat)), .int .u64 (loQ (2 ^ n.toNat))]) ∧ Below w.heap.size w w' := by
  by_cases h : n < 64
  · exact bit_lo n w h0 h
  · exact bit_hi n w (by omega) hn
set_option maxHeartbeats 400000 in
theorem bit_no (n : Int) (w : World) (h : n < 0 ∨ 127 < n) :
    Calls Tryz.prog 98 #[.int .i64 n] w fun e w' => e = .returned (.agg #[.int .u64 0, .int .u64 0]) ∧ Below w.heap.size w w' := by
  rcases h with h | h
  · go_enter Tryz.func98, Tryz.ntmps98
    go_wp2
    exact bodyPost_ret (v := .agg #[.int .u64 0, .int .u64 0]) (by simp [results, Tryz.results98, go_sem]) rfl ⟨rfl, (Below.refl _ _).alloc (Nat.le_refl _) _⟩
  · have h' : ¬ n < 0 := by omega
    go_enter Tryz.func98, Tryz.ntmps98
    go_wp2
    exact bodyPost_ret (v := .agg #[.int .u64 0, .int .u64 0]) (by simp [results, Tryz.results98, go_sem]) rfl ⟨rfl, (Below.refl _ _).alloc (Nat.le_refl _) _⟩

set_option maxHeartbeats 400000 in
theorem highest_x (n : Int) (w : World) (h0 : 0 ≤ n) (hn : n ≤ 64) :
    Calls Tryz.prog 115 #[.int .u64 n] w fun e w' => e = .returned (.int .u64 (18446744073709551615 - 18446744073709551615 / 2 ^ n.toNat)) ∧ w' = w := by
  obtain ⟨k, rfl⟩ := Int.eq_ofNat_of_zero_le h0
  have hh := u64_not _ (ones_shr k).1 (ones_shr k).2
  rw [Int.toNat_natCast, ← hh]
  clear hh
  go_enter Tryz.func115, Tryz.ntmps115
  go_wp2
  go_ret
  exact ⟨rfl, rfl⟩

set_option maxHeartbeats 400000 in
theorem mask_lo (n : Int) (w : World) (h0 : 0 ≤ n) (hn : n ≤ 64) :
    Calls Tryz.prog 99 #[.int .i64 n] w fun e w' => e = .returned (.agg #[.int .u64 (hiQ (maskQ n.toNat)), .int .u64 (loQ (maskQ n.toNat))]) ∧ Below w.heap.size w w' := by
  rw [(half_mask_lo n.toNat (by omega)).1, (half_mask_lo n.toNat (by omega)).2]
  generalize hm : (18446744073709551615 : Int) - 18446744073709551615 / 2 ^ n.toNat = m
  have hc : ∀ w, Calls Tryz.prog 115 #[.int .u64 n] w fun e w' => e = .returned (.int .u64 m) ∧ w' = w := fun w => by rw [← hm]; exact highest_x n w h0 hn
  have HC : Hid (∀ w, Calls Tryz.prog 115 #[.int .u64 n] w fun e w' => e = .returned (.int .u64 m) ∧ w' = w) := hc
  clear hc hm
  go_enter Tryz.func99, Tryz.ntmps99
  go_wp2_with (go_at_call 115; refine (HC.out _).mono ?_; rintro e w' ⟨rfl, rfl⟩)
  exact bodyPost_ret (v := .agg #[.int .u64 m, .int .u64 0]) (by simp [results, Tryz.results99, go_sem]) rfl ⟨rfl, (Below.refl _ _).alloc (Nat.le_refl _) _⟩
set_option maxHeartbeats 400000 in
theorem mask_hi (n : Int) (w : World) (h0 : 64 < n) (hn : n ≤ 128) :
    Calls Tryz.prog 99 #[.int .i64 n] w fun e w' => e = .returned (.agg #[.int .u64 (hiQ (maskQ n.toNat)), .int .u64 (loQ (maskQ n.toNat))]) ∧ Below w.heap.size w w' := by
  have hh := half_mask_hi' (n - 64).toNat (by omega)
  rw [show 64 + (n - 64).toNat = n.toNat from by omega] at hh
  rw [hh.1, hh.2]
  generalize hm : (18446744073709551615 : Int) - 18446744073709551615 / 2 ^ (n - 64).toNat = m
  have hc : ∀ w, Calls Tryz.prog 115 #[.int .u64 (n - 64)] w fun e w' => e = .returned (.int .u64 m) ∧ w' = w := fun w => by rw [← hm]; exact highest_x (n - 64) w (by omega) (by omega)
  have HC : Hid (∀ w, Calls Tryz.prog 115 #[.int .u64 (n - 64)] w fun e w' => e = .returned (.int .u64 m) ∧ w' = w) := hc
  clear hc hm hh
  go_enter Tryz.func99, Tryz.ntmps99
  go_wp2_with (go_at_call 115; refine (HC.out _).mono ?_; rintro e w' ⟨rfl, rfl⟩)
  exact bodyPost_ret (v := .agg #[.int .u64 18446744073709551615, .int .u64 m]) (by simp [results, Tryz.results99, go_sem]) rfl ⟨rfl, (Below.refl _ _).alloc (Nat.le_refl _) _⟩
theorem mask_x (n : Int) (w : World) (h0 : 0 ≤ n) (hn : n ≤ 128) :
    Calls Tryz.prog 99 #[.int .i64 n] w fun e w' => e = .returned (.agg #[.int .u64 (hiQ (maskQ n.toNat)), .int .u64 (loQ (maskQ n.toNat))]) ∧ Below w.heap.size w w' := by
  by_cases h : n ≤ 64
  · exact mask_lo n w h0 h
  · exact mask_hi n w (by omega) hn
end Go.Proofs.YtkmbfnjmgimlhaaGreatDoor
