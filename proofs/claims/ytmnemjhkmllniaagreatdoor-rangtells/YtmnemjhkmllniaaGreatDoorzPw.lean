/- The walks of package pref: leading, cutTo, Ok. -/
import Derived.Lib.QuietBelow
import Derived.BigQuiet
import Derived.Deep.RegionHeld3
import Derived.Deep.DeepCutAuto
import Derived.Lib.Hide
import Derived.Test.YtmnemjhkmllniaaGreatDoorzAa
import Derived.Test.YtmnemjhkmllniaaGreatDoorzAm
namespace Go.Proofs.YtmnemjhkmllniaaGreatDoor
open Go.ChangeShapes Go.WideShapes Go.RowKit Go.Sort

set_option maxHeartbeats 400000 in
theorem bits_any (v : Int) (w : World) : Calls Tryz.prog 67 #[.int .i64 v] w fun e w' => e = .returned (.int .i64 (bitsV v)) ∧ Below w.heap.size w w' := by
  by_cases h4 : v = 4
  · subst h4; exact bits_4 w
  · by_cases h6 : v = 6
    · subst h6; exact bits_6 w
    · have e : bitsV v = 0 := by simp [bitsV, h4, h6]
      rw [e]
      have n4 : (v == 4) = false := by simpa using h4
      have n6 : (v == 6) = false := by simpa using h6
      go_enter Tryz.func67, Tryz.ntmps67
      go_wp2
      go_ret
      exact ⟨rfl, Below.refl _ _⟩
set_option maxHeartbeats 400000 in
theorem mask_far (n : Int) (w : World) (h0 : 128 < n) :
    Calls Tryz.prog 90 #[.int .i64 n] w fun e w' => e = .returned (.agg #[.int .u64 (hiQ (maskQ 128)), .int .u64 (loQ (maskQ 128))]) ∧ Below w.heap.size w w' := by
  have hc : ∀ w, Calls Tryz.prog 101 #[.int .u64 64] w fun e w' => e = .returned (.int .u64 18446744073709551615) ∧ w' = w := fun w => highest_x 64 w (by decide) (by decide)
  have HC := Lib.hid hc
  clear hc
  go_enter Tryz.func90, Tryz.ntmps90
  go_wp2_with (go_at_call 101; refine (HC.out _).mono ?_; rintro e w' ⟨rfl, rfl⟩)
  exact bodyPost_ret (v := .agg #[.int .u64 18446744073709551615, .int .u64 18446744073709551615]) (by simp [results, Tryz.results90, go_sem]) rfl ⟨rfl, (Below.refl _ _).alloc (Nat.le_refl _) _⟩
/-- Mask, for every number of bits from 0 on. -/
theorem mask_held (n : Nat) (w : World) :
    Calls Tryz.prog 90 #[.int .i64 n] w fun e w' => e = .returned (.agg #[.int .u64 (hiQ (maskQ (min n 128))), .int .u64 (loQ (maskQ (min n 128)))]) ∧ Below w.heap.size w w' := by
  by_cases h : n ≤ 128
  · rw [Nat.min_eq_left h]; exact mask_at n w h
  · rw [Nat.min_eq_right (by omega)]; exact mask_far n w (by omega)
/-- The mask of the first n bits of an address of this V. -/
def leadM (v : Int) (n : Nat) : Nat := min (128 - bitsV v + n) 128
theorem lead_cut (v : Int) (n x : Nat) (hx : x < 340282366920938463463374607431768211456) : x &&& maskQ (leadM v n) = cutK (hostK v n) x := by
  have := bitsV_le v
  unfold leadM
  rw [and_mask x _ hx (Nat.min_le_right _ _)]
  congr 1
  unfold hostK
  omega
set_option maxHeartbeats 400000 in
theorem lead_x (v : Int) (n : Nat) (w : World) (hn : n ≤ 128) :
    Calls Tryz.prog 75 #[.int .i64 v, .int .i64 n] w fun e w' => e = .returned (.agg #[.int .u64 (hiQ (maskQ (leadM v n))), .int .u64 (loQ (maskQ (leadM v n)))]) ∧ Below w.heap.size w w' := by
  have HB := Lib.hid (bits_any v)
  have hm := mask_held (128 - bitsV v + n)
  have hbv := bitsV_le v
  rw [show ((128 - bitsV v + n : Nat) : Int) = 128 - (bitsV v : Int) + n by omega] at hm
  have HM : Hid (∀ w, Calls Tryz.prog 90 #[.int .i64 (128 - (bitsV v : Int) + n)] w fun e w' => e = .returned (.agg #[.int .u64 (hiQ (maskQ (leadM v n))), .int .u64 (loQ (maskQ (leadM v n)))]) ∧ Below w.heap.size w w') := hm
  clear hm
  generalize maskQ (leadM v n) = M at *
  generalize bitsV v = b at *
  go_enter Tryz.func75, Tryz.ntmps75
  go_wp2_with fail
  refine (HB.out _).mono ?_
  rintro e w1 ⟨rfl, hb1⟩
  obtain ⟨k1, f1, l1⟩ := keepf hb1 w.heap.size (by simp)
  go_wp2_with fail
  refine (HM.out _).mono ?_
  rintro e w2 ⟨rfl, hb2⟩
  obtain ⟨k2, f2, l2⟩ := keepf hb2 w.heap.size l1
  have c0 : w2.cell? ⟨w.heap.size, 0, none⟩ = some (.int .u64 0) := by rw [k2, k1]; simp [go_sem]
  have c1 : w2.cell? ⟨w.heap.size, 1, none⟩ = some (.int .u64 0) := by rw [k2, k1]; simp [go_sem]
  have cf : ∀ o, w2.frozen? ⟨w.heap.size, o, none⟩ = false := fun o => by rw [f2, f1]; simp [go_sem]
  have B2 := below_next (below_next (ball (Below.refl _ _)) hb1) hb2
  clear k1 f1 k2 f2
  go_wp2
  exact bodyPost_ret (v := .agg #[.int .u64 (hiQ M), .int .u64 (loQ M)]) (by simp [results, Tryz.results75, go_sem, c0, c1]) rfl ⟨rfl, (B2.setCell (Nat.le_refl _) _).setCell (Nat.le_refl _) _⟩
set_option maxHeartbeats 1000000 in
theorem cutTo_x (v : Int) (x n : Nat) (w : World) (hx : x < 340282366920938463463374607431768211456) (hn : n ≤ 128) :
    Calls Tryz.prog 69 #[.agg #[.int .i64 v, .int .u64 (hiQ x), .int .u64 (loQ x)], .int .i64 n] w fun e w' => e = .returned (.agg #[.int .i64 v, .int .u64 (hiQ (cutK (hostK v n) x)), .int .u64 (loQ (cutK (hostK v n) x))]) ∧ Below w.heap.size w w' := by
  have HA : Hid (∀ w, Calls Tryz.prog 87 #[.agg #[.int .u64 (hiQ x), .int .u64 (loQ x)], .agg #[.int .u64 (hiQ (maskQ (leadM v n))), .int .u64 (loQ (maskQ (leadM v n)))]] w fun e w' => e = .returned (.agg #[.int .u64 (hiQ (cutK (hostK v n) x)), .int .u64 (loQ (cutK (hostK v n) x))]) ∧ Below w.heap.size w w') := fun w => by
    rw [← lead_cut v n x hx]; exact and_x _ _ w hx (maskQ_lt _)
  have HL := Lib.hid (fun w => lead_x v n w hn)
  generalize cutK (hostK v n) x = y at *
  generalize maskQ (leadM v n) = M at *
  clear hx hn
  obtain ⟨W, hW⟩ : ∃ W, W = (w.alloc (.cells #[.int .i64 v, .int .u64 (hiQ x), .int .u64 (loQ x)] 28)).alloc (.cells #[.int .i64 0, .int .u64 0, .int .u64 0] 28) := ⟨_, rfl⟩
  have z0 : W.cell? ⟨w.heap.size, 0, none⟩ = some (.int .i64 v) := by rw [hW]; simp [go_sem]
  have z1 : W.cell? ⟨w.heap.size, 1, none⟩ = some (.int .u64 (hiQ x)) := by rw [hW]; simp [go_sem]
  have z2 : W.cell? ⟨w.heap.size, 2, none⟩ = some (.int .u64 (loQ x)) := by rw [hW]; simp [go_sem]
  have r0 : W.cell? ⟨w.heap.size + 1, 0, none⟩ = some (.int .i64 0) := by rw [hW]; simp [go_sem]
  have r1 : W.cell? ⟨w.heap.size + 1, 1, none⟩ = some (.int .u64 0) := by rw [hW]; simp [go_sem]
  have r2 : W.cell? ⟨w.heap.size + 1, 2, none⟩ = some (.int .u64 0) := by rw [hW]; simp [go_sem]
  have rf : ∀ o, W.frozen? ⟨w.heap.size + 1, o, none⟩ = false := fun o => by rw [hW]; simp [go_sem]
  have lW : w.heap.size + 1 < W.heap.size := by rw [hW]; simp
  have BW : Below w.heap.size w W := by rw [hW]; exact below2 _ _ _
  go_enter Tryz.func69, Tryz.ntmps69
  go_upto_region 1 with fail
  rw [← hW]
  clear hW
  go_region_held3 (fun w' => w'.cell? ⟨w.heap.size, 0, none⟩ = some (.int .i64 v) ∧ w'.cell? ⟨w.heap.size, 1, none⟩ = some (.int .u64 (hiQ x)) ∧ w'.cell? ⟨w.heap.size, 2, none⟩ = some (.int .u64 (loQ x))) (go_keep)
    (first
      | (go_at_call 75; refine (HL.out _).mono ?_; rintro e w8 ⟨rfl, hb8⟩; obtain ⟨k0, l0⟩ := keep hb8 w.heap.size (by first | omega | (simp; done) | (simp; omega)); obtain ⟨k1, f1, l1⟩ := keepf hb8 (w.heap.size + 1) (by first | omega | (simp; done) | (simp; omega)); have C8 := below_next (W := W) (by repeat (first | exact Below.refl _ _ | apply Below.drew)) hb8)
      | (go_at_call 87; refine (HA.out _).mono ?_; rintro e w9 ⟨rfl, hb9⟩; obtain ⟨m0, n0⟩ := keep hb9 w.heap.size (by first | omega | (simp; done) | (simp; omega)); obtain ⟨m1, g1, n1⟩ := keepf hb9 (w.heap.size + 1) (by first | omega | (simp; done) | (simp; omega)); have C9 := below_next (W := W) (by repeat (first | exact C8 | apply Below.drew)) hb9))
  all_goals
    have B9 := below_next BW C9
    go_wp2
    exact bodyPost_ret (v := .agg #[.int .i64 v, .int .u64 (hiQ y), .int .u64 (loQ y)]) (by simp [results, Tryz.results69, go_sem, *]) rfl ⟨rfl, aset3 B9 (Nat.le_succ _)⟩
end Go.Proofs.YtmnemjhkmllniaaGreatDoor
