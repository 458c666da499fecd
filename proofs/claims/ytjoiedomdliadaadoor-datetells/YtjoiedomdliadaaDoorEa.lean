/- The second writing's Week, leap, month, days. -/
import Derived.Test.YtjoiedomdliadaaDoorDa
import Derived.Test.YtjoiedomdliadaaDoorDb
namespace Go.Proofs.YtjoiedomdliadaaDoor
open Go.ChangeShapes Go.WideShapes Go.RowKit Go.Sort

set_option maxHeartbeats 1000000 in
theorem weekR_x (s : Nat) (w : World) (h : s < 18446744073709551616) :
    Calls Tryd.prog 14 #[.int .u64 s] w fun e w' => e = .returned (.int .i64 (weekN s : Nat)) ∧ w' = w := by
  have h1 : IntKind.u64.wrap ((s : Int) / 86400) = ((s / 86400 : Nat) : Int) := by rw [IntKind.wrap_u64]; omega
  have h2 : IntKind.u64.wrap (((s / 86400 : Nat) : Int) + 4) = ((s / 86400 + 4 : Nat) : Int) := by rw [IntKind.wrap_u64]; omega
  have h3 : (((s / 86400 + 4 : Nat) : Int)).tmod 7 = ((weekN s : Nat) : Int) := by unfold weekN; rw [Int.tmod_eq_emod_of_nonneg (by omega)]; omega
  have h4 : wrap64 ((weekN s : Nat) : Int) = ((weekN s : Nat) : Int) := by unfold wrap64 weekN; omega
  have HS : Hid (wrap64 ((IntKind.u64.wrap (IntKind.u64.wrap ((s : Int) / 86400) + 4)).tmod 7) = ((weekN s : Nat) : Int)) := by show _ = _; rw [h1, h2, h3, h4]
  clear h h1 h2 h3 h4
  go_enter Tryd.func14, Tryd.ntmps14
  go_wp2
  go_ret
  exact ⟨by rw [← HS.out]; rfl, rfl⟩
theorem tmod_nat (y m : Nat) : ((y : Int)).tmod (m : Int) = ((y % m : Nat) : Int) := by rw [Int.tmod_eq_emod_of_nonneg (by omega)]; omega
set_option maxHeartbeats 1000000 in
theorem leapR_x (y : Nat) (w : World) :
    Calls Tryd.prog 36 #[.int .i64 y] w fun e w' => e = .returned (.bool (leapY y)) ∧ w' = w := by
  by_cases h4 : y % 4 = 0
  · have a4 : (((y : Int) % 4) == 0) = true := by rw [beq_iff_eq]; omega
    by_cases h100 : y % 100 = 0
    · have a100 : (((y : Int) % 100) != 0) = false := by rw [bne_eq_false_iff_eq]; omega
      by_cases h400 : y % 400 = 0
      · have a400 : (((y : Int) % 400) == 0) = true := by rw [beq_iff_eq]; omega
        have HR : Hid (leapY y = true) := by show _ = _; simp [leapY, h400]
        clear h4 h100 h400
        go_enter Tryd.func36, Tryd.ntmps36
        go_wp2
        go_ret
        exact ⟨by rw [HR.out]; rfl, rfl⟩
      · have a400 : (((y : Int) % 400) == 0) = false := by rw [beq_eq_false_iff_ne]; omega
        have HR : Hid (leapY y = false) := by show _ = _; simp [leapY, h100, h400]
        clear h4 h100 h400
        go_enter Tryd.func36, Tryd.ntmps36
        go_wp2
        go_ret
        exact ⟨by rw [HR.out]; rfl, rfl⟩
    · have a100 : (((y : Int) % 100) != 0) = true := by rw [bne_iff_ne]; omega
      have HR : Hid (leapY y = true) := by show _ = _; simp [leapY, h4, h100]
      clear h4 h100
      go_enter Tryd.func36, Tryd.ntmps36
      go_wp2
      go_ret
      exact ⟨by rw [HR.out]; rfl, rfl⟩
  · have a4 : (((y : Int) % 4) == 0) = false := by rw [beq_eq_false_iff_ne]; omega
    have a400 : (((y : Int) % 400) == 0) = false := by rw [beq_eq_false_iff_ne]; omega
    have HR : Hid (leapY y = false) := by show _ = _; simp [leapY, h4]; omega
    clear h4
    go_enter Tryd.func36, Tryd.ntmps36
    go_wp2
    go_ret
    exact ⟨by rw [HR.out]; rfl, rfl⟩
set_option maxHeartbeats 2000000 in
set_option maxRecDepth 100000 in
theorem monthR_x (v u : Int) (y m : Nat) (w : World) (h : 1 ≤ m) (h' : m ≤ 12) (hv : v = y) (hu : u = m) :
    Calls Tryd.prog 27 #[.int .i64 v, .int .i64 u] w fun e w' => e = .returned (.int .i64 (monL y m : Nat)) ∧ Below w.heap.size w w' := by
  subst hv hu
  have HL := Lib.hid (fun w => leapR_x y w)
  by_cases hf : m = 2 ∧ leapY y = true
  · obtain ⟨rfl, hy⟩ := hf
    rw [hy] at HL
    have HM : Hid (monL y 2 = 29) := by show _ = _; simp [monL, lpY, hy]
    clear hy h h'
    go_enter Tryd.func27, Tryd.ntmps27
    go_wp2_with fail
    refine (HL.out _).mono ?_
    rintro e w1 ⟨rfl, rfl⟩
    go_wp2
    go_ret
    exact ⟨by rw [HM.out]; rfl, Below.refl _ _⟩
  · have HT := Lib.hid (monTab_is y m h h' hf)
    by_cases h2 : m = 2
    · subst h2
      have hy : leapY y = false := by
        cases hy : leapY y
        · rfl
        · exact absurd ⟨rfl, hy⟩ hf
      rw [hy] at HL
      clear hf hy h h'
      go_enter Tryd.func27, Tryd.ntmps27
      go_wp2_with fail
      refine (HL.out _).mono ?_
      rintro e w1 ⟨rfl, rfl⟩
      go_wp2
      go_ret
      exact ⟨by rw [← HT.out]; rfl, (Below.refl _ _).alloc (Nat.le_refl _) _⟩
    · clear hf HL
      rcases (show m = 1 ∨ m = 3 ∨ m = 4 ∨ m = 5 ∨ m = 6 ∨ m = 7 ∨ m = 8 ∨ m = 9 ∨ m = 10 ∨ m = 11 ∨ m = 12 by omega) with rfl | rfl | rfl | rfl | rfl | rfl | rfl | rfl | rfl | rfl | rfl
      all_goals
        clear h h' h2
        go_enter Tryd.func27, Tryd.ntmps27
        go_wp2
        go_ret
        exact ⟨by rw [← HT.out]; rfl, (Below.refl _ _).alloc (Nat.le_refl _) _⟩
set_option maxHeartbeats 4000000 in
set_option maxRecDepth 100000 in
theorem daysR_x (v u z : Int) (y m d : Nat) (w : World) (hy : 1970 ≤ y) (hy' : y ≤ 10000) (hm : 1 ≤ m) (hm' : m ≤ 12) (hd : 1 ≤ d) (hd' : d ≤ 31) (hv : v = y) (hu : u = m) (hz : z = d) :
    Calls Tryd.prog 24 #[.int .i64 v, .int .i64 u, .int .i64 z] w fun e w' => e = .returned (.int .i64 (dayN y m d : Nat)) ∧ Below w.heap.size w w' := by
  subst hv hu hz
  have hYL := year_leaps y hy
  have hL : leapsN y ≤ 10000 := by unfold leapsN; omega
  have HL2 : Hid (((y : Int) - 1) / 4 - ((y : Int) - 1) / 100 + ((y : Int) - 1) / 400 = ((leapsN y : Nat) : Int)) := by show _ = _; unfold leapsN; omega
  have HM2 := Lib.hid (fun (k : Nat) (h : 1 ≤ k ∧ k ≤ 12) w => monthR_x (y : Int) (k : Int) y k w h.1 h.2 rfl rfl)
  have HL := Lib.hid (show ∀ k, 1 ≤ k → k ≤ 12 → aheadD y k ≤ 1000 from fun k hk hk' => by
    have := aheadD_le (y := y) hk (show k ≤ 13 by omega)
    have := (aheadD_is y).2.2.2.2.2.2.2.2.2.2.2.2
    have := lpY_le y
    omega)
  have HD : Hid (dayN y m d = yearD y + aheadD y m + (d - 1)) := by show _ = _; rfl
  have HA : Hid (aheadD y 1 = 0) := (aheadD_is y).1
  have HY := Lib.hid hYL
  have hw0 : (d : Int) - 1 = ((d - 1 : Nat) : Int) := by omega
  generalize hq : d - 1 = q at *
  have hq31 : q ≤ 30 := by omega
  clear hYL
  go_enter Tryd.func24, Tryd.ntmps24
  go_wp2
  go_loopw [7, 8] (fun dv mv wr => ∃ (n k : Nat), dv = .int .i64 n ∧ mv = .int .i64 k ∧ 1 ≤ k ∧ k ≤ m ∧ n ≤ 2000 ∧ Hid (n = q + aheadD y k) ∧ Below w.heap.size w wr)
    (fun _ mv _ => m - (intOf mv).toNat)
  case atStart => exact ⟨q, 1, by first | rfl | (congr 1; omega), rfl, by omega, hm, by omega, by show _ = _; rw [HA.out]; rfl, Below.refl _ _⟩
  case round =>
    obtain ⟨n, k, rfl, rfl, hk, hkm, hn, hh, hb⟩ := hrel
    by_cases hc : k < m
    · have hc' : (k : Int) < m := by omega
      have HN : Hid (n + monL y k = q + aheadD y (k + 1)) := by show _ = _; rw [aheadD_next y k hk, hh.out]; omega
      have hbn : n + monL y k ≤ 2000 := by rw [HN.out]; have := HL.out (k + 1) (by omega) (by omega); omega
      have K1 := Lib.hid (HM2.out k ⟨hk, by omega⟩)
      generalize monL y k = L2 at *
      clear hh
      go_wp2_with fail
      refine (K1.out _).mono ?_
      rintro e w1 ⟨rfl, hb1⟩
      go_wp2
      go_roundw
      case rel => exact ⟨n + L2, k + 1, by go_num, by go_num, by omega, by omega, hbn, HN, below_next hb hb1⟩
      case measure => simp [intOf]; omega
    · obtain rfl : k = m := by omega
      have HE : Hid (((dayN y k d : Nat) : Int) = (n : Int) + 365 * ((y : Int) - 1970) + ((y : Int) - 1) / 4 - ((y : Int) - 1) / 100 + ((y : Int) - 1) / 400 - 492 + 19 - 4) := by
        show _ = _
        have e1 := HD.out; have e2 := hh.out; have e3 := HY.out; have e4 := HL2.out
        omega
      clear hh
      go_wp2
      go_ret
      refine ⟨?_, hb⟩
      rw [HE.out]
      first | rfl | (congr 2)
end Go.Proofs.YtjoiedomdliadaaDoor
