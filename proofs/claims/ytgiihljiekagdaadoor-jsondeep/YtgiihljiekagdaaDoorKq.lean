/- Package json: number. -/
import Derived.Test.YtgiihljiekagdaaDoorKv
import Derived.Test.YtgiihljiekagdaaDoorJo
namespace Go.Proofs.YtgiihljiekagdaaDoor
open Go.ChangeShapes Go.WideShapes Go.RowKit Go.Sort
set_option maxHeartbeats 4000000 in
set_option maxRecDepth 100000 in
theorem inNumber_x (y : UInt8) (w : World) : Calls Tryd.prog 44 #[.int .u8 (y.toNat : Int)] w fun e w' => e = .returned (.bool (tailJ y)) ∧ w' = w := by
  have HD := Lib.hid (fun V => isDigit_x y V)
  have ht : tailJ y = (decide (97 ≤ y.toNat ∧ y.toNat ≤ 122) || decide (65 ≤ y.toNat ∧ y.toNat ≤ 90) || digitJ y || decide (y.toNat = 46) || decide (y.toNat = 43) || decide (y.toNat = 45)) := by
    have : ∀ n, n < 256 → tailJ (UInt8.ofNat n) = (decide (97 ≤ n ∧ n ≤ 122) || decide (65 ≤ n ∧ n ≤ 90) || digitJ (UInt8.ofNat n) || decide (n = 46) || decide (n = 43) || decide (n = 45)) := by decide +kernel
    have h := this y.toNat y.toNat_lt
    simpa only [UInt8.ofNat_toNat] using h
  have hdg : digitJ y = true → 48 ≤ y.toNat ∧ y.toNat ≤ 57 := digit_rng
  rw [ht]
  clear ht
  cases hdd : digitJ y with
  | true =>
    have hb := hdg hdd
    rw [hdd] at HD
    clear hdg hdd
    generalize y.toNat = u at *
    have g1 : ¬ ((97 : Int) ≤ (u : Int)) := by omega
    have g2 : ¬ ((65 : Int) ≤ (u : Int)) := by omega
    clear hb
    go_enter Tryd.func44, Tryd.ntmps44
    go_wp2_with fail
    refine (HD.out _).mono ?_
    rintro e w1 ⟨rfl, rfl⟩
    go_wp2_with fail
    go_ret
    exact ⟨by simp, rfl⟩
  | false =>
    rw [hdd] at HD
    clear hdg hdd
    generalize y.toNat = u at *
    by_cases h1 : 97 ≤ u
    · have g1 : (97 : Int) ≤ (u : Int) := by omega
      by_cases h2 : u ≤ 122
      · have g2 : (u : Int) ≤ 122 := by omega
        rw [show (decide (97 ≤ u ∧ u ≤ 122) || decide (65 ≤ u ∧ u ≤ 90) || false || decide (u = 46) || decide (u = 43) || decide (u = 45)) = true by simp [h1, h2]]
        clear h1 h2
        go_enter Tryd.func44, Tryd.ntmps44
        go_wp2_with fail
        go_ret
        exact ⟨by simp, rfl⟩
      · have g2 : ¬ ((u : Int) ≤ 122) := by omega
        have g3 : (65 : Int) ≤ (u : Int) := by omega
        have g4 : ¬ ((u : Int) ≤ 90) := by omega
        have g5 : ¬ ((u : Int) = 46) := by omega
        have g6 : ¬ ((u : Int) = 43) := by omega
        have g7 : ¬ ((u : Int) = 45) := by omega
        rw [show (decide (97 ≤ u ∧ u ≤ 122) || decide (65 ≤ u ∧ u ≤ 90) || false || decide (u = 46) || decide (u = 43) || decide (u = 45)) = false by simp; omega]
        clear h1 h2
        go_enter Tryd.func44, Tryd.ntmps44
        go_wp2_with fail
        refine (HD.out _).mono ?_
        rintro e w1 ⟨rfl, rfl⟩
        go_wp2_with fail
        go_ret
        exact ⟨by simp; try omega, rfl⟩
    · have g1 : ¬ ((97 : Int) ≤ (u : Int)) := by omega
      by_cases h2 : 65 ≤ u
      · have g3 : (65 : Int) ≤ (u : Int) := by omega
        have g5 : ¬ ((u : Int) = 46) := by omega
        have g6 : ¬ ((u : Int) = 43) := by omega
        have g7 : ¬ ((u : Int) = 45) := by omega
        by_cases h3 : u ≤ 90
        · have g4 : (u : Int) ≤ 90 := by omega
          rw [show (decide (97 ≤ u ∧ u ≤ 122) || decide (65 ≤ u ∧ u ≤ 90) || false || decide (u = 46) || decide (u = 43) || decide (u = 45)) = true by simp [h2, h3]]
          clear h1 h2 h3
          go_enter Tryd.func44, Tryd.ntmps44
          go_wp2_with fail
          go_ret
          exact ⟨by simp, rfl⟩
        · have g4 : ¬ ((u : Int) ≤ 90) := by omega
          rw [show (decide (97 ≤ u ∧ u ≤ 122) || decide (65 ≤ u ∧ u ≤ 90) || false || decide (u = 46) || decide (u = 43) || decide (u = 45)) = false by simp; omega]
          clear h1 h2 h3
          go_enter Tryd.func44, Tryd.ntmps44
          go_wp2_with fail
          refine (HD.out _).mono ?_
          rintro e w1 ⟨rfl, rfl⟩
          go_wp2_with fail
          go_ret
          exact ⟨by simp; try omega, rfl⟩
      · have g3 : ¬ ((65 : Int) ≤ (u : Int)) := by omega
        rw [show (decide (97 ≤ u ∧ u ≤ 122) || decide (65 ≤ u ∧ u ≤ 90) || false || decide (u = 46) || decide (u = 43) || decide (u = 45)) = (decide (u = 46) || decide (u = 43) || decide (u = 45)) by
          rw [decide_eq_false (show ¬ (97 ≤ u ∧ u ≤ 122) by omega), decide_eq_false (show ¬ (65 ≤ u ∧ u ≤ 90) by omega)]; simp]
        clear h1 h2
        by_cases h46 : u = 46
        · subst h46
          go_enter Tryd.func44, Tryd.ntmps44
          go_wp2_with fail
          refine (HD.out _).mono ?_
          rintro e w1 ⟨rfl, rfl⟩
          go_wp2_with fail
          go_ret
          exact ⟨by simp, rfl⟩
        · by_cases h43 : u = 43
          · subst h43
            go_enter Tryd.func44, Tryd.ntmps44
            go_wp2_with fail
            refine (HD.out _).mono ?_
            rintro e w1 ⟨rfl, rfl⟩
            go_wp2_with fail
            go_ret
            exact ⟨by simp, rfl⟩
          · have g5 : ¬ ((u : Int) = 46) := by omega
            have g6 : ¬ ((u : Int) = 43) := by omega
            go_enter Tryd.func44, Tryd.ntmps44
            go_wp2_with fail
            refine (HD.out _).mono ?_
            rintro e w1 ⟨rfl, rfl⟩
            go_wp2_with fail
            go_ret
            have b1 : ((u : Int) == 46) = false := by simpa using g5
            have b2 : ((u : Int) == 43) = false := by simpa using g6
            have b3 : ((u : Int) == 45) = decide (u = 45) := by
              by_cases h45 : u = 45
              · subst h45; rfl
              · have : ¬ ((u : Int) = 45) := by omega
                simp [h45, this]
            exact ⟨by simp [h46, h43, b1, b2, b3], rfl⟩
end Go.Proofs.YtgiihljiekagdaaDoor
