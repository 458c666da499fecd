/- Package json: digits. -/
import Derived.Test.YtgiihljiekagdaaDoorKf
namespace Go.Proofs.YtgiihljiekagdaaDoor
open Go.ChangeShapes Go.WideShapes Go.RowKit Go.Sort
/-- A hex digit. -/
def hexE (r : Option Nat) : Value := match r with
  | some d => .tuple #[.int .i32 (d : Int), .bool true]
  | none => .tuple #[.int .i32 0, .bool false]
set_option maxHeartbeats 4000000 in
set_option maxRecDepth 100000 in
theorem isDigit_x (y : UInt8) (w : World) : Calls Tryd.prog 34 #[.int .u8 (y.toNat : Int)] w fun e w' => e = .returned (.bool (digitJ y)) ∧ w' = w := by
  have hd : digitJ y = (decide ((48 : Int) ≤ (y.toNat : Int)) && decide ((y.toNat : Int) ≤ 57)) := by
    have : ∀ n, n < 256 → digitJ (UInt8.ofNat n) = (decide (48 ≤ n) && decide (n ≤ 57)) := by decide +kernel
    have h := this y.toNat y.toNat_lt
    simp only [UInt8.ofNat_toNat] at h
    rw [h]
    congr 1 <;> (congr 1; simp <;> omega)
  rw [hd]
  clear hd
  generalize y.toNat = u at *
  by_cases h1 : (48 : Int) ≤ (u : Int)
  · go_enter Tryd.func34, Tryd.ntmps34
    go_wp2
    go_ret
    exact ⟨by simp [h1], rfl⟩
  · have h2 : ¬ ((48 : Int) ≤ (u : Int)) := h1
    go_enter Tryd.func34, Tryd.ntmps34
    go_wp2
    go_ret
    exact ⟨by simp; omega, rfl⟩
set_option maxHeartbeats 4000000 in
set_option maxRecDepth 100000 in
theorem hexDigit_x (y : UInt8) (w : World) : Calls Tryd.prog 100 #[.int .u8 (y.toNat : Int)] w fun e w' => e = .returned (hexE (hexJ y)) ∧ w' = w := by
  have HD := Lib.hid (fun V => isDigit_x y V)
  have hx : hexJ y = if digitJ y then some (y.toNat - 48) else if 97 ≤ y.toNat ∧ y.toNat ≤ 102 then some (y.toNat - 87) else if 65 ≤ y.toNat ∧ y.toNat ≤ 70 then some (y.toNat - 55) else none := by
    have : ∀ n, n < 256 → hexJ (UInt8.ofNat n) = if digitJ (UInt8.ofNat n) then some (n - 48) else if 97 ≤ n ∧ n ≤ 102 then some (n - 87) else if 65 ≤ n ∧ n ≤ 70 then some (n - 55) else none := by decide +kernel
    have h := this y.toNat y.toNat_lt
    simpa only [UInt8.ofNat_toNat] using h
  have hdg : digitJ y = true → 48 ≤ y.toNat ∧ y.toNat ≤ 57 := by
    have : ∀ n, n < 256 → digitJ (UInt8.ofNat n) = true → 48 ≤ n ∧ n ≤ 57 := by decide +kernel
    have h := this y.toNat y.toNat_lt
    simpa only [UInt8.ofNat_toNat] using h
  rw [hx]
  clear hx
  cases hdd : digitJ y with
  | true =>
    rw [hdd] at HD
    have hb := hdg hdd
    clear hdg hdd
    generalize y.toNat = u at *
    have e1 : IntKind.u8.wrap ((u : Int) - 48) = ((u - 48 : Nat) : Int) := by rw [IntKind.wrap_u8]; omega
    have hb1 := Lib.hid hb
    clear hb
    go_enter Tryd.func100, Tryd.ntmps100
    go_wp2_with fail
    refine (HD.out _).mono ?_
    rintro e w1 ⟨rfl, rfl⟩
    have e2 : wrap32 ((u - 48 : Nat) : Int) = ((u - 48 : Nat) : Int) := by have := hb1.out; unfold wrap32; omega
    go_wp2_with fail
    go_ret2
    exact ⟨rfl, rfl⟩
  | false =>
    rw [hdd] at HD
    clear hdg hdd
    generalize y.toNat = u at *
    rw [if_neg (by decide)]
    by_cases hA : 97 ≤ u ∧ u ≤ 102
    · rw [if_pos hA]
      obtain ⟨a1, a2⟩ := hA
      have e1 : IntKind.u8.wrap ((u : Int) - 97) = ((u - 97 : Nat) : Int) := by rw [IntKind.wrap_u8]; omega
      have e3 : IntKind.u8.wrap (((u - 97 : Nat) : Int) + 10) = ((u - 87 : Nat) : Int) := by rw [IntKind.wrap_u8]; omega
      have e2 : wrap32 ((u - 87 : Nat) : Int) = ((u - 87 : Nat) : Int) := by unfold wrap32; omega
      have b1 : (97 : Int) ≤ (u : Int) := by omega
      have b2 : (u : Int) ≤ 102 := by omega
      clear a1 a2
      generalize u - 97 = p at *
      generalize u - 87 = q at *
      go_enter Tryd.func100, Tryd.ntmps100
      go_wp2_with fail
      refine (HD.out _).mono ?_
      rintro e w1 ⟨rfl, rfl⟩
      go_wp2_with fail
      go_ret2
      exact ⟨by show Ending.returned (.tuple #[.int .i32 (wrap32 (q : Int)), .bool true]) = _; rw [e2]; rfl, rfl⟩
    · rw [if_neg hA]
      by_cases hB : 65 ≤ u ∧ u ≤ 70
      · rw [if_pos hB]
        obtain ⟨a1, a2⟩ := hB
        have e1 : IntKind.u8.wrap ((u : Int) - 65) = ((u - 65 : Nat) : Int) := by rw [IntKind.wrap_u8]; omega
        have e3 : IntKind.u8.wrap (((u - 65 : Nat) : Int) + 10) = ((u - 55 : Nat) : Int) := by rw [IntKind.wrap_u8]; omega
        have e2 : wrap32 ((u - 55 : Nat) : Int) = ((u - 55 : Nat) : Int) := by unfold wrap32; omega
        have b0 : ¬ ((97 : Int) ≤ (u : Int)) := by omega
        have b1 : (65 : Int) ≤ (u : Int) := by omega
        have b2 : (u : Int) ≤ 70 := by omega
        clear a1 a2 hA
        generalize u - 65 = p at *
        generalize u - 55 = q at *
        go_enter Tryd.func100, Tryd.ntmps100
        go_wp2_with fail
        refine (HD.out _).mono ?_
        rintro e w1 ⟨rfl, rfl⟩
        go_wp2_with fail
        go_ret2
        exact ⟨rfl, rfl⟩
      · rw [if_neg hB]
        have HA : Hid (¬ (97 ≤ u ∧ u ≤ 102)) := hA
        have HB : Hid (¬ (65 ≤ u ∧ u ≤ 70)) := hB
        clear hA hB
        by_cases g1 : (97 : Int) ≤ (u : Int)
        · have g2 : ¬ ((u : Int) ≤ 102) := by have := HA.out; omega
          have g3 : (65 : Int) ≤ (u : Int) := by omega
          have g4 : ¬ ((u : Int) ≤ 70) := by omega
          go_enter Tryd.func100, Tryd.ntmps100
          go_wp2_with fail
          refine (HD.out _).mono ?_
          rintro e w1 ⟨rfl, rfl⟩
          go_wp2_with fail
          go_ret2
          exact ⟨rfl, rfl⟩
        · by_cases g3 : (65 : Int) ≤ (u : Int)
          · have g4 : ¬ ((u : Int) ≤ 70) := by have := HB.out; omega
            go_enter Tryd.func100, Tryd.ntmps100
            go_wp2_with fail
            refine (HD.out _).mono ?_
            rintro e w1 ⟨rfl, rfl⟩
            go_wp2_with fail
            go_ret2
            exact ⟨rfl, rfl⟩
          · go_enter Tryd.func100, Tryd.ntmps100
            go_wp2_with fail
            refine (HD.out _).mono ?_
            rintro e w1 ⟨rfl, rfl⟩
            go_wp2_with fail
            go_ret2
            exact ⟨rfl, rfl⟩
end Go.Proofs.YtgiihljiekagdaaDoor
