/- The second writing's Date: it reads just what package date reads. -/
import Derived.Test.YtjoiedomdliadaaDoorDd
import Derived.Test.YtjoiedomdliadaaDoorEa
import Derived.Test.YtjoiedomdliadaaDoorEn
import Derived.Lib.QuietBelow
namespace Go.Proofs.YtjoiedomdliadaaDoor
open Go.ChangeShapes Go.WideShapes Go.RowKit Go.Sort

theorem digit_iff (c : UInt8) : (48 ≤ c.toNat ∧ c.toNat ≤ 57) ↔ isD c = true := (isD_iff c).symm
theorem block0 : ∀ (X S F : Bt) (a b c : Nat), formV (List.replicate X.length 100 ++ F) (X ++ S) 0 a b c = match decU a X with | some v => formV F S 0 v b c | none => none
  | [], S, F, a, b, c => rfl
  | x :: X, S, F, a, b, c => by
    rw [List.length_cons, List.replicate_succ, List.cons_append, List.cons_append]
    cases hx : isD x with
    | false => rw [formV_nodigit rfl hx]; unfold decU; rw [if_neg (by rw [digit_iff, hx]; simp)]
    | true =>
      rw [formV_digit rfl hx]
      simp only [if_true, show ¬ ((0 : Nat) = 1) by omega, show ¬ ((0 : Nat) = 2) by omega, if_false]
      rw [block0 X S F _ b c]
      conv => rhs; unfold decU
      rw [if_pos ((digit_iff x).2 hx)]
      rfl
theorem block1 : ∀ (X S F : Bt) (a b c : Nat), formV (List.replicate X.length 100 ++ F) (X ++ S) 1 a b c = match decU b X with | some v => formV F S 1 a v c | none => none
  | [], S, F, a, b, c => rfl
  | x :: X, S, F, a, b, c => by
    rw [List.length_cons, List.replicate_succ, List.cons_append, List.cons_append]
    cases hx : isD x with
    | false => rw [formV_nodigit rfl hx]; unfold decU; rw [if_neg (by rw [digit_iff, hx]; simp)]
    | true =>
      rw [formV_digit rfl hx]
      simp only [if_true, show ¬ ((1 : Nat) = 0) by omega, show ¬ ((1 : Nat) = 2) by omega, if_false]
      rw [block1 X S F a _ c]
      conv => rhs; unfold decU
      rw [if_pos ((digit_iff x).2 hx)]
      rfl
theorem block2 : ∀ (X S F : Bt) (a b c : Nat), formV (List.replicate X.length 100 ++ F) (X ++ S) 2 a b c = match decU c X with | some v => formV F S 2 a b v | none => none
  | [], S, F, a, b, c => rfl
  | x :: X, S, F, a, b, c => by
    rw [List.length_cons, List.replicate_succ, List.cons_append, List.cons_append]
    cases hx : isD x with
    | false => rw [formV_nodigit rfl hx]; unfold decU; rw [if_neg (by rw [digit_iff, hx]; simp)]
    | true =>
      rw [formV_digit rfl hx]
      simp only [if_true, show ¬ ((2 : Nat) = 0) by omega, show ¬ ((2 : Nat) = 1) by omega, if_false]
      rw [block2 X S F a b _]
      conv => rhs; unfold decU
      rw [if_pos ((digit_iff x).2 hx)]
      rfl
/-- Three numbers with a sign between. -/
def three (X Y Z : Bt) : Option (Nat × Nat × Nat) := match decU 0 X, decU 0 Y, decU 0 Z with
  | some x, some y, some z => some (x, y, z)
  | _, _, _ => none
theorem form_three (X Y Z : Bt) (c p q : UInt8) (hc : c ≠ 100) : formV (List.replicate X.length 100 ++ c :: (List.replicate Y.length 100 ++ c :: (List.replicate Z.length 100 ++ []))) (X ++ p :: (Y ++ q :: (Z ++ []))) 0 0 0 0 = if c = p ∧ c = q then three X Y Z else none := by
  rw [block0]
  unfold three
  cases hx : decU 0 X with
  | none => simp
  | some x =>
    simp only
    by_cases hp : c = p
    · rw [formV_sign hc hp, block1]
      cases hy : decU 0 Y with
      | none => simp
      | some y =>
        simp only
        by_cases hq : c = q
        · rw [formV_sign hc hq, block2]
          cases hz : decU 0 Z with
          | none => simp
          | some z => rw [if_pos ⟨hp, hq⟩]; simp only [formV]
        · rw [formV_nosign hc hq, if_neg (fun h => hq h.2)]
    · rw [formV_nosign hc hp, if_neg (fun h => hp h.1)]
theorem day_three (a b c d p e f q g h : UInt8) : formV dayF [a, b, c, d, p, e, f, q, g, h] 0 0 0 0 = if (47 : UInt8) = p ∧ (47 : UInt8) = q then three [a, b, c, d] [e, f] [g, h] else none :=
  form_three [a, b, c, d] [e, f] [g, h] 47 p q (by decide)
theorem clock_three (a b p e f q g h : UInt8) : formV clockF [a, b, p, e, f, q, g, h] 0 0 0 0 = if (58 : UInt8) = p ∧ (58 : UInt8) = q then three [a, b] [e, f] [g, h] else none :=
  form_three [a, b] [e, f] [g, h] 58 p q (by decide)
theorem digI_some {l : Bt} {v : Nat} (h : decU 0 l = some v) : digI l = v := by unfold digI; rw [h]
theorem digI_none {l : Bt} (h : decU 0 l = none) : digI l = -1 := by unfold digI; rw [h]
def okI (Y M D H I S : Int) : Bool := decide (1970 ≤ Y) && decide (1 ≤ M) && decide (M ≤ 12) && decide (1 ≤ D) && decide (D ≤ (monL Y.toNat M.toNat : Nat)) && decide (0 ≤ H) && decide (H ≤ 23) && decide (0 ≤ I) && decide (I ≤ 59) && decide (0 ≤ S) && decide (S ≤ 59)
def dateI (Y M D H I S : Int) : Option Nat := if okI Y M D H I S = true then some (dayN Y.toNat M.toNat D.toNat * 86400 + (H.toNat * 3600 + I.toNat * 60 + S.toNat)) else none
theorem dateI_is (A B C D E F : Bt) (a b : Bt) (ha : formV dayF a 0 0 0 0 = three A B C) (hb : formV clockF b 0 0 0 0 = three D E F) : dateV a b = dateI (digI A) (digI B) (digI C) (digI D) (digI E) (digI F) := by
  unfold dateV dayV clockV
  rw [ha, hb]
  unfold three dateI
  cases hA : decU 0 A with
  | none => rw [digI_none hA, if_neg (by simp [okI])]
  | some y =>
    rw [digI_some hA]
    cases hB : decU 0 B with
    | none => rw [digI_none hB, if_neg (by simp [okI])]
    | some m =>
      rw [digI_some hB]
      cases hC : decU 0 C with
      | none => rw [digI_none hC, if_neg (by simp [okI])]
      | some d =>
        rw [digI_some hC]
        cases hD : decU 0 D with
        | none => rw [digI_none hD, if_neg (by simp [okI])]; simp only; split <;> simp_all
        | some h =>
          rw [digI_some hD]
          cases hE : decU 0 E with
          | none => rw [digI_none hE, if_neg (by simp [okI])]; simp only; split <;> simp_all
          | some i =>
            rw [digI_some hE]
            cases hF : decU 0 F with
            | none => rw [digI_none hF, if_neg (by simp [okI])]; simp only; split <;> simp_all
            | some s =>
              rw [digI_some hF]
              simp only [Int.toNat_natCast]
              have key : okI y m d h i s = (dayOk y m d && clockOk h i s) := by
                unfold okI dayOk clockOk
                simp only [Int.toNat_natCast]
                rw [Bool.eq_iff_iff]
                simp only [Bool.and_eq_true, decide_eq_true_eq]
                omega
              rw [key]
              cases h1 : dayOk y m d <;> cases h2 : clockOk h i s <;> simp
theorem decU_lt : ∀ (l : Bt) (acc v : Nat), decU acc l = some v → v < (acc + 1) * 10 ^ l.length
  | [], acc, v, h => by simp [decU] at h; simp; omega
  | c :: r, acc, v, h => by
    unfold decU at h
    split at h
    · have := decU_lt r _ v h
      rw [List.length_cons, Nat.pow_succ]
      calc v < (acc * 10 + (c.toNat - 48) + 1) * 10 ^ r.length := this
        _ ≤ ((acc + 1) * 10) * 10 ^ r.length := Nat.mul_le_mul_right _ (by omega)
        _ = (acc + 1) * (10 ^ r.length * 10) := by rw [Nat.mul_assoc, Nat.mul_comm 10]
    · cases h
theorem digI_lo (l : Bt) : -1 ≤ digI l := by
  unfold digI; split <;> omega
theorem digI_hi (l : Bt) (h : l.length ≤ 4) : digI l ≤ 9999 := by
  unfold digI; split
  · rename_i v hv
    have := decU_lt l 0 v hv
    have : 10 ^ l.length ≤ 10 ^ 4 := Nat.pow_le_pow_right (by decide) h
    omega
  · omega
theorem digB (l : Bs) (n : Int) (w : World) (hl : l.length ≤ 4) (hn : n = l.length) :
    Calls Tryd.prog 26 #[.string (baS l), .int .i64 n] w fun e w' => e = .returned (.int .i64 (digI l)) ∧ Below w.heap.size w w' :=
  (digitsR_x l n w hl hn).mono fun _ _ ⟨a, b⟩ => ⟨a, b ▸ Below.refl _ _⟩
set_option maxHeartbeats 8000000 in
set_option maxRecDepth 100000 in
theorem dateR_ten (A B : ByteArray) (X Y Z U V T : Bs) (w : World) (hA : A.size = 10) (hB : B.size = 8) (a4 : ∀ h, A[4]'h = 47) (a7 : ∀ h, A[7]'h = 47) (b2 : ∀ h, B[2]'h = 58) (b5 : ∀ h, B[5]'h = 58)
    (sX : ∀ V, (Instr.slice 9 (.string A) none (some (.int .i64 4)) none).run Tryd.prog V = .ok (.string (baS X)) V)
    (sY : ∀ V, (Instr.slice 9 (.string A) (some (.int .i64 5)) (some (.int .i64 7)) none).run Tryd.prog V = .ok (.string (baS Y)) V)
    (sZ : ∀ V, (Instr.slice 9 (.string A) (some (.int .i64 8)) none none).run Tryd.prog V = .ok (.string (baS Z)) V)
    (sU : ∀ V, (Instr.slice 9 (.string B) none (some (.int .i64 2)) none).run Tryd.prog V = .ok (.string (baS U)) V)
    (sV : ∀ W, (Instr.slice 9 (.string B) (some (.int .i64 3)) (some (.int .i64 5)) none).run Tryd.prog W = .ok (.string (baS V)) W)
    (sT : ∀ V, (Instr.slice 9 (.string B) (some (.int .i64 6)) none none).run Tryd.prog V = .ok (.string (baS T)) V)
    (lX : X.length = 4) (lY : Y.length = 2) (lZ : Z.length = 2) (lU : U.length = 2) (lV : V.length = 2) (lT : T.length = 2) :
    Calls Tryd.prog 15 #[.string A, .string B] w fun e w' => e = .returned (numR (dateI (digI X) (digI Y) (digI Z) (digI U) (digI V) (digI T))) ∧ Below w.heap.size w w' := by
  have KX := Lib.hid (fun w => digB X 4 w (by omega) (by rw [lX]; rfl))
  have KY := Lib.hid (fun w => digB Y 2 w (by omega) (by rw [lY]; rfl))
  have KZ := Lib.hid (fun w => digB Z 2 w (by omega) (by rw [lZ]; rfl))
  have KU := Lib.hid (fun w => digB U 2 w (by omega) (by rw [lU]; rfl))
  have KV := Lib.hid (fun w => digB V 2 w (by omega) (by rw [lV]; rfl))
  have KT := Lib.hid (fun w => digB T 2 w (by omega) (by rw [lT]; rfl))
  have uX := digI_hi X (by omega); have uY := digI_hi Y (by omega); have uZ := digI_hi Z (by omega); have uU := digI_hi U (by omega); have uV := digI_hi V (by omega); have uT := digI_hi T (by omega)
  have vX := digI_lo X; have vY := digI_lo Y; have vZ := digI_lo Z; have vU := digI_lo U; have vV := digI_lo V; have vT := digI_lo T
  clear lX lY lZ lU lV lT
  generalize digI X = y at *
  generalize digI Y = m at *
  generalize digI Z = d at *
  generalize digI U = h at *
  generalize digI V = i at *
  generalize digI T = s at *
  have HD : Hid (dateI y m d h i s = if okI y m d h i s = true then some (dayN y.toNat m.toNat d.toNat * 86400 + (h.toNat * 3600 + i.toNat * 60 + s.toNat)) else none) := by show _ = _; rfl
  go_enter Tryd.func15, Tryd.ntmps15
  go_wp2_with fail
  refine wp_region_quiet_below (by kernel_rfl) (by kernel_rfl) ?_
  repeat (go_big_quiet_step (fail))
  go_big_quiet_step ((go_at_call 26; exact Calls.regrown_of (KX.out _)))
  repeat (go_big_quiet_step (fail))
  go_big_quiet_step ((go_at_call 26; exact Calls.regrown_of (KY.out _)))
  repeat (go_big_quiet_step (fail))
  go_big_quiet_step ((go_at_call 26; exact Calls.regrown_of (KZ.out _)))
  repeat (go_big_quiet_step (fail))
  refine wpQuiet_nil ?_
  intro w1 hw'
  obtain ⟨q, hw''⟩ := hw'
  have Cw1 : Below w.heap.size w w1 := by rw [hw'']; exact below_regrown w q.d q.os
  clear hw'' q
  go_wp2_with fail
  refine wp_region_quiet_below (by kernel_rfl) (by kernel_rfl) ?_
  repeat (go_big_quiet_step (fail))
  go_big_quiet_step ((go_at_call 26; exact Calls.regrown_of (KU.out _)))
  repeat (go_big_quiet_step (fail))
  go_big_quiet_step ((go_at_call 26; exact Calls.regrown_of (KV.out _)))
  repeat (go_big_quiet_step (fail))
  go_big_quiet_step ((go_at_call 26; exact Calls.regrown_of (KT.out _)))
  repeat (go_big_quiet_step (fail))
  refine wpQuiet_nil ?_
  intro w2 hw'
  obtain ⟨q, hw''⟩ := hw'
  have Cw2 : Below w1.heap.size w1 w2 := by rw [hw'']; exact below_regrown w1 q.d q.os
  clear hw'' q
  have B2 := below_next Cw1 Cw2
  clear Cw1 Cw2 sX sY sZ sU sV sT a4 a7 b2 b5 KX KY KZ KU KV KT
  by_cases c1 : y < 1970
  · have HF : Hid (dateI y m d h i s = none) := by show _ = _; rw [HD.out, if_neg (by simp [okI]; omega)]
    go_wp2
    go_ret2
    exact ⟨by rw [HF.out]; rfl, B2⟩
  · have c1' : 1970 ≤ y := by omega
    by_cases c2 : m < 1
    · have HF : Hid (dateI y m d h i s = none) := by show _ = _; rw [HD.out, if_neg (by simp [okI]; omega)]
      go_wp2
      go_ret2
      exact ⟨by rw [HF.out]; rfl, B2⟩
    · have c2' : 1 ≤ m := by omega
      by_cases c3 : 12 < m
      · have HF : Hid (dateI y m d h i s = none) := by show _ = _; rw [HD.out, if_neg (by simp [okI]; omega)]
        go_wp2
        go_ret2
        exact ⟨by rw [HF.out]; rfl, B2⟩
      · have c3' : m ≤ 12 := by omega
        by_cases c4 : d < 1
        · have HF : Hid (dateI y m d h i s = none) := by show _ = _; rw [HD.out, if_neg (by simp [okI]; omega)]
          go_wp2
          go_ret2
          exact ⟨by rw [HF.out]; rfl, B2⟩
        · have c4' : 1 ≤ d := by omega
          have KM := Lib.hid (fun w => monthR_x y m y.toNat m.toNat w (by omega) (by omega) (by omega) (by omega))
          have HLL : Hid (monL y.toNat m.toNat ≤ 31) := (monL_pos _ _).2
          obtain ⟨L, hL⟩ : ∃ L, monL y.toNat m.toNat = L := ⟨_, rfl⟩
          rw [hL] at KM HLL
          go_wp2_with fail
          refine (KM.out _).mono ?_
          rintro e w3 ⟨rfl, hb3⟩
          have B3 := below_next B2 hb3
          by_cases c5 : (L : Int) < d
          · have HF : Hid (dateI y m d h i s = none) := by show _ = _; rw [HD.out, if_neg (by simp [okI, hL]; omega)]
            clear hL
            go_wp2
            go_ret2
            exact ⟨by rw [HF.out]; rfl, B3⟩
          · have c5' : d ≤ L := by omega
            by_cases c6 : h < 0
            · have HF : Hid (dateI y m d h i s = none) := by show _ = _; rw [HD.out, if_neg (by simp [okI]; omega)]
              clear hL
              go_wp2
              go_ret2
              exact ⟨by rw [HF.out]; rfl, B3⟩
            · have c6' : 0 ≤ h := by omega
              by_cases c7 : 23 < h
              · have HF : Hid (dateI y m d h i s = none) := by show _ = _; rw [HD.out, if_neg (by simp [okI]; omega)]
                clear hL
                go_wp2
                go_ret2
                exact ⟨by rw [HF.out]; rfl, B3⟩
              · have c7' : h ≤ 23 := by omega
                by_cases c8 : i < 0
                · have HF : Hid (dateI y m d h i s = none) := by show _ = _; rw [HD.out, if_neg (by simp [okI]; omega)]
                  clear hL
                  go_wp2
                  go_ret2
                  exact ⟨by rw [HF.out]; rfl, B3⟩
                · have c8' : 0 ≤ i := by omega
                  by_cases c9 : 59 < i
                  · have HF : Hid (dateI y m d h i s = none) := by show _ = _; rw [HD.out, if_neg (by simp [okI]; omega)]
                    clear hL
                    go_wp2
                    go_ret2
                    exact ⟨by rw [HF.out]; rfl, B3⟩
                  · have c9' : i ≤ 59 := by omega
                    by_cases c10 : s < 0
                    · have HF : Hid (dateI y m d h i s = none) := by show _ = _; rw [HD.out, if_neg (by simp [okI]; omega)]
                      clear hL
                      go_wp2
                      go_ret2
                      exact ⟨by rw [HF.out]; rfl, B3⟩
                    · have c10' : 0 ≤ s := by omega
                      by_cases c11 : 59 < s
                      · have HF : Hid (dateI y m d h i s = none) := by show _ = _; rw [HD.out, if_neg (by simp [okI]; omega)]
                        clear hL
                        go_wp2
                        go_ret2
                        exact ⟨by rw [HF.out]; rfl, B3⟩
                      · have c11' : s ≤ 59 := by omega
                        have HF : Hid (dateI y m d h i s = some (dayN y.toNat m.toNat d.toNat * 86400 + (h.toNat * 3600 + i.toNat * 60 + s.toNat))) := by show _ = _; rw [HD.out, if_pos (by simp [okI, hL]; omega)]
                        have h31 := HLL.out
                        have KN := Lib.hid (fun w => daysR_x y m d y.toNat m.toNat d.toNat w (by omega) (by omega) (by omega) (by omega) (by omega) (by omega) (by omega) (by omega) (by omega))
                        have hN : dayN y.toNat m.toNat d.toNat ≤ 3000000 := Nat.le_of_lt (Nat.lt_of_lt_of_le (dayN_lt ⟨by omega, by omega, by omega, by omega, by omega, by omega⟩) (by decide))
                        generalize dayN y.toNat m.toNat d.toNat = Q at *
                        have HR : Hid (((Q * 86400 + (h.toNat * 3600 + i.toNat * 60 + s.toNat) : Nat) : Int) = (Q : Int) * 86400 + h * 3600 + i * 60 + s) := by show _ = _; omega
                        clear hL
                        go_wp2_with fail
                        refine (KN.out _).mono ?_
                        rintro e w4 ⟨rfl, hb4⟩
                        go_wp2
                        go_ret2
                        refine ⟨?_, below_next B3 hb4⟩
                        rw [HF.out]
                        show _ = Ending.returned (.tuple #[.int .u64 _, .bool true])
                        rw [HR.out]
                        rfl
end Go.Proofs.YtjoiedomdliadaaDoor
