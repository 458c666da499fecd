/- The second writing's PrintDate: it tells each second as package date does. -/
import Derived.Test.YtjoiedomdliadaaDoorEa
import Derived.Test.YtjoiedomdliadaaDoorEn
namespace Go.Proofs.YtjoiedomdliadaaDoor
open Go.ChangeShapes Go.WideShapes Go.RowKit Go.Sort

theorem yearD_low (n : Nat) : yearD (1970 + n / 366) ≤ n := by
  unfold yearD
  have := (yearK_ge (n / 366)).2
  rw [show 1970 + n / 366 - 1970 = n / 366 by omega]
  omega
theorem dayN_first (y : Nat) : dayN y 1 1 = yearD y := by unfold dayN; rw [(aheadD_is y).1]; omega
set_option maxHeartbeats 8000000 in
set_option maxRecDepth 100000 in
theorem printR_yes (s y m d : Nat) (w : World) (hs : s ≤ 253402300799) (ho : OkD y m d) (he : dayN y m d = s / 86400) :
    Calls Tryd.prog 13 #[.int .u64 s] w fun e w' => e = .returned (.tuple #[.string (baS (dayT y m d)), .string (baS (clockT (s % 86400))), .bool true]) ∧ Below w.heap.size w w' := by
  have h0 : ¬ (253402300799 : Int) < s := by omega
  have hN := dayN_lt ho
  have hyr := dayN_year ho
  have hmo := dayN_month ho
  obtain ⟨o1, o2, o3, o4, o5, o6⟩ := ho
  have hd31 := (monL_pos y m).2
  have hlow := yearD_low (dayN y m d)
  have hz0 : 1970 + dayN y m d / 366 ≤ y := by
    rcases Nat.lt_or_ge y (1970 + dayN y m d / 366) with h | h
    · have := yearD_le (y := y + 1) (z := 1970 + dayN y m d / 366) (by omega) (by omega); omega
    · exact h
  have hq1 : (s : Int) / 86400 = ((dayN y m d : Nat) : Int) := by omega
  obtain ⟨t, ht⟩ : ∃ t, s % 86400 = t := ⟨_, rfl⟩
  have ht' : t < 86400 := by omega
  have hq2 : (s : Int) % 86400 = (t : Int) := by omega
  rw [ht]
  have HDM : Hid (dayN y m 1 + d = dayN y m d + 1) := by show _ = _; unfold dayN; omega
  have HDN := Lib.hid (dayN_first y)
  have HK1 : Hid (∀ z, 1970 ≤ z → z < y → dayN (z + 1) 1 1 ≤ dayN y m d) := fun z hz hzy => by
    rw [dayN_first]; have := yearD_le (y := z + 1) (z := y) (by omega) (by omega); omega
  have HK2 : Hid (dayN y m d < dayN (y + 1) 1 1) := by show _ < _; rw [dayN_first]; exact hyr.2
  have HK3 : Hid (∀ k, 1 ≤ k → k < m → dayN y (k + 1) 1 ≤ dayN y m d) := fun k hk hkm => by
    have := aheadD_le (y := y) (m := k + 1) (n := m) (by omega) (by omega); unfold dayN; omega
  have HK4 : Hid (m < 12 → dayN y m d < dayN y (m + 1) 1) := fun _ => by
    have := hmo.2; unfold dayN at this ⊢; omega
  have KD := Lib.hid (fun (v u : Int) (z k : Nat) (w : World) (h : 1970 ≤ z ∧ z ≤ 10000 ∧ 1 ≤ k ∧ k ≤ 12) (hv : v = z) (hu : u = k) => daysR_x v u 1 z k 1 w h.1 h.2.1 h.2.2.1 h.2.2.2 (by omega) (by omega) hv hu rfl)
  have KY : Hid (∀ w, Calls Tryd.prog 16 #[.int .u64 y] w fun e w' => e = .returned (.string (baS (yearT y))) ∧ Below w.heap.size w w') := fun w => by
    have := textR_x y w (by omega)
    rw [digs_year (by omega) o2] at this
    exact this
  have KM := Lib.hid (fun (v : Int) w (hv : v = m) => twoR_x v m w (by omega) hv)
  have KDd := Lib.hid (fun (v : Int) w (hv : v = d) => twoR_x v d w (by omega) hv)
  have KH := Lib.hid (fun (v : Int) w (hv : v = (t / 3600 : Nat)) => twoR_x v (t / 3600) w (by omega) hv)
  have KI := Lib.hid (fun (v : Int) w (hv : v = (t % 3600 / 60 : Nat)) => twoR_x v (t % 3600 / 60) w (by omega) hv)
  have KS := Lib.hid (fun (v : Int) w (hv : v = (t % 60 : Nat)) => twoR_x v (t % 60) w (by omega) hv)
  have HC1 : Hid (baS (dayT y m d) = baS (((yearT y ++ [47]) ++ pairT m) ++ [47] ++ pairT d)) := by show _ = _; rfl
  have HC2 : Hid (baS (clockT t) = baS (((pairT (t / 3600) ++ [58]) ++ pairT (t % 3600 / 60)) ++ [58] ++ pairT (t % 60))) := by show _ = _; rfl
  have ha1 : ∀ V, (Op.stringOp .add (baS (yearT y)) ⟨#[47]⟩).run Tryd.prog V = .ok (.string (baS (yearT y ++ [47]))) V := addS _ [47] (by simp [yearT]) (by simp)
  have ha2 : ∀ V, (Op.stringOp .add (baS (yearT y ++ [47])) (baS (pairT m))).run Tryd.prog V = .ok (.string (baS (yearT y ++ [47] ++ pairT m))) V := addS _ _ (by simp [yearT]) (by simp [pairT])
  have ha3 : ∀ V, (Op.stringOp .add (baS (yearT y ++ [47] ++ pairT m)) ⟨#[47]⟩).run Tryd.prog V = .ok (.string (baS (yearT y ++ [47] ++ pairT m ++ [47]))) V := addS _ [47] (by simp [yearT, pairT]) (by simp)
  have ha4 : ∀ V, (Op.stringOp .add (baS (yearT y ++ [47] ++ pairT m ++ [47])) (baS (pairT d))).run Tryd.prog V = .ok (.string (baS (yearT y ++ [47] ++ pairT m ++ [47] ++ pairT d))) V := addS _ _ (by simp [yearT, pairT]) (by simp [pairT])
  have hb1 : ∀ V, (Op.stringOp .add (baS (pairT (t / 3600))) ⟨#[58]⟩).run Tryd.prog V = .ok (.string (baS (pairT (t / 3600) ++ [58]))) V := addS _ [58] (by simp [pairT]) (by simp)
  have hb2 : ∀ V, (Op.stringOp .add (baS (pairT (t / 3600) ++ [58])) (baS (pairT (t % 3600 / 60)))).run Tryd.prog V = .ok (.string (baS (pairT (t / 3600) ++ [58] ++ pairT (t % 3600 / 60)))) V := addS _ _ (by simp [pairT]) (by simp [pairT])
  have hb3 : ∀ V, (Op.stringOp .add (baS (pairT (t / 3600) ++ [58] ++ pairT (t % 3600 / 60))) ⟨#[58]⟩).run Tryd.prog V = .ok (.string (baS (pairT (t / 3600) ++ [58] ++ pairT (t % 3600 / 60) ++ [58]))) V := addS _ [58] (by simp [pairT]) (by simp)
  have hb4 : ∀ V, (Op.stringOp .add (baS (pairT (t / 3600) ++ [58] ++ pairT (t % 3600 / 60) ++ [58])) (baS (pairT (t % 60)))).run Tryd.prog V = .ok (.string (baS (pairT (t / 3600) ++ [58] ++ pairT (t % 3600 / 60) ++ [58] ++ pairT (t % 60)))) V := addS _ _ (by simp [pairT]) (by simp [pairT])
  have HQ1 : Hid ((t : Int) / 3600 = ((t / 3600 : Nat) : Int)) := by show _ = _; omega
  have HQ2 : Hid ((t : Int) / 60 % 60 = ((t % 3600 / 60 : Nat) : Int)) := by show _ = _; omega
  have HQ3 : Hid ((t : Int) % 60 = ((t % 60 : Nat) : Int)) := by show _ = _; omega
  generalize dayT y m d = X at *
  generalize clockT t = Y at *
  generalize yearT y = p1 at *
  generalize pairT m = p2 at *
  generalize pairT d = p3 at *
  generalize pairT (t / 3600) = p4 at *
  generalize pairT (t % 3600 / 60) = p5 at *
  generalize pairT (t % 60) = p6 at *
  generalize p1 ++ [47] = r1 at *
  generalize r1 ++ p2 = r2 at *
  generalize r2 ++ [47] = r3 at *
  generalize r3 ++ p3 = r4 at *
  generalize p4 ++ [58] = r5 at *
  generalize r5 ++ p5 = r6 at *
  generalize r6 ++ [58] = r7 at *
  generalize r7 ++ p6 = r8 at *
  generalize dayN y m d = n at *
  obtain ⟨z0, hz⟩ : ∃ z0, n / 366 = z0 := ⟨_, rfl⟩
  rw [hz] at hz0 hlow
  have hzi : (n : Int) / 366 = (z0 : Int) := by omega
  clear hs he hyr hmo hlow o6 hz ht hd31
  go_enter Tryd.func13, Tryd.ntmps13
  go_wp2
  go_loopw [7] (fun yv wr => ∃ (z : Nat), yv = .int .i64 z ∧ 1970 ≤ z ∧ z ≤ y ∧ Below w.heap.size w wr)
    (fun yv _ => y - (intOf yv).toNat)
  case atStart => exact ⟨1970 + z0, by first | rfl | (congr 1; omega), by omega, hz0, Below.refl _ _⟩
  case round =>
    obtain ⟨z, rfl, hz1, hz2, hb⟩ := hrel
    by_cases hzy : z < y
    · have h99 : (z : Int) < 9999 := by omega
      have hle : ((dayN (z + 1) 1 1 : Nat) : Int) ≤ n := by have := HK1.out z hz1 hzy; omega
      have K1 := Lib.hid (fun (v : Int) w (hv : v = ((z + 1 : Nat) : Int)) => KD.out v 1 (z + 1) 1 w ⟨by omega, by omega, by omega, by omega⟩ hv rfl)
      generalize dayN (z + 1) 1 1 = L at *
      go_wp2_with fail
      refine (K1.out _ _ (by omega)).mono ?_
      rintro e w1 ⟨rfl, hb1'⟩
      go_wp2
      go_roundw
      case rel => exact ⟨z + 1, by go_num, by omega, by omega, below_next hb hb1'⟩
      case measure => simp [intOf]; omega
    · obtain rfl : z = y := by omega
      clear hzy
      by_cases h99 : z < 9999
      · have h99' : (z : Int) < 9999 := by omega
        have hle : ¬ ((dayN (z + 1) 1 1 : Nat) : Int) ≤ n := by have := HK2.out; omega
        have hleN : decide (dayN (z + 1) 1 1 ≤ n) = false := decide_eq_false (by have := HK2.out; omega)
        have K1 := Lib.hid (fun (v : Int) w (hv : v = ((z + 1 : Nat) : Int)) => KD.out v 1 (z + 1) 1 w ⟨by omega, by omega, by omega, by omega⟩ hv rfl)
        generalize dayN (z + 1) 1 1 = L at *
        go_wp2_with fail
        refine (K1.out _ _ (by omega)).mono ?_
        rintro e w1 ⟨rfl, hb1'⟩
        have B1 := below_next hb hb1'
        go_wp2
        go_loopw [8] (fun mv wx => ∃ (k : Nat), mv = .int .i64 k ∧ 1 ≤ k ∧ k ≤ m ∧ Below w.heap.size w wx)
          (fun mv _ => m - (intOf mv).toNat)
        case atStart => exact ⟨1, rfl, by omega, o3, B1⟩
        case round =>
          obtain ⟨k, rfl, hk1, hk2, hbx⟩ := hrel
          by_cases hkm : k < m
          · have h12 : (k : Int) < 12 := by omega
            have hle2 : ((dayN z (k + 1) 1 : Nat) : Int) ≤ n := by have := HK3.out k hk1 hkm; omega
            have K2 := Lib.hid (fun (v : Int) w (hv : v = ((k + 1 : Nat) : Int)) => KD.out (z : Int) v z (k + 1) w ⟨by omega, by omega, by omega, by omega⟩ rfl hv)
            generalize dayN z (k + 1) 1 = L2 at *
            go_wp2_with fail
            refine (K2.out _ _ (by omega)).mono ?_
            rintro e w2 ⟨rfl, hb2'⟩
            go_wp2
            go_roundw
            case rel => exact ⟨k + 1, by go_num, by omega, by omega, below_next hbx hb2'⟩
            case measure => simp [intOf]; omega
          · obtain rfl : k = m := by omega
            clear hkm
            have K3 := Lib.hid (fun w => KD.out (z : Int) (k : Int) z k w ⟨by omega, by omega, by omega, by omega⟩ rfl rfl)
            have hdd : ((n : Int) - ((dayN z k 1 : Nat) : Int)) + 1 = d := by have := HDM.out; omega
            have hL3 : dayN z k 1 ≤ n := by have := HDM.out; omega
            have HDD := Lib.hid hdd
            clear hdd
            by_cases h12 : k < 12
            · have h12' : (k : Int) < 12 := by omega
              have hle2 : ¬ ((dayN z (k + 1) 1 : Nat) : Int) ≤ n := by have := HK4.out h12; omega
              have K2 := Lib.hid (fun (v : Int) w (hv : v = ((k + 1 : Nat) : Int)) => KD.out (z : Int) v z (k + 1) w ⟨by omega, by omega, by omega, by omega⟩ rfl hv)
              generalize dayN z (k + 1) 1 = L2 at *
              generalize dayN z k 1 = L3 at *
              go_wp2_with fail
              refine (K2.out _ _ (by omega)).mono ?_
              rintro e w2 ⟨rfl, hb2'⟩
              have B2 := below_next hbx hb2'
              go_wp2_with fail
              refine (K3.out _).mono ?_
              rintro e w3 ⟨rfl, hb3'⟩
              have B3 := below_next B2 hb3'
              go_wp2_with fail
              refine (KY.out _).mono ?_
              rintro e w4 ⟨rfl, hb4'⟩
              have B4 := below_next B3 hb4'
              go_wp2_with fail
              refine (KM.out _ _ rfl).mono ?_
              rintro e w5 ⟨rfl, hb5'⟩
              have B5 := below_next B4 hb5'
              go_wp2_with fail
              refine (KDd.out _ _ (by first | exact HDD.out | (rw [HDD.out]))).mono ?_
              rintro e w6 ⟨rfl, hb6'⟩
              have B6 := below_next B5 hb6'
              go_wp2_with fail
              refine (KH.out _ _ HQ1.out).mono ?_
              rintro e w7 ⟨rfl, hb7'⟩
              have B7 := below_next B6 hb7'
              go_wp2_with fail
              refine (KI.out _ _ HQ2.out).mono ?_
              rintro e w8 ⟨rfl, hb8'⟩
              have B8 := below_next B7 hb8'
              go_wp2_with fail
              refine (KS.out _ _ HQ3.out).mono ?_
              rintro e w9 ⟨rfl, hb9'⟩
              go_wp2
              go_ret3
              exact ⟨by rw [HC1.out, HC2.out]; rfl, below_next B8 hb9'⟩
            · have h12' : ¬ (k : Int) < 12 := by omega
              generalize dayN z k 1 = L3 at *
              have B2 := hbx
              go_wp2_with fail
              refine (K3.out _).mono ?_
              rintro e w3 ⟨rfl, hb3'⟩
              have B3 := below_next B2 hb3'
              go_wp2_with fail
              refine (KY.out _).mono ?_
              rintro e w4 ⟨rfl, hb4'⟩
              have B4 := below_next B3 hb4'
              go_wp2_with fail
              refine (KM.out _ _ rfl).mono ?_
              rintro e w5 ⟨rfl, hb5'⟩
              have B5 := below_next B4 hb5'
              go_wp2_with fail
              refine (KDd.out _ _ (by first | exact HDD.out | (rw [HDD.out]))).mono ?_
              rintro e w6 ⟨rfl, hb6'⟩
              have B6 := below_next B5 hb6'
              go_wp2_with fail
              refine (KH.out _ _ HQ1.out).mono ?_
              rintro e w7 ⟨rfl, hb7'⟩
              have B7 := below_next B6 hb7'
              go_wp2_with fail
              refine (KI.out _ _ HQ2.out).mono ?_
              rintro e w8 ⟨rfl, hb8'⟩
              have B8 := below_next B7 hb8'
              go_wp2_with fail
              refine (KS.out _ _ HQ3.out).mono ?_
              rintro e w9 ⟨rfl, hb9'⟩
              go_wp2
              go_ret3
              exact ⟨by rw [HC1.out, HC2.out]; rfl, below_next B8 hb9'⟩
      · have h99' : ¬ (z : Int) < 9999 := by omega
        have B1 := hb
        go_wp2
        go_loopw [8] (fun mv wx => ∃ (k : Nat), mv = .int .i64 k ∧ 1 ≤ k ∧ k ≤ m ∧ Below w.heap.size w wx)
          (fun mv _ => m - (intOf mv).toNat)
        case atStart => exact ⟨1, rfl, by omega, o3, B1⟩
        case round =>
          obtain ⟨k, rfl, hk1, hk2, hbx⟩ := hrel
          by_cases hkm : k < m
          · have h12 : (k : Int) < 12 := by omega
            have hle2 : ((dayN z (k + 1) 1 : Nat) : Int) ≤ n := by have := HK3.out k hk1 hkm; omega
            have K2 := Lib.hid (fun (v : Int) w (hv : v = ((k + 1 : Nat) : Int)) => KD.out (z : Int) v z (k + 1) w ⟨by omega, by omega, by omega, by omega⟩ rfl hv)
            generalize dayN z (k + 1) 1 = L2 at *
            go_wp2_with fail
            refine (K2.out _ _ (by omega)).mono ?_
            rintro e w2 ⟨rfl, hb2'⟩
            go_wp2
            go_roundw
            case rel => exact ⟨k + 1, by go_num, by omega, by omega, below_next hbx hb2'⟩
            case measure => simp [intOf]; omega
          · obtain rfl : k = m := by omega
            clear hkm
            have K3 := Lib.hid (fun w => KD.out (z : Int) (k : Int) z k w ⟨by omega, by omega, by omega, by omega⟩ rfl rfl)
            have hdd : ((n : Int) - ((dayN z k 1 : Nat) : Int)) + 1 = d := by have := HDM.out; omega
            have hL3 : dayN z k 1 ≤ n := by have := HDM.out; omega
            have HDD := Lib.hid hdd
            clear hdd
            by_cases h12 : k < 12
            · have h12' : (k : Int) < 12 := by omega
              have hle2 : ¬ ((dayN z (k + 1) 1 : Nat) : Int) ≤ n := by have := HK4.out h12; omega
              have K2 := Lib.hid (fun (v : Int) w (hv : v = ((k + 1 : Nat) : Int)) => KD.out (z : Int) v z (k + 1) w ⟨by omega, by omega, by omega, by omega⟩ rfl hv)
              generalize dayN z (k + 1) 1 = L2 at *
              generalize dayN z k 1 = L3 at *
              go_wp2_with fail
              refine (K2.out _ _ (by omega)).mono ?_
              rintro e w2 ⟨rfl, hb2'⟩
              have B2 := below_next hbx hb2'
              go_wp2_with fail
              refine (K3.out _).mono ?_
              rintro e w3 ⟨rfl, hb3'⟩
              have B3 := below_next B2 hb3'
              go_wp2_with fail
              refine (KY.out _).mono ?_
              rintro e w4 ⟨rfl, hb4'⟩
              have B4 := below_next B3 hb4'
              go_wp2_with fail
              refine (KM.out _ _ rfl).mono ?_
              rintro e w5 ⟨rfl, hb5'⟩
              have B5 := below_next B4 hb5'
              go_wp2_with fail
              refine (KDd.out _ _ (by first | exact HDD.out | (rw [HDD.out]))).mono ?_
              rintro e w6 ⟨rfl, hb6'⟩
              have B6 := below_next B5 hb6'
              go_wp2_with fail
              refine (KH.out _ _ HQ1.out).mono ?_
              rintro e w7 ⟨rfl, hb7'⟩
              have B7 := below_next B6 hb7'
              go_wp2_with fail
              refine (KI.out _ _ HQ2.out).mono ?_
              rintro e w8 ⟨rfl, hb8'⟩
              have B8 := below_next B7 hb8'
              go_wp2_with fail
              refine (KS.out _ _ HQ3.out).mono ?_
              rintro e w9 ⟨rfl, hb9'⟩
              go_wp2
              go_ret3
              exact ⟨by rw [HC1.out, HC2.out]; rfl, below_next B8 hb9'⟩
            · have h12' : ¬ (k : Int) < 12 := by omega
              generalize dayN z k 1 = L3 at *
              have B2 := hbx
              go_wp2_with fail
              refine (K3.out _).mono ?_
              rintro e w3 ⟨rfl, hb3'⟩
              have B3 := below_next B2 hb3'
              go_wp2_with fail
              refine (KY.out _).mono ?_
              rintro e w4 ⟨rfl, hb4'⟩
              have B4 := below_next B3 hb4'
              go_wp2_with fail
              refine (KM.out _ _ rfl).mono ?_
              rintro e w5 ⟨rfl, hb5'⟩
              have B5 := below_next B4 hb5'
              go_wp2_with fail
              refine (KDd.out _ _ (by first | exact HDD.out | (rw [HDD.out]))).mono ?_
              rintro e w6 ⟨rfl, hb6'⟩
              have B6 := below_next B5 hb6'
              go_wp2_with fail
              refine (KH.out _ _ HQ1.out).mono ?_
              rintro e w7 ⟨rfl, hb7'⟩
              have B7 := below_next B6 hb7'
              go_wp2_with fail
              refine (KI.out _ _ HQ2.out).mono ?_
              rintro e w8 ⟨rfl, hb8'⟩
              have B8 := below_next B7 hb8'
              go_wp2_with fail
              refine (KS.out _ _ HQ3.out).mono ?_
              rintro e w9 ⟨rfl, hb9'⟩
              go_wp2
              go_ret3
              exact ⟨by rw [HC1.out, HC2.out]; rfl, below_next B8 hb9'⟩
set_option maxHeartbeats 1000000 in
theorem printR_no (s : Nat) (w : World) (hs : 253402300799 < s) :
    Calls Tryd.prog 13 #[.int .u64 s] w fun e w' => e = .returned (.tuple #[.string ⟨#[]⟩, .string ⟨#[]⟩, .bool false]) ∧ Below w.heap.size w w' := by
  have h0 : (253402300799 : Int) < s := by omega
  clear hs
  go_enter Tryd.func13, Tryd.ntmps13
  go_wp2
  go_ret3
  exact ⟨rfl, Below.refl _ _⟩
end Go.Proofs.YtjoiedomdliadaaDoor
