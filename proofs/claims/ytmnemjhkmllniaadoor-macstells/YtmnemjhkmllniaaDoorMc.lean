/- The second writing's Mac, PrintMac and Name. -/
import Derived.Test.YtmnemjhkmllniaaDoorMb
import Derived.BigRegion
import Derived.Lib.QuietBelow
namespace Go.Proofs.YtmnemjhkmllniaaDoor
open Go.ChangeShapes Go.WideShapes Go.RowKit Go.Sort

set_option maxHeartbeats 8000000 in
set_option maxRecDepth 100000 in
theorem refName_x (l : Bs) (w : World) (hl : l.length < 4294967281) :
    Calls Tryd.prog 12 #[.string (baS l)] w fun e w' => e = .returned (.bool (nameV l)) ∧ w' = w := by
  have hsz : (baS l).size = l.length := baS_len l
  have hN0 : nameV l = (decide (1 ≤ l.length) && decide (l.length ≤ 32) && l.all inN) := rfl
  obtain ⟨N, hN⟩ : ∃ N, l.length = N := ⟨_, rfl⟩
  rw [hN] at hsz hl hN0
  have HN := Lib.hid hN0
  clear hN0
  go_enter Tryd.func12, Tryd.ntmps12
  go_wp2
  go_loop [3] (fun iv => ∃ (k : Nat), iv = .int .i64 k ∧ k ≤ N ∧ Hid (l.all inN = (l.drop k).all inN))
    (fun iv => N - (intOf iv).toNat)
  case atStart => exact ⟨0, rfl, by omega, by show _ = _; rw [List.drop_zero]⟩
  case round =>
    obtain ⟨k, rfl, hk, hh⟩ := hrel
    by_cases hkn : k < N
    · have hkl : k < l.length := by omega
      have hat := baS_at l k hkl
      have hd := all_drop_succ hkl
      generalize l[k]'hkl = c at hat hd
      have hkN : (k : Int) < N := by omega
      have hc256 : c.toNat < 256 := c.toNat_lt
      have hin : inN c = ((decide (97 ≤ c.toNat) && decide (c.toNat ≤ 122)) || (decide (48 ≤ c.toNat) && decide (c.toNat ≤ 57)) || c.toNat == 45) := rfl
      by_cases hc : (97 ≤ c.toNat ∧ c.toNat ≤ 122) ∨ (48 ≤ c.toNat ∧ c.toNat ≤ 57) ∨ c.toNat = 45
      · have h1 : inN c = true := by rw [hin]; simp only [Bool.or_eq_true, Bool.and_eq_true, decide_eq_true_eq, beq_iff_eq]; omega
        rw [h1] at hd
        have HF : Hid (l.all inN = (l.drop (k + 1)).all inN) := by show _ = _; rw [hh.out, hd]; rfl
        clear hh hd h1 hin hkl
        rcases hc with ⟨h1, h2⟩ | ⟨h1, h2⟩ | h1
        · have a1 : ¬ (c.toNat : Int) < 97 := by omega
          have a2 : ¬ (122 : Int) < c.toNat := by omega
          go_wp2
          refine ⟨⟨k + 1, (by first | rfl | (congr 1; omega)), by omega, HF⟩, by simp [intOf]; omega⟩
        · have a1 : (c.toNat : Int) < 97 := by omega
          have a2 : ¬ (c.toNat : Int) < 48 := by omega
          have a3 : ¬ (57 : Int) < c.toNat := by omega
          go_wp2
          refine ⟨⟨k + 1, (by first | rfl | (congr 1; omega)), by omega, HF⟩, by simp [intOf]; omega⟩
        · have a1 : (c.toNat : Int) < 97 := by omega
          have a2 : (c.toNat : Int) < 48 := by omega
          have a3 : ((c.toNat : Int) != 45) = false := by rw [bne_eq_false_iff_eq]; omega
          go_wp2
          refine ⟨⟨k + 1, (by first | rfl | (congr 1; omega)), by omega, HF⟩, by simp [intOf]; omega⟩
      · have h1 : inN c = false := by
          rw [hin]
          rw [← Bool.not_eq_true]
          intro e
          apply hc
          simp only [Bool.or_eq_true, Bool.and_eq_true, decide_eq_true_eq, beq_iff_eq] at e
          omega
        rw [h1] at hd
        have HF : Hid (nameV l = false) := by show _ = _; rw [HN.out, hh.out, hd]; simp
        clear hh hd h1 hin hkl
        have a4 : ((c.toNat : Int) != 45) = true := by rw [bne_iff_ne]; omega
        rcases (show (c.toNat < 48) ∨ (57 < c.toNat ∧ c.toNat < 97) ∨ 122 < c.toNat by omega) with h | ⟨h, h'⟩ | h
        · have a1 : (c.toNat : Int) < 97 := by omega
          have a2 : (c.toNat : Int) < 48 := by omega
          clear hc
          go_wp2
          go_ret
          exact ⟨by rw [HF.out]; rfl, rfl⟩
        · have a1 : (c.toNat : Int) < 97 := by omega
          have a2 : ¬ (c.toNat : Int) < 48 := by omega
          have a3 : (57 : Int) < c.toNat := by omega
          clear hc
          go_wp2
          go_ret
          exact ⟨by rw [HF.out]; rfl, rfl⟩
        · have a1 : ¬ (c.toNat : Int) < 97 := by omega
          have a2 : (122 : Int) < c.toNat := by omega
          have a5 : ¬ (c.toNat : Int) < 48 := by omega
          have a3 : (57 : Int) < c.toNat := by omega
          clear hc
          go_wp2
          go_ret
          exact ⟨by rw [HF.out]; rfl, rfl⟩
    · obtain rfl : k = N := by omega
      have HF : Hid (nameV l = (decide (1 ≤ k) && decide (k ≤ 32))) := by show _ = _; rw [HN.out, hh.out, List.drop_eq_nil_of_le (by omega)]; simp
      clear hh
      by_cases h1 : 1 ≤ k
      · have a1 : (1 : Int) ≤ k := by omega
        by_cases h2 : k ≤ 32
        · have a2 : (k : Int) ≤ 32 := by omega
          go_wp2
          go_ret
          exact ⟨by rw [HF.out]; simp [h1, h2], rfl⟩
        · have a2 : ¬ (k : Int) ≤ 32 := by omega
          go_wp2
          go_ret
          exact ⟨by rw [HF.out]; simp [h2], rfl⟩
      · have a1 : ¬ (1 : Int) ≤ k := by omega
        go_wp2
        go_ret
        exact ⟨by rw [HF.out]; simp [h1], rfl⟩
theorem refHex_is (c : UInt8) (z : Int) (h : hexI c = z) (w : World) :
    Calls Tryd.prog 19 #[.int .u8 c.toNat] w fun e w' => e = .returned (.int .i64 z) ∧ w' = w := h ▸ hex1_x c w
theorem refHex_b (c : UInt8) (z : Int) (h : hexI c = z) (w : World) :
    Calls Tryd.prog 19 #[.int .u8 c.toNat] w fun e w' => e = .returned (.int .i64 z) ∧ Below w.heap.size w w' := (refHex_is c z h w).mono fun _ _ ⟨a, b⟩ => ⟨a, b ▸ Below.refl _ _⟩
theorem hexI_some {c : UInt8} {x : Nat} (h : hexD c = some x) : hexI c = (x : Int) := by unfold hexI; rw [h]
theorem hexI_none {c : UInt8} (h : hexD c = none) : hexI c = -1 := by unfold hexI; rw [h]
theorem pair_two {p : Bs} (h : p.length = 2) : ∃ a b, p = [a, b] := by
  match p, h with
  | [a, b], _ => exact ⟨a, b, rfl⟩
theorem pairV_two (a b : UInt8) : pairV [a, b] = match hexD a, hexD b with
    | some x, some y => some (x * 16 + y)
    | _, _ => none := by
  unfold pairV
  simp only [List.length_cons, List.length_nil, if_true, hexM]
  cases hexD a with
  | none => rfl
  | some x => cases hexD b with
    | none => rfl
    | some y => simp
set_option maxHeartbeats 8000000 in
set_option maxRecDepth 100000 in
theorem refMac_x (l : Bs) (w : World) (hl : l.length ≤ 100000) :
    Calls Tryd.prog 11 #[.string (baS l)] w fun e w' => e = .returned (macR (macV l)) ∧ Below w.heap.size w w' := by
  have HSp := Lib.hid (splitE_x 58 l w hl)
  have HL := Lib.hid hl
  clear hl
  go_enter Tryd.func11, Tryd.ntmps11
  go_wp2_with fail
  refine HSp.out.mono ?_
  rintro e W ⟨hbW, g, c, rfl, hg0, hgl, hgc, hrow⟩
  have hR : macV l = if (splitV 58 l).length = 6 then macF 0 (splitV 58 l) else none := (rmac_is l).symm
  have HR := Lib.hid hR
  have HRow := Lib.hid hrow
  clear hR hrow HSp
  generalize splitV 58 l = ps at *
  by_cases h6 : ps.length = 6
  · have h6' : ((ps.length : Int) != 6) = false := by simp; omega
    go_wp2
    go_loopw [5, 6] (fun qv iv wr => ∃ (acc k : Nat), qv = .int .u64 acc ∧ iv = .int .i64 k ∧ k ≤ 6 ∧ Hid (macV l = macF acc (ps.drop k) ∧ acc < 256 ^ k) ∧ Below W.heap.size W wr)
      (fun _ iv _ => 6 - (intOf iv).toNat)
    case atStart => exact ⟨0, 0, rfl, rfl, by omega, ⟨by rw [HR.out, if_pos h6, List.drop_zero], by decide⟩, Below.refl _ _⟩
    case round =>
      obtain ⟨acc, k, rfl, rfl, hk, hh, hb⟩ := hrel
      by_cases hk6 : k < 6
      · have hk6' : (k : Int) < 6 := by omega
        have hkp : k < ps.length := by omega
        have hcell := (olds hb g k hgl).trans (rowS_addr HRow.out k hkp)
        have hdrop : ps.drop k = ps[k]'hkp :: ps.drop (k + 1) := List.drop_eq_getElem_cons hkp
        generalize ps[k]'hkp = p at hcell hdrop
        have hkps : (k : Int) < ps.length := by omega
        have hps : (baS p).size = p.length := baS_len p
        by_cases h2 : p.length = 2
        · obtain ⟨a, b, rfl⟩ := pair_two h2
          have hV := pairV_two a b
          have hat0 : ∀ h, (baS [a, b])[0]'h = a := fun _ => rfl
          have hat1 : ∀ h, (baS [a, b])[1]'h = b := fun _ => rfl
          have hps2 : (baS [a, b]).size = 2 := rfl
          have hq2 : ((((baS [a, b]).size : Int)) != 2) = false := by rw [hps2]; rfl
          have hgl' : g < wr.heap.size := Nat.lt_of_lt_of_le hgl hb.size
          generalize hpp : [a, b] = q at *
          clear hpp hps h2
          cases ha : hexD a with
          | none =>
            have HA := Lib.hid (fun w => refHex_is a (-1) (hexI_none ha) w)
            have HF : Hid (macV l = none) := by show _ = _; rw [hh.out.1, hdrop]; rw [ha] at hV; simp [macF, hV]
            clear hh hdrop hV ha
            go_wp2_with fail
            refine (HA.out _).mono ?_
            rintro e w2 ⟨rfl, rfl⟩
            go_wp2
            go_ret2
            exact ⟨by rw [HF.out]; rfl, below_next hbW hb⟩
          | some x =>
            have hx16 := hexD_lt ha
            have HA := Lib.hid (fun w => refHex_is a (x : Int) (hexI_some ha) w)
            have HA2 := Lib.hid (fun w => refHex_b a (x : Int) (hexI_some ha) w)
            cases hb2 : hexD b with
            | none =>
              have HB := Lib.hid (fun w => refHex_is b (-1) (hexI_none hb2) w)
              have HF : Hid (macV l = none) := by show _ = _; rw [hh.out.1, hdrop]; rw [ha, hb2] at hV; simp [macF, hV]
              have hx0 : ¬ (x : Int) < 0 := by omega
              clear hh hdrop hV ha hb2
              go_wp2_with fail
              refine (HA.out _).mono ?_
              rintro e w2 ⟨rfl, rfl⟩
              go_wp2_with fail
              refine (HB.out _).mono ?_
              rintro e w2 ⟨rfl, rfl⟩
              go_wp2
              go_ret2
              exact ⟨by rw [HF.out]; rfl, below_next hbW hb⟩
            | some y =>
              have hy16 := hexD_lt hb2
              have HB := Lib.hid (fun w => refHex_is b (y : Int) (hexI_some hb2) w)
              have HB2 := Lib.hid (fun w => refHex_b b (y : Int) (hexI_some hb2) w)
              have hac : acc < 1099511627776 := Nat.lt_of_lt_of_le hh.out.2 (Nat.le_trans (Nat.pow_le_pow_right (by decide) (show k ≤ 5 by omega)) (by decide))
              have hor : bits .or .u64 (IntKind.u64.wrap ((acc : Int) * 256)) (16 * (x : Int) + y) = ((acc * 256 + (x * 16 + y) : Nat) : Int) := by
                rw [IntKind.wrap_u64, show ((acc : Int) * 256) % 18446744073709551616 = ((acc * 256 : Nat) : Int) by omega, show 16 * (x : Int) + y = ((x * 16 + y : Nat) : Int) by omega, u64_or _ _ (by omega) (by omega) (by omega) (by omega)]
                simp only [Int.toNat_natCast]
                rw [or_add 8 acc (x * 16 + y) (by omega)]
              have hp : 256 ^ (k + 1) = 256 ^ k * 256 := Nat.pow_succ ..
              have HF : Hid (macV l = macF (acc * 256 + (x * 16 + y)) (ps.drop (k + 1)) ∧ acc * 256 + (x * 16 + y) < 256 ^ (k + 1)) := ⟨by rw [hh.out.1, hdrop]; rw [ha, hb2] at hV; simp [macF, hV], by have := hh.out.2; omega⟩
              have HO := Lib.hid hor
              have hx0 : ¬ (x : Int) < 0 := by omega
              have hy0 : ¬ (y : Int) < 0 := by omega
              have hw1 : IntKind.i64.wrap (16 * (x : Int)) = 16 * (x : Int) := by rw [IntKind.wrap_i64]; omega
              have hw2 : IntKind.i64.wrap (16 * (x : Int) + y) = 16 * (x : Int) + y := by rw [IntKind.wrap_i64]; omega
              have hw3 : IntKind.u64.wrap (16 * (x : Int) + y) = 16 * (x : Int) + y := by rw [IntKind.wrap_u64]; omega
              have hcr := cell_regrown hcell
              clear hh hdrop hV ha hb2 hor hp hac
              go_wp2_with fail
              refine (HA.out _).mono ?_
              rintro e w2 ⟨rfl, rfl⟩
              go_wp2_with fail
              refine (HB.out _).mono ?_
              rintro e w2 ⟨rfl, rfl⟩
              go_wp2_with fail
              refine wp_region_quiet_below (by kernel_rfl) (by kernel_rfl) ?_
              repeat (go_big_quiet_step (fail))
              go_big_quiet_step ((go_at_call 19; exact Calls.regrown_of (HA2.out _)))
              repeat (go_big_quiet_step (fail))
              go_big_quiet_step ((go_at_call 19; exact Calls.regrown_of (HB2.out _)))
              repeat (go_big_quiet_step (fail))
              refine wpQuiet_nil ?_
              intro _ hw'
              obtain ⟨⟨dq, osq⟩, hw''⟩ := hw'
              subst hw''
              go_wp2
              go_roundw
              case rel => exact ⟨acc * 256 + (x * 16 + y), k + 1, by rw [HO.out], by go_num, by omega, HF.out, below_next hb (below_regrown _ dq osq)⟩
              case measure => simp [intOf]; omega
        · have hq2 : ((((baS p).size : Int)) != 2) = true := by rw [bne_iff_ne, hps]; omega
          have HF : Hid (macV l = none) := by show _ = _; rw [hh.out.1, hdrop]; simp [macF, pairV, h2]
          clear hh hdrop h2 hps
          go_wp2
          go_ret2
          exact ⟨by rw [HF.out]; rfl, below_next hbW hb⟩
      · obtain rfl : k = 6 := by omega
        have HF : Hid (macV l = some acc) := by show _ = _; rw [hh.out.1, List.drop_of_length_le (by omega)]; rfl
        clear hh
        go_wp2
        go_ret2
        exact ⟨by rw [HF.out]; rfl, below_next hbW hb⟩
  · have h6' : ((ps.length : Int) != 6) = true := by simp; omega
    have HF : Hid (macV l = none) := by show _ = _; rw [HR.out, if_neg h6]
    go_wp2
    go_ret2
    exact ⟨by rw [HF.out]; rfl, hbW⟩
end Go.Proofs.YtmnemjhkmllniaaDoor
