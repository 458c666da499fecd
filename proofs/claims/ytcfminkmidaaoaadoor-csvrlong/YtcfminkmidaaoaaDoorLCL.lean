/- CsvrLong: however long, in quotes or not, the law answers true. -/
import Derived.Test.YtcfminkmidaaoaaDoorVx
import Derived.Deep.DeepCutAuto
import Derived.Test.YtcfminkmidaaoaaDoorVo
namespace Go.Proofs.YtcfminkmidaaoaaDoor
open Go.ChangeShapes Go.WideShapes Go.RowKit Go.Sort
theorem i64_and511 (n : Int) : bits .and .i64 n 511 = n % 512 := by
  have h255 : (BitVec.ofInt 64 511).toNat = 2 ^ 9 - 1 := by decide
  have h : (BitVec.ofInt 64 n &&& BitVec.ofInt 64 511).toNat = (n % ((2 ^ 64 : Nat) : Int)).toNat % 2 ^ 9 := by
    rw [BitVec.toNat_and, BitVec.toNat_ofInt, h255, Nat.and_two_pow_sub_one_eq_mod]
  show IntKind.i64.wrap ((BitVec.ofInt 64 n &&& BitVec.ofInt 64 511).toNat : Nat) = n % 512
  rw [h, IntKind.wrap_i64]
  omega
set_option maxHeartbeats 8000000 in
set_option maxRecDepth 100000 in
theorem clong_p (n : Int) (m : Nat) (w : World) (hg : Gl w) (hm : m < 512) (hn : bits BinOp.and IntKind.i64 n 511 = (m : Int)) :
    Calls Tryd.prog 4 #[.int .i64 n, .bool false] w fun e w' => e = .returned (.bool true) ∧ Below w.heap.size w w' := by
  have hrec : recV ([120, 44] ++ (longA m) ++ [10]) = if 255 < m then .bad 2 2 else .ok [[(5, [120], 0), (5, longA m, 2)]] := long_pln m
  have hTl : (longA m).length ≤ 600 := by simp [longA]; omega
  have HL1 := Lib.hid (fun j (hj : j < 512) V => addS (longA j) [97] (by rw [longA_len]; omega) (by decide) V)
  have hadd3 : ∀ V, (Op.stringOp .add ⟨#[120, 44]⟩ (baS (longA m))).run Tryd.prog V = .ok (.string (baS ([120, 44] ++ (longA m)))) V := fun V => addS [120, 44] (longA m) (by decide) (by omega) V
  have hadd4 : ∀ V, (Op.stringOp .add (baS ([120, 44] ++ (longA m))) ⟨#[10]⟩).run Tryd.prog V = .ok (.string (baS ([120, 44] ++ (longA m) ++ [10]))) V := fun V => addS ([120, 44] ++ (longA m)) [10] (by first | (simp; simp at hTl; omega) | (simp; omega)) (by decide) V
  have kc : ∀ (V : World) (s : ByteArray), (convert 9 29 (.string s)).run Tryd.prog V = .ok (.slice (some ⟨V.heap.size, 0, none⟩) s.size (grownCap V s.size 0 5)) (Lib.bytesWorld V 5 s) := fun V s =>
    Lib.run_convert_string_bytes V 9 29 5 s Tryd.underlying9 Tryd.underlying29 Tryd.underlying5
  have HA : Hid (∀ V : World, Calls Tryd.prog 8 #[.slice (some ⟨V.heap.size, 0, none⟩) (baS ([120, 44] ++ (longA m) ++ [10])).size (grownCap V (baS ([120, 44] ++ (longA m) ++ [10])).size 0 5)] (Lib.bytesWorld V 5 (baS ([120, 44] ++ (longA m) ++ [10]))) fun e w' => RecsE V ([120, 44] ++ (longA m) ++ [10]) e w') := Lib.hid (fun V => parse_s _ V (by first | (simp; simp at hTl; omega) | (simp; omega)))
  have HREC := Lib.hid hrec
  have HG := Lib.hid hg
  clear hrec hg
  generalize hS4 : [120, 44] ++ (longA m) ++ [10] = S4 at *
  clear hS4
  generalize [120, 44] ++ (longA m) = S3 at *
  generalize hSL : longA m = SL at *
  have HSL := Lib.hid hSL
  clear hSL hTl
  go_enter Tryd.func4, Tryd.ntmps4
  go_wp2_with fail
  go_loopw [5, 6] (fun sv iv wr => ∃ j : Nat, iv = .int .i64 (j : Int) ∧ j ≤ m ∧ sv = .string (baS (longA j)) ∧ wr = w) (fun _ iv _ => m + 1 - intN iv)
  case atStart => exact ⟨0, rfl, Nat.zero_le _, rfl, rfl⟩
  case round =>
    obtain ⟨j, rfl, hj, rfl, hwr⟩ := hrel
    subst hwr
    by_cases hlt : j < m
    · have hadd := HL1.out j (by omega)
      rw [← longA_snoc] at hadd
      have hadd' : ∀ V, (Op.stringOp .add (baS (longA j)) ⟨#[97]⟩).run Tryd.prog V = .ok (.string (baS (longA (j + 1)))) V := hadd
      clear hadd
      generalize baS (longA j) = SJ at *
      generalize hj1 : j + 1 = j1 at *
      have HJ1 := Lib.hid hj1
      clear hj1
      go_wp2_with fail
      exact ⟨⟨j1, by simp [← HJ1.out], by have := HJ1.out; omega, rfl, trivial⟩, by have := HJ1.out; simp [intN]; omega⟩
    · have hjm : j = m := by omega
      subst hjm
      have hjn : ¬ ((j : Int) < (j : Int)) := by omega
      rw [HSL.out]
      have hsz : (baS SL).size = j := by rw [← HSL.out, baS_size, longA_len]
      generalize baS S4 = SS4 at *
      generalize baS S3 = SS3 at *
      generalize baS SL = SS at *
      go_wp2_with fail
      refine (HA.out _).mono ?_
      rintro e w2 h2
      by_cases hbig : 255 < j
      · rw [if_pos hbig] at HREC
        obtain ⟨rfl, hb2⟩ := h2.no HREC.out
        clear HA HREC kc hadd3 hadd4 h2
        have hbig' : (255 : Int) < (j : Int) := by omega
        go_upto_region 10 with fail
        generalize hw3 : w2.alloc _ = w3
        have B3 : Below wr.heap.size wr w3 := hw3 ▸ ball hb2
        have E3 : ErrC w3 w2.heap.size 2 2 := by subst hw3; exact ⟨by simp [go_sem], by simp [go_sem], by simp [go_sem]⟩
        clear hw3 hb2
        generalize w2.heap.size = N at *
        have e0 := E3.c0
        have e1 := E3.c1
        clear E3
        go_wp2_with fail
        refine (awake9_x _ (HG.out.below B3)).mono ?_
        rintro e w4 ⟨rfl, hb4⟩
        have B4 := below_next B3 hb4
        go_wp2
        go_ret
        exact ⟨rfl, B4⟩
      · rw [if_neg hbig] at HREC
        obtain ⟨⟨p, c, rfl, hr⟩, hb2⟩ := h2.yes HREC.out
        clear HA HREC kc hadd3 hadd4 h2
        have hbig' : ¬ (255 : Int) < (j : Int) := by omega
        go_upto_region 10 with fail
        generalize hw3 : w2.alloc _ = w3
        have B3 : Below wr.heap.size wr w3 := hw3 ▸ ball hb2
        have E3 : ErrC w3 w2.heap.size 0 0 := by subst hw3; exact ⟨by simp [go_sem], by simp [go_sem], by simp [go_sem]⟩
        have R3 : RecP tokP w3 p [[(5, [120], 0), (5, SL, 2)]] := hw3 ▸ hr.below (ball (Below.refl _ _))
        clear hw3 hb2 hr
        generalize w2.heap.size = N at *
        obtain ⟨g, g2, cq, rfl, k0, _, k1, _⟩ := R3.tok (j := 0) (k := 1) rfl rfl
        have q0 : w3.cell? ⟨g, 0, none⟩ = some (.slice (some ⟨g2, 0, none⟩) 2 cq) := k0
        have q1 : w3.cell? ⟨g2, 4, none⟩ = some (.string (baS SL)) := k1
        have hsz2 : (baS SL).size = j := by rw [← HSL.out, baS_size, longA_len]
        clear k0 k1 R3
        generalize baS SL = SS2 at *
        have e0 := E3.c0
        have e1 := E3.c1
        clear E3
        go_wp2_with fail
        refine (awake9_x _ (HG.out.below B3)).mono ?_
        rintro e w4 ⟨rfl, hb4⟩
        have B4 := below_next B3 hb4
        go_wp2
        go_ret
        exact ⟨rfl, B4⟩
set_option maxHeartbeats 8000000 in
set_option maxRecDepth 100000 in
theorem clong_q (n : Int) (m : Nat) (w : World) (hg : Gl w) (hm : m < 512) (hn : bits BinOp.and IntKind.i64 n 511 = (m : Int)) :
    Calls Tryd.prog 4 #[.int .i64 n, .bool true] w fun e w' => e = .returned (.bool true) ∧ Below w.heap.size w w' := by
  have hrec : recV ([120, 44] ++ (34 :: (longA m ++ [34])) ++ [10]) = if 255 < m then .bad 2 2 else .ok [[(5, [120], 0), (5, longA m, 2)]] := long_quo m
  have hTl : (34 :: (longA m ++ [34])).length ≤ 600 := by simp [longA]; omega
  have HL1 := Lib.hid (fun j (hj : j < 512) V => addS (longA j) [97] (by rw [longA_len]; omega) (by decide) V)
  have hadd3 : ∀ V, (Op.stringOp .add ⟨#[120, 44]⟩ (baS (34 :: (longA m ++ [34])))).run Tryd.prog V = .ok (.string (baS ([120, 44] ++ (34 :: (longA m ++ [34]))))) V := fun V => addS [120, 44] (34 :: (longA m ++ [34])) (by decide) (by omega) V
  have hadd4 : ∀ V, (Op.stringOp .add (baS ([120, 44] ++ (34 :: (longA m ++ [34])))) ⟨#[10]⟩).run Tryd.prog V = .ok (.string (baS ([120, 44] ++ (34 :: (longA m ++ [34])) ++ [10]))) V := fun V => addS ([120, 44] ++ (34 :: (longA m ++ [34]))) [10] (by first | (simp; simp at hTl; omega) | (simp; omega)) (by decide) V
  have hadd1 : ∀ V, (Op.stringOp .add ⟨#[34]⟩ (baS (longA m))).run Tryd.prog V = .ok (.string (baS (34 :: longA m))) V := fun V => addS [34] (longA m) (by decide) (by rw [longA_len]; omega) V
  have hadd2 : ∀ V, (Op.stringOp .add (baS (34 :: longA m)) ⟨#[34]⟩).run Tryd.prog V = .ok (.string (baS (34 :: (longA m ++ [34])))) V := fun V => addS (34 :: longA m) [34] (by simp [longA]; omega) (by decide) V
  have kc : ∀ (V : World) (s : ByteArray), (convert 9 29 (.string s)).run Tryd.prog V = .ok (.slice (some ⟨V.heap.size, 0, none⟩) s.size (grownCap V s.size 0 5)) (Lib.bytesWorld V 5 s) := fun V s =>
    Lib.run_convert_string_bytes V 9 29 5 s Tryd.underlying9 Tryd.underlying29 Tryd.underlying5
  have HA : Hid (∀ V : World, Calls Tryd.prog 8 #[.slice (some ⟨V.heap.size, 0, none⟩) (baS ([120, 44] ++ (34 :: (longA m ++ [34])) ++ [10])).size (grownCap V (baS ([120, 44] ++ (34 :: (longA m ++ [34])) ++ [10])).size 0 5)] (Lib.bytesWorld V 5 (baS ([120, 44] ++ (34 :: (longA m ++ [34])) ++ [10]))) fun e w' => RecsE V ([120, 44] ++ (34 :: (longA m ++ [34])) ++ [10]) e w') := Lib.hid (fun V => parse_s _ V (by first | (simp; simp at hTl; omega) | (simp; omega)))
  have HREC := Lib.hid hrec
  have HG := Lib.hid hg
  clear hrec hg
  generalize hS4 : [120, 44] ++ (34 :: (longA m ++ [34])) ++ [10] = S4 at *
  clear hS4
  generalize [120, 44] ++ (34 :: (longA m ++ [34])) = S3 at *
  generalize 34 :: (longA m ++ [34]) = S2 at *
  generalize 34 :: longA m = S1 at *
  generalize hSL : longA m = SL at *
  have HSL := Lib.hid hSL
  clear hSL hTl
  go_enter Tryd.func4, Tryd.ntmps4
  go_wp2_with fail
  go_loopw [5, 6] (fun sv iv wr => ∃ j : Nat, iv = .int .i64 (j : Int) ∧ j ≤ m ∧ sv = .string (baS (longA j)) ∧ wr = w) (fun _ iv _ => m + 1 - intN iv)
  case atStart => exact ⟨0, rfl, Nat.zero_le _, rfl, rfl⟩
  case round =>
    obtain ⟨j, rfl, hj, rfl, hwr⟩ := hrel
    subst hwr
    by_cases hlt : j < m
    · have hadd := HL1.out j (by omega)
      rw [← longA_snoc] at hadd
      have hadd' : ∀ V, (Op.stringOp .add (baS (longA j)) ⟨#[97]⟩).run Tryd.prog V = .ok (.string (baS (longA (j + 1)))) V := hadd
      clear hadd
      generalize baS (longA j) = SJ at *
      generalize hj1 : j + 1 = j1 at *
      have HJ1 := Lib.hid hj1
      clear hj1
      go_wp2_with fail
      exact ⟨⟨j1, by simp [← HJ1.out], by have := HJ1.out; omega, rfl, trivial⟩, by have := HJ1.out; simp [intN]; omega⟩
    · have hjm : j = m := by omega
      subst hjm
      have hjn : ¬ ((j : Int) < (j : Int)) := by omega
      rw [HSL.out]
      have hsz : (baS SL).size = j := by rw [← HSL.out, baS_size, longA_len]
      generalize baS S4 = SS4 at *
      generalize baS S3 = SS3 at *
      generalize baS S2 = SS2x at *
      generalize baS S1 = SS1 at *
      generalize baS SL = SS at *
      go_wp2_with fail
      refine (HA.out _).mono ?_
      rintro e w2 h2
      by_cases hbig : 255 < j
      · rw [if_pos hbig] at HREC
        obtain ⟨rfl, hb2⟩ := h2.no HREC.out
        clear HA HREC kc hadd3 hadd4 h2
        have hbig' : (255 : Int) < (j : Int) := by omega
        go_upto_region 10 with fail
        generalize hw3 : w2.alloc _ = w3
        have B3 : Below wr.heap.size wr w3 := hw3 ▸ ball hb2
        have E3 : ErrC w3 w2.heap.size 2 2 := by subst hw3; exact ⟨by simp [go_sem], by simp [go_sem], by simp [go_sem]⟩
        clear hw3 hb2
        generalize w2.heap.size = N at *
        have e0 := E3.c0
        have e1 := E3.c1
        clear E3
        go_wp2_with fail
        refine (awake9_x _ (HG.out.below B3)).mono ?_
        rintro e w4 ⟨rfl, hb4⟩
        have B4 := below_next B3 hb4
        go_wp2
        go_ret
        exact ⟨rfl, B4⟩
      · rw [if_neg hbig] at HREC
        obtain ⟨⟨p, c, rfl, hr⟩, hb2⟩ := h2.yes HREC.out
        clear HA HREC kc hadd3 hadd4 h2
        have hbig' : ¬ (255 : Int) < (j : Int) := by omega
        go_upto_region 10 with fail
        generalize hw3 : w2.alloc _ = w3
        have B3 : Below wr.heap.size wr w3 := hw3 ▸ ball hb2
        have E3 : ErrC w3 w2.heap.size 0 0 := by subst hw3; exact ⟨by simp [go_sem], by simp [go_sem], by simp [go_sem]⟩
        have R3 : RecP tokP w3 p [[(5, [120], 0), (5, SL, 2)]] := hw3 ▸ hr.below (ball (Below.refl _ _))
        clear hw3 hb2 hr
        generalize w2.heap.size = N at *
        obtain ⟨g, g2, cq, rfl, k0, _, k1, _⟩ := R3.tok (j := 0) (k := 1) rfl rfl
        have q0 : w3.cell? ⟨g, 0, none⟩ = some (.slice (some ⟨g2, 0, none⟩) 2 cq) := k0
        have q1 : w3.cell? ⟨g2, 4, none⟩ = some (.string (baS SL)) := k1
        have hsz2 : (baS SL).size = j := by rw [← HSL.out, baS_size, longA_len]
        clear k0 k1 R3
        generalize baS SL = SS2 at *
        have e0 := E3.c0
        have e1 := E3.c1
        clear E3
        go_wp2_with fail
        refine (awake9_x _ (HG.out.below B3)).mono ?_
        rintro e w4 ⟨rfl, hb4⟩
        have B4 := below_next B3 hb4
        go_wp2
        go_ret
        exact ⟨rfl, B4⟩
theorem clong_walk (n : Int) (q : Bool) (w : World) (hg : Gl w) :
    Calls Tryd.prog 4 #[.int .i64 n, .bool q] w fun e w' => e = .returned (.bool true) ∧ Below w.heap.size w w' := by
  have hk : ∃ m : Nat, m < 512 ∧ bits BinOp.and IntKind.i64 n 511 = (m : Int) := by
    rw [i64_and511]
    exact ⟨(n % 512).toNat, by omega, by omega⟩
  obtain ⟨m, hm, hn⟩ := hk
  cases q with
  | true => exact clong_q n m w hg hm hn
  | false => exact clong_p n m w hg hm hn
end Go.Proofs.YtcfminkmidaaoaaDoor
