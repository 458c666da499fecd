/- DnslLong: however long, however many parts ahead, wrong or not, the law answers true. -/
import Derived.Test.YtfmanmidihofgaaDoorXp
import Derived.Test.YtfmanmidihofgaaDoorWn
import Derived.Deep.DeepCutAuto
namespace Go.Proofs.YtfmanmidihofgaaDoor
open Go.ChangeShapes Go.WideShapes Go.RowKit Go.Sort
theorem i64_and511 (n : Int) : bits .and .i64 n 511 = n % 512 := by
  have h255 : (BitVec.ofInt 64 511).toNat = 2 ^ 9 - 1 := by decide
  have h : (BitVec.ofInt 64 n &&& BitVec.ofInt 64 511).toNat = (n % ((2 ^ 64 : Nat) : Int)).toNat % 2 ^ 9 := by
    rw [BitVec.toNat_and, BitVec.toNat_ofInt, h255, Nat.and_two_pow_sub_one_eq_mod]
  show IntKind.i64.wrap ((BitVec.ofInt 64 n &&& BitVec.ofInt 64 511).toNat : Nat) = n % 512
  rw [h, IntKind.wrap_i64]
  omega
theorem i64_and7 (n : Int) : bits .and .i64 n 7 = n % 8 := by
  have h255 : (BitVec.ofInt 64 7).toNat = 2 ^ 3 - 1 := by decide
  have h : (BitVec.ofInt 64 n &&& BitVec.ofInt 64 7).toNat = (n % ((2 ^ 64 : Nat) : Int)).toNat % 2 ^ 3 := by
    rw [BitVec.toNat_and, BitVec.toNat_ofInt, h255, Nat.and_two_pow_sub_one_eq_mod]
  show IntKind.i64.wrap ((BitVec.ofInt 64 n &&& BitVec.ofInt 64 7).toNat : Nat) = n % 8
  rw [h, IntKind.wrap_i64]
  omega
/-- The text ahead of the long part. -/
def preK (k : Nat) : Bs := [107, 101, 121, 61] ++ aPairs k
theorem preK_len (k : Nat) : (preK k).length = 4 + 2 * k := by simp [preK, aPairs_len]; omega
theorem preK_snoc (k : Nat) : preK k ++ [97, 44] = preK (k + 1) := by simp [preK, aPairs]
theorem longK_snoc (k n : Nat) : longK k n ++ [98] = longK k (n + 1) := by unfold longK; rw [longB_snoc]; simp
theorem longK_zero (k : Nat) : longK k 0 = preK k := by simp [longK, preK, longB]
theorem long_bad' (k n : Nat) : rowsV (longK k n ++ [9, 44, 99, 10]) = .bad 1 (4 + 2 * k + n) := by
  have := long_bad k n
  rwa [List.append_assoc] at this
theorem long_good' (k n : Nat) : (255 < n → rowsV (longK k n ++ [44, 99, 10]) = .bad 2 (4 + 2 * k)) ∧ (¬ 255 < n → ∃ ts : List Tk, ts.length = k ∧ rowsV (longK k n ++ [44, 99, 10]) = .ok [([107, 101, 121], ts ++ [(6, longB n, 4 + 2 * k), (6, [99], 4 + 2 * k + n + 1)], 0)]) := by
  have := long_good k n
  rwa [List.append_assoc] at this
set_option maxHeartbeats 8000000 in
set_option maxRecDepth 100000 in
theorem dlong_t (n k : Int) (m kk : Nat) (w : World) (hm : m < 512) (hkk : kk < 8) (hn : bits BinOp.and IntKind.i64 n 511 = (m : Int)) (hk : bits BinOp.and IntKind.i64 k 7 = (kk : Int)) :
    Calls Tryd.prog 4 #[.int .i64 n, .int .i64 k, .bool true] w fun e w' => e = .returned (.bool true) ∧ Below w.heap.size w w' := by
  have HL1 := Lib.hid (fun j (hj : j < 8) V => addS (preK j) [97, 44] (by rw [preK_len]; omega) (by decide) V)
  have HL2 := Lib.hid (fun j (hj : j < 512) V => addS (longK kk j) [98] (by rw [longK_len]; omega) (by decide) V)
  have hl4 : (longK kk m ++ [9, 44, 99, 10]).length ≤ 1000000 := by rw [List.length_append, longK_len]; simp; omega
  have hadd3 : ∀ V, (Op.stringOp .add (baS (longK kk m)) ⟨#[9, 44, 99, 10]⟩).run Tryd.prog V = .ok (.string (baS (longK kk m ++ [9, 44, 99, 10]))) V := fun V => addS (longK kk m) [9, 44, 99, 10] (by rw [longK_len]; omega) (by decide) V
  have kc : ∀ (V : World) (s : ByteArray), (convert 9 29 (.string s)).run Tryd.prog V = .ok (.slice (some ⟨V.heap.size, 0, none⟩) s.size (grownCap V s.size 0 5)) (Lib.bytesWorld V 5 s) := fun V s =>
    Lib.run_convert_string_bytes V 9 29 5 s Tryd.underlying9 Tryd.underlying29 Tryd.underlying5
  have HA : Hid (∀ V : World, Calls Tryd.prog 7 #[.slice (some ⟨V.heap.size, 0, none⟩) (baS (longK kk m ++ [9, 44, 99, 10])).size (grownCap V (baS (longK kk m ++ [9, 44, 99, 10])).size 0 5)] (Lib.bytesWorld V 5 (baS (longK kk m ++ [9, 44, 99, 10]))) fun e w' => RowsE V (longK kk m ++ [9, 44, 99, 10]) e w') := Lib.hid (fun V => parse10_s _ V hl4)
  have HREC := Lib.hid (long_bad' kk m)
  clear hl4
  generalize hS4 : longK kk m ++ [9, 44, 99, 10] = S4 at *
  clear hS4
  go_enter Tryd.func4, Tryd.ntmps4
  go_wp2_with fail
  go_loopw [7, 8] (fun sv iv wr => ∃ j : Nat, iv = .int .i64 (j : Int) ∧ j ≤ kk ∧ sv = .string (baS (preK j)) ∧ wr = w) (fun _ iv _ => kk + 1 - intN iv)
  case atStart => exact ⟨0, rfl, Nat.zero_le _, rfl, rfl⟩
  case round =>
    obtain ⟨j, rfl, hj, rfl, hwr⟩ := hrel
    subst hwr
    by_cases hlt : j < kk
    · have hadd := HL1.out j (by omega)
      rw [preK_snoc] at hadd
      have hadd' : ∀ V, (Op.stringOp .add (baS (preK j)) ⟨#[97, 44]⟩).run Tryd.prog V = .ok (.string (baS (preK (j + 1)))) V := hadd
      clear hadd HL1 HL2 hadd3
      generalize baS (preK j) = SJ at *
      generalize hj1 : j + 1 = j1 at *
      have HJ1 := Lib.hid hj1
      clear hj1
      go_wp2_with fail
      exact ⟨⟨j1, by simp [← HJ1.out], by have := HJ1.out; omega, rfl, trivial⟩, by have := HJ1.out; simp [intN]; omega⟩
    · have hjm : j = kk := by omega
      have hjn : ¬ ((j : Int) < (kk : Int)) := by omega
      rw [hjm]
      have hjn2 : ¬ ((kk : Int) < (kk : Int)) := by omega
      have hszK : (baS (preK kk)).size = 4 + 2 * kk := by rw [baS_size, preK_len]
      have HZ : Hid (preK kk = longK kk 0) := Lib.hid (longK_zero kk).symm
      clear HL1 hjm hjn hlt hj
      generalize hT : 4 + 2 * kk = T at *
      have HT := Lib.hid hT
      have hT20 : T < 20 := by omega
      have hww : IntKind.i64.wrap ((T : Int) + (m : Int)) = (T : Int) + (m : Int) := by rw [IntKind.wrap_i64]; omega
      have hwk : IntKind.i64.wrap ((kk : Int) + 2) = (kk : Int) + 2 := by rw [IntKind.wrap_i64]; omega
      clear hT
      generalize hPP : baS (preK kk) = PP at *
      have HPP := Lib.hid hPP
      clear hPP
      go_wp2_with fail
      go_loopw [7, 10] (fun sv iv wx => ∃ i : Nat, iv = .int .i64 (i : Int) ∧ i ≤ m ∧ sv = .string (baS (longK kk i)) ∧ wx = wr) (fun _ iv _ => m + 1 - intN iv)
      case atStart => exact ⟨0, rfl, Nat.zero_le _, by rw [← HPP.out, HZ.out], rfl⟩
      case round =>
        obtain ⟨i, rfl, hi, rfl, hwr⟩ := hrel
        subst hwr
        by_cases hlt : i < m
        · have hadd := HL2.out i (by omega)
          rw [longK_snoc] at hadd
          have hadd' : ∀ V, (Op.stringOp .add (baS (longK kk i)) ⟨#[98]⟩).run Tryd.prog V = .ok (.string (baS (longK kk (i + 1)))) V := hadd
          clear hadd HL2 hadd3
          generalize baS (longK kk i) = SJ at *
          generalize hj1 : i + 1 = j1 at *
          have HJ1 := Lib.hid hj1
          clear hj1
          go_wp2_with fail
          exact ⟨⟨j1, by simp [← HJ1.out], by have := HJ1.out; omega, rfl, trivial⟩, by have := HJ1.out; simp [intN]; omega⟩
        · have him : i = m := by omega
          rw [him]
          have hin2 : ¬ ((m : Int) < (m : Int)) := by omega
          clear HL2 him hlt hi HPP HZ
          generalize baS (longK kk m) = SS at *
          go_wp2_with fail
          refine (HA.out _).mono ?_
          rintro e w2 h2
          obtain ⟨rfl, hb2⟩ := h2.no HREC.out
          clear HA HREC kc hadd3 h2
          go_upto_region 14 with fail
          generalize hw3 : w2.alloc _ = w3
          have B3 : Below wr.heap.size wr w3 := hw3 ▸ ball hb2
          have E3 : ErrC w3 w2.heap.size 1 ((T : Int) + (m : Int)) := by subst hw3; exact ⟨by simp [go_sem], by simp [go_sem], by simp [go_sem]⟩
          clear hw3 hb2
          generalize w2.heap.size = N at *
          have e0 := E3.c0
          have e1 := E3.c1
          clear E3
          go_wp2_with fail
          refine (awake10_x _).mono ?_
          rintro e w4 ⟨rfl, hb4⟩
          have B4 := below_next B3 hb4
          go_wp2
          go_ret
          exact ⟨rfl, B4⟩
set_option maxHeartbeats 8000000 in
set_option maxRecDepth 100000 in
theorem dlong_f (n k : Int) (m kk : Nat) (w : World) (hm : m < 512) (hkk : kk < 8) (hn : bits BinOp.and IntKind.i64 n 511 = (m : Int)) (hk : bits BinOp.and IntKind.i64 k 7 = (kk : Int)) :
    Calls Tryd.prog 4 #[.int .i64 n, .int .i64 k, .bool false] w fun e w' => e = .returned (.bool true) ∧ Below w.heap.size w w' := by
  have HL1 := Lib.hid (fun j (hj : j < 8) V => addS (preK j) [97, 44] (by rw [preK_len]; omega) (by decide) V)
  have HL2 := Lib.hid (fun j (hj : j < 512) V => addS (longK kk j) [98] (by rw [longK_len]; omega) (by decide) V)
  have hl4 : (longK kk m ++ [44, 99, 10]).length ≤ 1000000 := by rw [List.length_append, longK_len]; simp; omega
  have hadd3 : ∀ V, (Op.stringOp .add (baS (longK kk m)) ⟨#[44, 99, 10]⟩).run Tryd.prog V = .ok (.string (baS (longK kk m ++ [44, 99, 10]))) V := fun V => addS (longK kk m) [44, 99, 10] (by rw [longK_len]; omega) (by decide) V
  have kc : ∀ (V : World) (s : ByteArray), (convert 9 29 (.string s)).run Tryd.prog V = .ok (.slice (some ⟨V.heap.size, 0, none⟩) s.size (grownCap V s.size 0 5)) (Lib.bytesWorld V 5 s) := fun V s =>
    Lib.run_convert_string_bytes V 9 29 5 s Tryd.underlying9 Tryd.underlying29 Tryd.underlying5
  have HA : Hid (∀ V : World, Calls Tryd.prog 7 #[.slice (some ⟨V.heap.size, 0, none⟩) (baS (longK kk m ++ [44, 99, 10])).size (grownCap V (baS (longK kk m ++ [44, 99, 10])).size 0 5)] (Lib.bytesWorld V 5 (baS (longK kk m ++ [44, 99, 10]))) fun e w' => RowsE V (longK kk m ++ [44, 99, 10]) e w') := Lib.hid (fun V => parse10_s _ V hl4)
  have HREC := Lib.hid (long_good' kk m)
  clear hl4
  generalize hS4 : longK kk m ++ [44, 99, 10] = S4 at *
  clear hS4
  go_enter Tryd.func4, Tryd.ntmps4
  go_wp2_with fail
  go_loopw [7, 8] (fun sv iv wr => ∃ j : Nat, iv = .int .i64 (j : Int) ∧ j ≤ kk ∧ sv = .string (baS (preK j)) ∧ wr = w) (fun _ iv _ => kk + 1 - intN iv)
  case atStart => exact ⟨0, rfl, Nat.zero_le _, rfl, rfl⟩
  case round =>
    obtain ⟨j, rfl, hj, rfl, hwr⟩ := hrel
    subst hwr
    by_cases hlt : j < kk
    · have hadd := HL1.out j (by omega)
      rw [preK_snoc] at hadd
      have hadd' : ∀ V, (Op.stringOp .add (baS (preK j)) ⟨#[97, 44]⟩).run Tryd.prog V = .ok (.string (baS (preK (j + 1)))) V := hadd
      clear hadd HL1 HL2 hadd3
      generalize baS (preK j) = SJ at *
      generalize hj1 : j + 1 = j1 at *
      have HJ1 := Lib.hid hj1
      clear hj1
      go_wp2_with fail
      exact ⟨⟨j1, by simp [← HJ1.out], by have := HJ1.out; omega, rfl, trivial⟩, by have := HJ1.out; simp [intN]; omega⟩
    · have hjm : j = kk := by omega
      have hjn : ¬ ((j : Int) < (kk : Int)) := by omega
      rw [hjm]
      have hjn2 : ¬ ((kk : Int) < (kk : Int)) := by omega
      have hszK : (baS (preK kk)).size = 4 + 2 * kk := by rw [baS_size, preK_len]
      have HZ : Hid (preK kk = longK kk 0) := Lib.hid (longK_zero kk).symm
      clear HL1 hjm hjn hlt hj
      generalize hT : 4 + 2 * kk = T at *
      have HT := Lib.hid hT
      have hT20 : T < 20 := by omega
      have hww : IntKind.i64.wrap ((T : Int) + (m : Int)) = (T : Int) + (m : Int) := by rw [IntKind.wrap_i64]; omega
      have hwk : IntKind.i64.wrap ((kk : Int) + 2) = (kk : Int) + 2 := by rw [IntKind.wrap_i64]; omega
      clear hT
      generalize hPP : baS (preK kk) = PP at *
      have HPP := Lib.hid hPP
      clear hPP
      go_wp2_with fail
      go_loopw [7, 10] (fun sv iv wx => ∃ i : Nat, iv = .int .i64 (i : Int) ∧ i ≤ m ∧ sv = .string (baS (longK kk i)) ∧ wx = wr) (fun _ iv _ => m + 1 - intN iv)
      case atStart => exact ⟨0, rfl, Nat.zero_le _, by rw [← HPP.out, HZ.out], rfl⟩
      case round =>
        obtain ⟨i, rfl, hi, rfl, hwr⟩ := hrel
        subst hwr
        by_cases hlt : i < m
        · have hadd := HL2.out i (by omega)
          rw [longK_snoc] at hadd
          have hadd' : ∀ V, (Op.stringOp .add (baS (longK kk i)) ⟨#[98]⟩).run Tryd.prog V = .ok (.string (baS (longK kk (i + 1)))) V := hadd
          clear hadd HL2 hadd3
          generalize baS (longK kk i) = SJ at *
          generalize hj1 : i + 1 = j1 at *
          have HJ1 := Lib.hid hj1
          clear hj1
          go_wp2_with fail
          exact ⟨⟨j1, by simp [← HJ1.out], by have := HJ1.out; omega, rfl, trivial⟩, by have := HJ1.out; simp [intN]; omega⟩
        · have him : i = m := by omega
          rw [him]
          have hin2 : ¬ ((m : Int) < (m : Int)) := by omega
          clear HL2 him hlt hi HPP HZ
          generalize baS (longK kk m) = SS at *
          go_wp2_with fail
          refine (HA.out _).mono ?_
          rintro e w2 h2
          by_cases hbig : 255 < m
          · obtain ⟨rfl, hb2⟩ := h2.no (HREC.out.1 hbig)
            clear HA HREC kc hadd3 h2
            have hbig' : (255 : Int) < (m : Int) := by omega
            go_upto_region 16 with fail
            generalize hw3 : w2.alloc _ = w3
            have B3 : Below wr.heap.size wr w3 := hw3 ▸ ball hb2
            have E3 : ErrC w3 w2.heap.size 2 (T : Int) := by subst hw3; exact ⟨by simp [go_sem], by simp [go_sem], by simp [go_sem]⟩
            clear hw3 hb2
            generalize w2.heap.size = N at *
            have e0 := E3.c0
            have e1 := E3.c1
            clear E3
            go_wp2_with fail
            refine (awake10_x _).mono ?_
            rintro e w4 ⟨rfl, hb4⟩
            have B4 := below_next B3 hb4
            go_wp2
            go_ret
            exact ⟨rfl, B4⟩
          · obtain ⟨ts, hts, hrr⟩ := HREC.out.2 hbig
            obtain ⟨⟨p, c, rfl, hr⟩, hb2⟩ := h2.yes hrr
            clear HA HREC kc hadd3 h2 hrr
            have hbig' : ¬ (255 : Int) < (m : Int) := by omega
            go_upto_region 16 with fail
            generalize hw3 : w2.alloc _ = w3
            have B3 : Below wr.heap.size wr w3 := hw3 ▸ ball hb2
            have E3 : ErrC w3 w2.heap.size 0 0 := by subst hw3; exact ⟨by simp [go_sem], by simp [go_sem], by simp [go_sem]⟩
            have R3 := hr.below (hw3 ▸ ball (Below.refl _ _) : Below w2.heap.size w2 w3)
            clear hw3 hb2 hr
            generalize w2.heap.size = N at *
            obtain ⟨g, q, cq, hpe, hg, k0, k1, k2, kT⟩ := R3 0 _ rfl
            subst hpe
            obtain ⟨g2, hq2, hg2, m0, m1, m2⟩ := kT kk (6, longB m, T) (by rw [List.getElem?_append_right (by omega), hts, Nat.sub_self]; rfl)
            subst hq2
            have hlen : (ts ++ [((6, longB m, T) : Tk), (6, [99], T + m + 1)]).length = kk + 2 := by rw [List.length_append, hts]; rfl
            have q1 : w3.cell? ⟨g, 1, none⟩ = some (.slice (some ⟨g2, 0, none⟩) (kk + 2) cq) := by rw [← hlen]; exact k1
            have q2 : w3.cell? ⟨g2, kk * 3 + 1, none⟩ = some (.string (baS (longB m))) := m1
            have q3 : w3.cell? ⟨g2, kk * 3 + 2, none⟩ = some (.int .i64 (T : Int)) := m2
            have hsz2 : (baS (longB m)).size = m := by rw [baS_size, longB_len]
            clear k0 k1 k2 m0 m1 m2 kT R3 hts hlen
            generalize baS (longB m) = SS2 at *
            have e0 := E3.c0
            have e1 := E3.c1
            clear E3
            go_wp2_with fail
            refine (awake10_x _).mono ?_
            rintro e w4 ⟨rfl, hb4⟩
            have B4 := below_next B3 hb4
            go_wp2
            go_ret
            exact ⟨rfl, B4⟩
theorem dlong_walk (n k : Int) (q : Bool) (w : World) :
    Calls Tryd.prog 4 #[.int .i64 n, .int .i64 k, .bool q] w fun e w' => e = .returned (.bool true) ∧ Below w.heap.size w w' := by
  have h1 : ∃ m : Nat, m < 512 ∧ bits BinOp.and IntKind.i64 n 511 = (m : Int) := by
    rw [i64_and511]
    exact ⟨(n % 512).toNat, by omega, by omega⟩
  have h2 : ∃ m : Nat, m < 8 ∧ bits BinOp.and IntKind.i64 k 7 = (m : Int) := by
    rw [i64_and7]
    exact ⟨(k % 8).toNat, by omega, by omega⟩
  obtain ⟨m, hm, hn⟩ := h1
  obtain ⟨kk, hkk, hk⟩ := h2
  cases q with
  | true => exact dlong_t n k m kk w hm hkk hn hk
  | false => exact dlong_f n k m kk w hm hkk hn hk
end Go.Proofs.YtfmanmidihofgaaDoor
