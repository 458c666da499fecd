/- IsctLong: whatever length is asked for, the law answers true. -/
import Derived.Test.YtbbaeipobgomdaaLIF
namespace Go.Proofs.Ytbbaeipobgomdaa
open Go.ChangeShapes Go.WideShapes Go.RowKit Go.Sort
theorem i64_and511 (n : Int) : bits .and .i64 n 511 = n % 512 := by
  have h0 : (BitVec.ofInt 64 511).toNat = 2 ^ 9 - 1 := by decide
  have h : (BitVec.ofInt 64 n &&& BitVec.ofInt 64 511).toNat = (n % ((2 ^ 64 : Nat) : Int)).toNat % 2 ^ 9 := by
    rw [BitVec.toNat_and, BitVec.toNat_ofInt, h0, Nat.and_two_pow_sub_one_eq_mod]
  show IntKind.i64.wrap ((BitVec.ofInt 64 n &&& BitVec.ofInt 64 511).toNat : Nat) = n % 512
  rw [h, IntKind.wrap_i64]
  omega
theorem i64_and7 (n : Int) : bits .and .i64 n 7 = n % 8 := by
  have h0 : (BitVec.ofInt 64 7).toNat = 2 ^ 3 - 1 := by decide
  have h : (BitVec.ofInt 64 n &&& BitVec.ofInt 64 7).toNat = (n % ((2 ^ 64 : Nat) : Int)).toNat % 2 ^ 3 := by
    rw [BitVec.toNat_and, BitVec.toNat_ofInt, h0, Nat.and_two_pow_sub_one_eq_mod]
  show IntKind.i64.wrap ((BitVec.ofInt 64 n &&& BitVec.ofInt 64 7).toNat : Nat) = n % 8
  rw [h, IntKind.wrap_i64]
  omega
theorem longS_len (t : Bool) (n : Nat) : (longS t n).length ≤ 2 * n := by
  induction n with
  | zero => simp [longS, longD]
  | succ n ih =>
    rw [longS_snoc, List.length_append]
    have : (unitQ (longU t n)).length ≤ 2 := by unfold unitQ; split <;> simp
    omega
theorem long_esc {i : Nat} (h : i % 8 = 3) : longS true (i + 1) = longS true i ++ [92, 34] := by
  rw [longS_snoc]; congr 1; unfold longU; rw [if_pos ⟨rfl, h⟩]; rfl
theorem long_plain {t : Bool} {i : Nat} (h : ¬ (t = true ∧ i % 8 = 3)) : longS t (i + 1) = longS t i ++ [97] := by
  rw [longS_snoc]; congr 1; unfold longU; rw [if_neg h]; rfl
set_option maxHeartbeats 8000000 in
set_option maxRecDepth 100000 in
theorem ilong_true_true (n : Int) (w : World) :
    Calls Try.prog 4 #[.int .i64 n, .bool true, .bool true] w fun e w' => e = .returned (.bool true) ∧ Below w.heap.size w w' := by
  obtain ⟨N, hN, hN5⟩ : ∃ N : Nat, bits BinOp.and IntKind.i64 n 511 = (N : Int) ∧ N < 512 := ⟨(n % 512).toNat, by rw [i64_and511]; omega, by omega⟩
  have kc : ∀ (V : World) (s : ByteArray), (convert 9 29 (.string s)).run Try.prog V = .ok (.slice (some ⟨V.heap.size, 0, none⟩) s.size (grownCap V s.size 0 5)) (Lib.bytesWorld V 5 s) := fun V s =>
    Lib.run_convert_string_bytes V 9 29 5 s Try.underlying9 Try.underlying29 Try.underlying5
  go_enter Try.func4, Try.ntmps4
  go_wp2_with fail
  go_loopw [7, 8] (fun sv iv wr => ∃ i : Nat, sv = .string (baS (longS true i)) ∧ iv = .int .i64 (i : Int) ∧ i ≤ N ∧ wr = w) (fun _ iv _ => N + 1 - intN iv)
  case atStart => exact ⟨0, rfl, rfl, Nat.zero_le _, rfl⟩
  case round =>
    obtain ⟨i, rfl, rfl, hi, rfl⟩ := hrel
    have hlen := longS_len true i
    by_cases hlt : i < N
    · clear kc
      by_cases h3 : i % 8 = 3
      · have hm : bits BinOp.and IntKind.i64 (i : Int) 7 = 3 := by rw [i64_and7]; omega
        have ha := fun V => addS (longS true i) [92, 34] (by omega) (by decide) V
        rw [← long_esc h3] at ha
        have ha' : ∀ V, (Op.stringOp .add (baS (longS true i)) ⟨#[92, 34]⟩).run Try.prog V = .ok (.string (baS (longS true (i + 1)))) V := ha
        clear ha h3
        generalize baS (longS true i) = S at *
        go_wp2
        exact ⟨⟨i + 1, rfl, by simp, by omega, trivial⟩, by simp [intN]; omega⟩
      · have hm : bits BinOp.and IntKind.i64 (i : Int) 7 = ((i % 8 : Nat) : Int) := by rw [i64_and7]; omega
        have hne : (((i % 8 : Nat) : Int) == 3) = false := by rw [beq_eq_false_iff_ne]; omega
        have ha := fun V => addS (longS true i) [97] (by omega) (by decide) V
        rw [← long_plain (fun h => h3 h.2)] at ha
        have ha' : ∀ V, (Op.stringOp .add (baS (longS true i)) ⟨#[97]⟩).run Try.prog V = .ok (.string (baS (longS true (i + 1)))) V := ha
        clear ha h3
        generalize baS (longS true i) = S at *
        generalize i % 8 = m at *
        go_wp2
        exact ⟨⟨i + 1, rfl, by simp, by omega, trivial⟩, by simp [intN]; omega⟩
    · obtain rfl : i = N := by omega
      have a1 : ∀ V, (Op.stringOp .add ⟨#[120, 32]⟩ (baS (longS true i))).run Try.prog V = .ok (.string (baS ([120, 32] ++ longS true i))) V := fun V => addS [120, 32] (longS true i) (by decide) (by omega) V
      have a2 : ∀ V, (Op.stringOp .add ⟨#[120, 32, 34]⟩ (baS (longS true i))).run Try.prog V = .ok (.string (baS ([120, 32, 34] ++ longS true i))) V := fun V => addS [120, 32, 34] (longS true i) (by decide) (by omega) V
      have a3 : ∀ V, (Op.stringOp .add (baS ([120, 32, 34] ++ longS true i)) ⟨#[34]⟩).run Try.prog V = .ok (.string (baS ([120, 32, 34] ++ longS true i ++ [34]))) V := fun V => addS ([120, 32, 34] ++ longS true i) [34] (by simp; omega) (by decide) V
      have a4 : ∀ V, (Op.stringOp .add (baS ([120, 32, 34] ++ longS true i)) ⟨#[9]⟩).run Try.prog V = .ok (.string (baS ([120, 32, 34] ++ longS true i ++ [9]))) V := fun V => addS ([120, 32, 34] ++ longS true i) [9] (by simp; omega) (by decide) V
      have HT : Hid (∀ V, Calls Try.prog 7 #[.slice (some ⟨V.heap.size, 0, none⟩) (baS ([120, 32, 34] ++ longS true i ++ [9])).size (grownCap V (baS ([120, 32, 34] ++ longS true i ++ [9])).size 0 5)] (Lib.bytesWorld V 5 (baS ([120, 32, 34] ++ longS true i ++ [9]))) fun e w' => e = .returned (.tuple #[.slice none 0 0, .agg #[.int .i64 1, .int .i64 ((3 + (longS true i).length : Nat) : Int)]]) ∧ Below V.heap.size V w') := fun V => (tokens_s _ V (by simp; omega)).mono fun e w' h => h.no (long_wrong true i)
      have hsz : (baS ([120, 32, 34] ++ longS true i ++ [9])).size = (3 + (longS true i).length) + 1 := by rw [baS_size]; simp; omega
      have hz : 3 + (longS true i).length ≤ 2000 := by omega
      have HSZ := Lib.hid hsz
      clear hsz
      clear hlen
      generalize baS ([120, 32] ++ longS true i) = S1 at *
      generalize baS ([120, 32, 34] ++ longS true i ++ [34]) = S3 at *
      generalize baS ([120, 32, 34] ++ longS true i ++ [9]) = S4 at *
      generalize baS ([120, 32, 34] ++ longS true i) = S2 at *
      generalize baS (longS true i) = S0 at *
      generalize 3 + (longS true i).length = z at *
      go_wp2_with fail
      refine (HT.out wr).mono ?_
      rintro e w2 ⟨rfl, hb2⟩
      clear HT kc
      have hsz := HSZ.out
      go_upto_region 15 with fail
      generalize hw3 : w2.alloc _ = w3
      have B3 : Below wr.heap.size wr w3 := hw3 ▸ ball hb2
      have E3 : ErrC w3 w2.heap.size 1 z := by subst hw3; exact ⟨by simp [go_sem], by simp [go_sem], by simp [go_sem]⟩
      clear hw3 hb2
      generalize w2.heap.size = X at *
      have e0 := E3.c0
      have e1 := E3.c1
      clear E3
      go_wp2_with fail
      refine (awake8_x w3).mono ?_
      rintro e w4 ⟨rfl, hb4⟩
      have B4 := below_next B3 hb4
      clear hb4 B3
      go_wp2
      go_ret
      exact ⟨rfl, B4⟩
set_option maxHeartbeats 8000000 in
set_option maxRecDepth 100000 in
theorem ilong_true_false (n : Int) (w : World) :
    Calls Try.prog 4 #[.int .i64 n, .bool true, .bool false] w fun e w' => e = .returned (.bool true) ∧ Below w.heap.size w w' := by
  obtain ⟨N, hN, hN5⟩ : ∃ N : Nat, bits BinOp.and IntKind.i64 n 511 = (N : Int) ∧ N < 512 := ⟨(n % 512).toNat, by rw [i64_and511]; omega, by omega⟩
  have kc : ∀ (V : World) (s : ByteArray), (convert 9 29 (.string s)).run Try.prog V = .ok (.slice (some ⟨V.heap.size, 0, none⟩) s.size (grownCap V s.size 0 5)) (Lib.bytesWorld V 5 s) := fun V s =>
    Lib.run_convert_string_bytes V 9 29 5 s Try.underlying9 Try.underlying29 Try.underlying5
  go_enter Try.func4, Try.ntmps4
  go_wp2_with fail
  go_loopw [7, 8] (fun sv iv wr => ∃ i : Nat, sv = .string (baS (longS true i)) ∧ iv = .int .i64 (i : Int) ∧ i ≤ N ∧ wr = w) (fun _ iv _ => N + 1 - intN iv)
  case atStart => exact ⟨0, rfl, rfl, Nat.zero_le _, rfl⟩
  case round =>
    obtain ⟨i, rfl, rfl, hi, rfl⟩ := hrel
    have hlen := longS_len true i
    by_cases hlt : i < N
    · clear kc
      by_cases h3 : i % 8 = 3
      · have hm : bits BinOp.and IntKind.i64 (i : Int) 7 = 3 := by rw [i64_and7]; omega
        have ha := fun V => addS (longS true i) [92, 34] (by omega) (by decide) V
        rw [← long_esc h3] at ha
        have ha' : ∀ V, (Op.stringOp .add (baS (longS true i)) ⟨#[92, 34]⟩).run Try.prog V = .ok (.string (baS (longS true (i + 1)))) V := ha
        clear ha h3
        generalize baS (longS true i) = S at *
        go_wp2
        exact ⟨⟨i + 1, rfl, by simp, by omega, trivial⟩, by simp [intN]; omega⟩
      · have hm : bits BinOp.and IntKind.i64 (i : Int) 7 = ((i % 8 : Nat) : Int) := by rw [i64_and7]; omega
        have hne : (((i % 8 : Nat) : Int) == 3) = false := by rw [beq_eq_false_iff_ne]; omega
        have ha := fun V => addS (longS true i) [97] (by omega) (by decide) V
        rw [← long_plain (fun h => h3 h.2)] at ha
        have ha' : ∀ V, (Op.stringOp .add (baS (longS true i)) ⟨#[97]⟩).run Try.prog V = .ok (.string (baS (longS true (i + 1)))) V := ha
        clear ha h3
        generalize baS (longS true i) = S at *
        generalize i % 8 = m at *
        go_wp2
        exact ⟨⟨i + 1, rfl, by simp, by omega, trivial⟩, by simp [intN]; omega⟩
    · obtain rfl : i = N := by omega
      have a1 : ∀ V, (Op.stringOp .add ⟨#[120, 32]⟩ (baS (longS true i))).run Try.prog V = .ok (.string (baS ([120, 32] ++ longS true i))) V := fun V => addS [120, 32] (longS true i) (by decide) (by omega) V
      have a2 : ∀ V, (Op.stringOp .add ⟨#[120, 32, 34]⟩ (baS (longS true i))).run Try.prog V = .ok (.string (baS ([120, 32, 34] ++ longS true i))) V := fun V => addS [120, 32, 34] (longS true i) (by decide) (by omega) V
      have a3 : ∀ V, (Op.stringOp .add (baS ([120, 32, 34] ++ longS true i)) ⟨#[34]⟩).run Try.prog V = .ok (.string (baS ([120, 32, 34] ++ longS true i ++ [34]))) V := fun V => addS ([120, 32, 34] ++ longS true i) [34] (by simp; omega) (by decide) V
      have a4 : ∀ V, (Op.stringOp .add (baS ([120, 32, 34] ++ longS true i)) ⟨#[9]⟩).run Try.prog V = .ok (.string (baS ([120, 32, 34] ++ longS true i ++ [9]))) V := fun V => addS ([120, 32, 34] ++ longS true i) [9] (by simp; omega) (by decide) V
      by_cases hbig : 255 < i
      · have HT : Hid (∀ V, Calls Try.prog 7 #[.slice (some ⟨V.heap.size, 0, none⟩) (baS ([120, 32, 34] ++ longS true i ++ [34])).size (grownCap V (baS ([120, 32, 34] ++ longS true i ++ [34])).size 0 5)] (Lib.bytesWorld V 5 (baS ([120, 32, 34] ++ longS true i ++ [34]))) fun e w' => e = .returned (.tuple #[.slice none 0 0, .agg #[.int .i64 2, .int .i64 2]]) ∧ Below V.heap.size V w') := fun V => (tokens_s _ V (by simp; omega)).mono fun e w' h => h.no (k := 2) (a := 2) (by rw [long_text, if_pos hbig])
        clear hlen
        generalize baS ([120, 32] ++ longS true i) = S1 at *
        generalize baS ([120, 32, 34] ++ longS true i ++ [34]) = S3 at *
        generalize baS ([120, 32, 34] ++ longS true i ++ [9]) = S4 at *
        generalize baS ([120, 32, 34] ++ longS true i) = S2 at *
        generalize baS (longS true i) = S0 at *
        go_wp2_with fail
        refine (HT.out wr).mono ?_
        rintro e w2 ⟨rfl, hb2⟩
        clear HT kc
        go_upto_region 17 with fail
        generalize hw3 : w2.alloc _ = w3
        have B3 : Below wr.heap.size wr w3 := hw3 ▸ ball hb2
        have E3 : ErrC w3 w2.heap.size 2 2 := by subst hw3; exact ⟨by simp [go_sem], by simp [go_sem], by simp [go_sem]⟩
        clear hw3 hb2
        generalize w2.heap.size = X at *
        have e0 := E3.c0
        have e1 := E3.c1
        clear E3
        go_wp2_with fail
        refine (awake8_x w3).mono ?_
        rintro e w4 ⟨rfl, hb4⟩
        have B4 := below_next B3 hb4
        clear hb4 B3
        go_wp2
        go_ret
        exact ⟨rfl, B4⟩
      · have HT : Hid (∀ V, Calls Try.prog 7 #[.slice (some ⟨V.heap.size, 0, none⟩) (baS ([120, 32, 34] ++ longS true i ++ [34])).size (grownCap V (baS ([120, 32, 34] ++ longS true i ++ [34])).size 0 5)] (Lib.bytesWorld V 5 (baS ([120, 32, 34] ++ longS true i ++ [34]))) fun e w' => (∃ p c, e = .returned (.tuple #[.slice p 2 c, .agg #[.int .i64 0, .int .i64 0]]) ∧ TokK w' p [(2, [120], 0), (3, longD true i, 2)]) ∧ Below V.heap.size V w') := fun V => (tokens_s _ V (by simp; omega)).mono fun e w' h => h.yes (L := [(2, [120], 0), (3, longD true i, 2)]) (by rw [long_text, if_neg hbig])
        have hD : (baS (longD true i)).size = i := by rw [baS_size, longD_len]
        clear hlen
        generalize baS ([120, 32] ++ longS true i) = S1 at *
        generalize baS ([120, 32, 34] ++ longS true i ++ [34]) = S3 at *
        generalize baS ([120, 32, 34] ++ longS true i ++ [9]) = S4 at *
        generalize baS ([120, 32, 34] ++ longS true i) = S2 at *
        generalize baS (longS true i) = S0 at *
        go_wp2_with fail
        refine (HT.out wr).mono ?_
        rintro e w2 ⟨⟨p, c, rfl, ht⟩, hb2⟩
        clear HT kc
        go_upto_region 17 with fail
        generalize hw3 : w2.alloc _ = w3
        have B3 : Below wr.heap.size wr w3 := hw3 ▸ ball hb2
        have T3 := ht.below (hw3 ▸ ball (Below.refl _ _) : Below w2.heap.size w2 w3)
        have E3 : ErrC w3 w2.heap.size 0 0 := by subst hw3; exact ⟨by simp [go_sem], by simp [go_sem], by simp [go_sem]⟩
        clear hw3 hb2 ht
        generalize w2.heap.size = X at *
        have e0 := E3.c0
        have e1 := E3.c1
        obtain ⟨g, rfl, _, _, k1, _⟩ := T3 1 _ rfl
        have q1 : w3.cell? ⟨g, 4, none⟩ = some (.string (baS (longD true i))) := k1
        clear E3 T3 k1
        generalize baS (longD true i) = SD at *
        go_wp2_with fail
        refine (awake8_x w3).mono ?_
        rintro e w4 ⟨rfl, hb4⟩
        have B4 := below_next B3 hb4
        clear hb4 B3
        go_wp2
        go_ret
        exact ⟨rfl, B4⟩
set_option maxHeartbeats 8000000 in
set_option maxRecDepth 100000 in
theorem ilong_false_true (n : Int) (w : World) :
    Calls Try.prog 4 #[.int .i64 n, .bool false, .bool true] w fun e w' => e = .returned (.bool true) ∧ Below w.heap.size w w' := by
  obtain ⟨N, hN, hN5⟩ : ∃ N : Nat, bits BinOp.and IntKind.i64 n 511 = (N : Int) ∧ N < 512 := ⟨(n % 512).toNat, by rw [i64_and511]; omega, by omega⟩
  have kc : ∀ (V : World) (s : ByteArray), (convert 9 29 (.string s)).run Try.prog V = .ok (.slice (some ⟨V.heap.size, 0, none⟩) s.size (grownCap V s.size 0 5)) (Lib.bytesWorld V 5 s) := fun V s =>
    Lib.run_convert_string_bytes V 9 29 5 s Try.underlying9 Try.underlying29 Try.underlying5
  go_enter Try.func4, Try.ntmps4
  go_wp2_with fail
  go_loopw [7, 8] (fun sv iv wr => ∃ i : Nat, sv = .string (baS (longS false i)) ∧ iv = .int .i64 (i : Int) ∧ i ≤ N ∧ wr = w) (fun _ iv _ => N + 1 - intN iv)
  case atStart => exact ⟨0, rfl, rfl, Nat.zero_le _, rfl⟩
  case round =>
    obtain ⟨i, rfl, rfl, hi, rfl⟩ := hrel
    have hlen := longS_len false i
    by_cases hlt : i < N
    · clear kc
      have ha := fun V => addS (longS false i) [97] (by omega) (by decide) V
      rw [← long_plain (fun h => by cases h.1)] at ha
      have ha' : ∀ V, (Op.stringOp .add (baS (longS false i)) ⟨#[97]⟩).run Try.prog V = .ok (.string (baS (longS false (i + 1)))) V := ha
      clear ha
      generalize baS (longS false i) = S at *
      go_wp2
      exact ⟨⟨i + 1, rfl, by simp, by omega, trivial⟩, by simp [intN]; omega⟩
    · obtain rfl : i = N := by omega
      have a1 : ∀ V, (Op.stringOp .add ⟨#[120, 32]⟩ (baS (longS false i))).run Try.prog V = .ok (.string (baS ([120, 32] ++ longS false i))) V := fun V => addS [120, 32] (longS false i) (by decide) (by omega) V
      have a2 : ∀ V, (Op.stringOp .add ⟨#[120, 32, 34]⟩ (baS (longS false i))).run Try.prog V = .ok (.string (baS ([120, 32, 34] ++ longS false i))) V := fun V => addS [120, 32, 34] (longS false i) (by decide) (by omega) V
      have a3 : ∀ V, (Op.stringOp .add (baS ([120, 32, 34] ++ longS false i)) ⟨#[34]⟩).run Try.prog V = .ok (.string (baS ([120, 32, 34] ++ longS false i ++ [34]))) V := fun V => addS ([120, 32, 34] ++ longS false i) [34] (by simp; omega) (by decide) V
      have a4 : ∀ V, (Op.stringOp .add (baS ([120, 32, 34] ++ longS false i)) ⟨#[9]⟩).run Try.prog V = .ok (.string (baS ([120, 32, 34] ++ longS false i ++ [9]))) V := fun V => addS ([120, 32, 34] ++ longS false i) [9] (by simp; omega) (by decide) V
      have HT : Hid (∀ V, Calls Try.prog 7 #[.slice (some ⟨V.heap.size, 0, none⟩) (baS ([120, 32, 34] ++ longS false i ++ [9])).size (grownCap V (baS ([120, 32, 34] ++ longS false i ++ [9])).size 0 5)] (Lib.bytesWorld V 5 (baS ([120, 32, 34] ++ longS false i ++ [9]))) fun e w' => e = .returned (.tuple #[.slice none 0 0, .agg #[.int .i64 1, .int .i64 ((3 + (longS false i).length : Nat) : Int)]]) ∧ Below V.heap.size V w') := fun V => (tokens_s _ V (by simp; omega)).mono fun e w' h => h.no (long_wrong false i)
      have hsz : (baS ([120, 32, 34] ++ longS false i ++ [9])).size = (3 + (longS false i).length) + 1 := by rw [baS_size]; simp; omega
      have hz : 3 + (longS false i).length ≤ 2000 := by omega
      have HSZ := Lib.hid hsz
      clear hsz
      clear hlen
      generalize baS ([120, 32] ++ longS false i) = S1 at *
      generalize baS ([120, 32, 34] ++ longS false i ++ [34]) = S3 at *
      generalize baS ([120, 32, 34] ++ longS false i ++ [9]) = S4 at *
      generalize baS ([120, 32, 34] ++ longS false i) = S2 at *
      generalize baS (longS false i) = S0 at *
      generalize 3 + (longS false i).length = z at *
      go_wp2_with fail
      refine (HT.out wr).mono ?_
      rintro e w2 ⟨rfl, hb2⟩
      clear HT kc
      have hsz := HSZ.out
      go_upto_region 15 with fail
      generalize hw3 : w2.alloc _ = w3
      have B3 : Below wr.heap.size wr w3 := hw3 ▸ ball hb2
      have E3 : ErrC w3 w2.heap.size 1 z := by subst hw3; exact ⟨by simp [go_sem], by simp [go_sem], by simp [go_sem]⟩
      clear hw3 hb2
      generalize w2.heap.size = X at *
      have e0 := E3.c0
      have e1 := E3.c1
      clear E3
      go_wp2_with fail
      refine (awake8_x w3).mono ?_
      rintro e w4 ⟨rfl, hb4⟩
      have B4 := below_next B3 hb4
      clear hb4 B3
      go_wp2
      go_ret
      exact ⟨rfl, B4⟩
set_option maxHeartbeats 8000000 in
set_option maxRecDepth 100000 in
theorem ilong_false_false (n : Int) (w : World) :
    Calls Try.prog 4 #[.int .i64 n, .bool false, .bool false] w fun e w' => e = .returned (.bool true) ∧ Below w.heap.size w w' := by
  obtain ⟨N, hN, hN5⟩ : ∃ N : Nat, bits BinOp.and IntKind.i64 n 511 = (N : Int) ∧ N < 512 := ⟨(n % 512).toNat, by rw [i64_and511]; omega, by omega⟩
  have kc : ∀ (V : World) (s : ByteArray), (convert 9 29 (.string s)).run Try.prog V = .ok (.slice (some ⟨V.heap.size, 0, none⟩) s.size (grownCap V s.size 0 5)) (Lib.bytesWorld V 5 s) := fun V s =>
    Lib.run_convert_string_bytes V 9 29 5 s Try.underlying9 Try.underlying29 Try.underlying5
  go_enter Try.func4, Try.ntmps4
  go_wp2_with fail
  go_loopw [7, 8] (fun sv iv wr => ∃ i : Nat, sv = .string (baS (longS false i)) ∧ iv = .int .i64 (i : Int) ∧ i ≤ N ∧ wr = w) (fun _ iv _ => N + 1 - intN iv)
  case atStart => exact ⟨0, rfl, rfl, Nat.zero_le _, rfl⟩
  case round =>
    obtain ⟨i, rfl, rfl, hi, rfl⟩ := hrel
    have hlen := longS_len false i
    by_cases hlt : i < N
    · clear kc
      have ha := fun V => addS (longS false i) [97] (by omega) (by decide) V
      rw [← long_plain (fun h => by cases h.1)] at ha
      have ha' : ∀ V, (Op.stringOp .add (baS (longS false i)) ⟨#[97]⟩).run Try.prog V = .ok (.string (baS (longS false (i + 1)))) V := ha
      clear ha
      generalize baS (longS false i) = S at *
      go_wp2
      exact ⟨⟨i + 1, rfl, by simp, by omega, trivial⟩, by simp [intN]; omega⟩
    · obtain rfl : i = N := by omega
      have a1 : ∀ V, (Op.stringOp .add ⟨#[120, 32]⟩ (baS (longS false i))).run Try.prog V = .ok (.string (baS ([120, 32] ++ longS false i))) V := fun V => addS [120, 32] (longS false i) (by decide) (by omega) V
      have a2 : ∀ V, (Op.stringOp .add ⟨#[120, 32, 34]⟩ (baS (longS false i))).run Try.prog V = .ok (.string (baS ([120, 32, 34] ++ longS false i))) V := fun V => addS [120, 32, 34] (longS false i) (by decide) (by omega) V
      have a3 : ∀ V, (Op.stringOp .add (baS ([120, 32, 34] ++ longS false i)) ⟨#[34]⟩).run Try.prog V = .ok (.string (baS ([120, 32, 34] ++ longS false i ++ [34]))) V := fun V => addS ([120, 32, 34] ++ longS false i) [34] (by simp; omega) (by decide) V
      have a4 : ∀ V, (Op.stringOp .add (baS ([120, 32, 34] ++ longS false i)) ⟨#[9]⟩).run Try.prog V = .ok (.string (baS ([120, 32, 34] ++ longS false i ++ [9]))) V := fun V => addS ([120, 32, 34] ++ longS false i) [9] (by simp; omega) (by decide) V
      by_cases hbig : 255 < i
      · have HT : Hid (∀ V, Calls Try.prog 7 #[.slice (some ⟨V.heap.size, 0, none⟩) (baS ([120, 32] ++ longS false i)).size (grownCap V (baS ([120, 32] ++ longS false i)).size 0 5)] (Lib.bytesWorld V 5 (baS ([120, 32] ++ longS false i))) fun e w' => e = .returned (.tuple #[.slice none 0 0, .agg #[.int .i64 2, .int .i64 2]]) ∧ Below V.heap.size V w') := fun V => (tokens_s _ V (by simp; omega)).mono fun e w' h => h.no (k := 2) (a := 2) (by rw [long_word, if_neg (by omega), if_pos hbig])
        clear hlen
        generalize baS ([120, 32] ++ longS false i) = S1 at *
        generalize baS ([120, 32, 34] ++ longS false i ++ [34]) = S3 at *
        generalize baS ([120, 32, 34] ++ longS false i ++ [9]) = S4 at *
        generalize baS ([120, 32, 34] ++ longS false i) = S2 at *
        generalize baS (longS false i) = S0 at *
        go_wp2_with fail
        refine (HT.out wr).mono ?_
        rintro e w2 ⟨rfl, hb2⟩
        clear HT kc
        go_upto_region 17 with fail
        generalize hw3 : w2.alloc _ = w3
        have B3 : Below wr.heap.size wr w3 := hw3 ▸ ball hb2
        have E3 : ErrC w3 w2.heap.size 2 2 := by subst hw3; exact ⟨by simp [go_sem], by simp [go_sem], by simp [go_sem]⟩
        clear hw3 hb2
        generalize w2.heap.size = X at *
        have e0 := E3.c0
        have e1 := E3.c1
        clear E3
        go_wp2_with fail
        refine (awake8_x w3).mono ?_
        rintro e w4 ⟨rfl, hb4⟩
        have B4 := below_next B3 hb4
        clear hb4 B3
        go_wp2
        go_ret
        exact ⟨rfl, B4⟩
      · by_cases h0 : i = 0
        · subst h0
          have HT : Hid (∀ V, Calls Try.prog 7 #[.slice (some ⟨V.heap.size, 0, none⟩) (baS ([120, 32] ++ longS false 0)).size (grownCap V (baS ([120, 32] ++ longS false 0)).size 0 5)] (Lib.bytesWorld V 5 (baS ([120, 32] ++ longS false 0))) fun e w' => (∃ p c, e = .returned (.tuple #[.slice p 1 c, .agg #[.int .i64 0, .int .i64 0]])) ∧ Below V.heap.size V w') := fun V => (tokens_s _ V (by simp [longS, longD])).mono fun e w' h => by
            obtain ⟨⟨p, c, e1, _⟩, hb⟩ := h.yes (L := [(2, [120], 0)]) (by rw [long_word, if_pos rfl])
            exact ⟨⟨p, c, e1⟩, hb⟩
          clear hlen hbig
          generalize baS ([120, 32] ++ longS false 0) = S1 at *
          generalize baS ([120, 32, 34] ++ longS false 0 ++ [34]) = S3 at *
          generalize baS ([120, 32, 34] ++ longS false 0 ++ [9]) = S4 at *
          generalize baS ([120, 32, 34] ++ longS false 0) = S2 at *
          generalize baS (longS false 0) = S0 at *
          go_wp2_with fail
          refine (HT.out wr).mono ?_
          rintro e w2 ⟨⟨p, c, rfl⟩, hb2⟩
          clear HT kc
          go_upto_region 17 with fail
          generalize hw3 : w2.alloc _ = w3
          have B3 : Below wr.heap.size wr w3 := hw3 ▸ ball hb2
          have E3 : ErrC w3 w2.heap.size 0 0 := by subst hw3; exact ⟨by simp [go_sem], by simp [go_sem], by simp [go_sem]⟩
          clear hw3 hb2
          generalize w2.heap.size = X at *
          have e0 := E3.c0
          have e1 := E3.c1
          clear E3
          go_wp2_with fail
          refine (awake8_x w3).mono ?_
          rintro e w4 ⟨rfl, hb4⟩
          have B4 := below_next B3 hb4
          clear hb4 B3
          go_wp2
          go_ret
          exact ⟨rfl, B4⟩
        · have HT : Hid (∀ V, Calls Try.prog 7 #[.slice (some ⟨V.heap.size, 0, none⟩) (baS ([120, 32] ++ longS false i)).size (grownCap V (baS ([120, 32] ++ longS false i)).size 0 5)] (Lib.bytesWorld V 5 (baS ([120, 32] ++ longS false i))) fun e w' => (∃ p c, e = .returned (.tuple #[.slice p 2 c, .agg #[.int .i64 0, .int .i64 0]]) ∧ TokK w' p [(2, [120], 0), (2, longD false i, 2)]) ∧ Below V.heap.size V w') := fun V => (tokens_s _ V (by simp; omega)).mono fun e w' h => h.yes (L := [(2, [120], 0), (2, longD false i, 2)]) (by rw [long_word, if_neg h0, if_neg hbig])
          have hD : (baS (longD false i)).size = i := by rw [baS_size, longD_len]
          clear hlen
          generalize baS ([120, 32] ++ longS false i) = S1 at *
          generalize baS ([120, 32, 34] ++ longS false i ++ [34]) = S3 at *
          generalize baS ([120, 32, 34] ++ longS false i ++ [9]) = S4 at *
          generalize baS ([120, 32, 34] ++ longS false i) = S2 at *
          generalize baS (longS false i) = S0 at *
          go_wp2_with fail
          refine (HT.out wr).mono ?_
          rintro e w2 ⟨⟨p, c, rfl, ht⟩, hb2⟩
          clear HT kc
          go_upto_region 17 with fail
          generalize hw3 : w2.alloc _ = w3
          have B3 : Below wr.heap.size wr w3 := hw3 ▸ ball hb2
          have T3 := ht.below (hw3 ▸ ball (Below.refl _ _) : Below w2.heap.size w2 w3)
          have E3 : ErrC w3 w2.heap.size 0 0 := by subst hw3; exact ⟨by simp [go_sem], by simp [go_sem], by simp [go_sem]⟩
          clear hw3 hb2 ht
          generalize w2.heap.size = X at *
          have e0 := E3.c0
          have e1 := E3.c1
          obtain ⟨g, rfl, _, _, k1, _⟩ := T3 1 _ rfl
          have q1 : w3.cell? ⟨g, 4, none⟩ = some (.string (baS (longD false i))) := k1
          clear E3 T3 k1
          generalize baS (longD false i) = SD at *
          go_wp2_with fail
          refine (awake8_x w3).mono ?_
          rintro e w4 ⟨rfl, hb4⟩
          have B4 := below_next B3 hb4
          clear hb4 B3
          go_wp2
          go_ret
          exact ⟨rfl, B4⟩
theorem ilong_walk (n : Int) (t u : Bool) (w : World) :
    Calls Try.prog 4 #[.int .i64 n, .bool t, .bool u] w fun e w' => e = .returned (.bool true) ∧ Below w.heap.size w w' := by
  cases t <;> cases u
  · exact ilong_false_false n w
  · exact ilong_false_true n w
  · exact ilong_true_false n w
  · exact ilong_true_true n w
end Go.Proofs.Ytbbaeipobgomdaa
