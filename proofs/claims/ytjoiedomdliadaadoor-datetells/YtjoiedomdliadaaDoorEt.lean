/- The second writing's Text. -/
import Derived.Test.YtjoiedomdliadaaDoorDa
namespace Go.Proofs.YtjoiedomdliadaaDoor
open Go.ChangeShapes Go.WideShapes Go.RowKit Go.Sort
theorem ddR_step (m : Nat) (h : 0 < m) : (if m / 10 = 0 then [] else Lib.decDigits (m / 10)) ++ [dC (m % 10)] = Lib.decDigits m := by
  by_cases h1 : m < 10
  · rw [if_pos (by omega), digs_one h1, show m % 10 = m by omega]; rfl
  · rw [if_neg (by omega), digs_more h1]
set_option maxHeartbeats 4000000 in
set_option maxRecDepth 100000 in
theorem textR_x (n : Nat) (w : World) (hn : n < 18446744073709551616) :
    Calls Tryd.prog 16 #[.int .u64 n] w fun e w' => e = .returned (.string (baS (Lib.decDigits n))) ∧ Below w.heap.size w w' := by
  have HN := Lib.hid hn
  clear hn
  go_enter Tryd.func16, Tryd.ntmps16
  go_wp2
  go_loopw [0, 3] (fun nv sv wr => ∃ (m : Nat) (s : Bs), nv = .int .u64 m ∧ sv = .string (baS s) ∧ Hid (m * 10 ^ s.length < 18446744073709551616 ∧ s.length ≤ 20 ∧ ((s = [] ∧ m = n) ∨ (s ≠ [] ∧ (if m = 0 then [] else Lib.decDigits m) ++ s = Lib.decDigits n))) ∧ Below w.heap.size w wr)
    (fun nv sv _ => (intOf nv).toNat + (if sizeS sv = 0 then 1 else 0))
  case atStart => exact ⟨n, [], rfl, rfl, ⟨by simpa using HN.out, by simp, Or.inl ⟨rfl, rfl⟩⟩, Below.refl _ _⟩
  case round =>
    obtain ⟨m, s, rfl, rfl, hh, hb⟩ := hrel
    by_cases hm : 0 < m
    · have hm' : (0 : Int) < m := by omega
      have hlen : s.length ≤ 19 := by
        have h1 := hh.out.1
        rcases Nat.lt_or_ge s.length 20 with h | h
        · omega
        · have a : 10 ^ 20 ≤ 10 ^ s.length := Nat.pow_le_pow_right (by decide) h
          have b : 1 * 10 ^ s.length ≤ m * 10 ^ s.length := Nat.mul_le_mul_right _ hm
          have c : 10 ^ 20 = 100000000000000000000 := by decide
          omega
      have hb8 := byteE wr (48 + m % 10) (by omega)
      have hdc : UInt8.ofNat (48 + m % 10) = dC (m % 10) := rfl
      rw [hdc] at hb8
      have hw1 : IntKind.u64.wrap (48 + (m : Int) % 10) = ((48 + m % 10 : Nat) : Int) := by rw [IntKind.wrap_u64]; omega
      have hw2 : IntKind.u8.wrap ((48 + m % 10 : Nat) : Int) = ((48 + m % 10 : Nat) : Int) := by rw [IntKind.wrap_u8]; omega
      have hw3 : (48 + (m : Int) % 10) = ((48 + m % 10 : Nat) : Int) := by omega
      have hm64 : m < 18446744073709551616 := by
        have h1 := hh.out.1
        have h2 : m * 1 ≤ m * 10 ^ s.length := Nat.mul_le_mul_left _ (Nat.one_le_pow _ _ (by decide))
        omega
      obtain ⟨m10, hm10⟩ : ∃ m10, m / 10 = m10 := ⟨_, rfl⟩
      have hw4 : IntKind.u64.wrap ((m : Int) / 10) = (m10 : Int) := by rw [IntKind.wrap_u64]; omega
      have HM10 := Lib.hid hm10
      clear hm64 hm10
      have hadd : ∀ V, (Op.stringOp .add (baS [dC (m % 10)]) (baS s)).run Tryd.prog V = .ok (.string (baS (dC (m % 10) :: s))) V := addS [dC (m % 10)] s (by simp) (by omega)
      generalize hc : dC (m % 10) = c at *
      have HC := Lib.hid hc
      have HL := Lib.hid hlen
      clear hdc hc hlen
      generalize hv : 48 + m % 10 = v at *
      clear hv
      go_wp2
      go_roundw
      case rel =>
        obtain ⟨h1, h2, h4⟩ := hh.out
        refine ⟨m10, c :: s, by first | rfl | rw [hw4], rfl, ⟨?_, by have := HL.out; simp; omega, Or.inr ⟨by simp, ?_⟩⟩, ball hb⟩
        · rw [List.length_cons, Nat.pow_succ, ← HM10.out]
          exact Nat.lt_of_le_of_lt (by rw [Nat.mul_comm (10 ^ s.length) 10, ← Nat.mul_assoc]; exact Nat.mul_le_mul_right _ (Nat.div_mul_le_self m 10)) h1
        · have hd := ddR_step m hm
          rw [HC.out, HM10.out] at hd
          rcases h4 with ⟨rfl, rfl⟩ | ⟨_, h5⟩
          · exact hd
          · rw [← h5, if_neg (show ¬ m = 0 by omega), ← hd, List.append_assoc]; rfl
      case measure =>
        have := HM10.out
        simp [intOf, sizeS, baS_len]
        split <;> omega
    · obtain rfl : m = 0 := by omega
      by_cases hs : s = []
      · subst hs
        have e0 : baS [] = ⟨#[]⟩ := rfl
        rw [e0]
        have hb8 : (convert 35 9 (.slice (some ⟨wr.heap.size, 0, none⟩) 1 1)).run Tryd.prog (wr.alloc (.cells #[.int .u8 48] 5)) = .ok (.string (baS [48])) (wr.alloc (.cells #[.int .u8 48] 5)) := byteE wr 48 (by omega)
        have hadd : ∀ V, (Op.stringOp .add (baS [48]) ⟨#[]⟩).run Tryd.prog V = .ok (.string (baS [48])) V := addS [48] [] (by simp) (by simp)
        go_wp2
        go_roundw
        case rel =>
          obtain ⟨h1, h2, h4⟩ := hh.out
          have hn0 : 0 = n := by
            rcases h4 with ⟨_, h⟩ | ⟨h, _⟩
            · exact h
            · exact absurd rfl h
          refine ⟨0, [48], by go_num, rfl, ⟨by simp, by simp, Or.inr ⟨by simp, ?_⟩⟩, ball hb⟩
          rw [← hn0, digs_one (by decide)]; rfl
        case measure => simp [sizeS, baS_len, intOf]; decide
      · have hq := ne_listR hs
        go_wp2
        go_ret
        refine ⟨?_, hb⟩
        rcases hh.out.2.2 with ⟨h, _⟩ | ⟨_, h⟩
        · exact absurd h hs
        · rw [← h]; rfl
end Go.Proofs.YtjoiedomdliadaaDoor
