/- RangCover: whatever the numbers, the law answers true. -/
import Derived.Test.YtmnemjhkmllniaaGreatDoorzGk
import Derived.Test.YtmnemjhkmllniaaGreatDoorzAw4
import Derived.Test.YtmnemjhkmllniaaGreatDoorzRw
namespace Go.Proofs.YtmnemjhkmllniaaGreatDoor
open Go.ChangeShapes Go.WideShapes Go.RowKit Go.Sort

theorem refLast_is (u : Int) (a k : Nat) (w : World) (ha : a < 340282366920938463463374607431768211456) (hk : k ≤ bitsV u) (ho : okV u a = true) (hd : 2 ^ k ∣ a) (z : Nat) (hz : a + (2 ^ k - 1) = z) :
    Calls Tryz.prog 47 #[.agg #[.int .i64 u, .int .u64 (hiQ a), .int .u64 (loQ a), .int .i64 ((bitsV u : Int) - k)]] w fun e w' => e = .returned (.agg #[.int .i64 u, .int .u64 (hiQ z), .int .u64 (loQ z)]) ∧ Below w.heap.size w w' := by
  have h := okP_k ho hk hd
  have := refLast_x u a ((bitsV u : Int) - k) w ha
  rw [show firstV u a ((bitsV u : Int) - k) = u from if_pos h.1, h.2, hz] at this
  exact this
/-- What is known of the pieces of a range. -/
structure Cov (u : Int) (x y : Nat) (l : List (Nat × Nat)) : Prop where
  bit : bitsV u ≤ 128
  each : ∀ p ∈ l, p.1 < 340282366920938463463374607431768211456 ∧ p.2 ≤ bitsV u ∧ okV u p.1 = true ∧ 2 ^ p.2 ∣ p.1 ∧ x ≤ p.1 ∧ p.1 + 2 ^ p.2 ≤ y + 1
  head : ∃ k r, l = (x, k) :: r
  last : ∃ r a k, l = r ++ [(a, k)] ∧ a + 2 ^ k = y + 1
  side : ∀ (i : Nat) (p q : Nat × Nat), l[i]? = some p → l[i + 1]? = some q → q.1 = p.1 + 2 ^ p.2 ∧ (q.2 = p.2 → ¬ 2 ^ (p.2 + 1) ∣ p.1)
theorem cov_of {u : Int} {x y : Nat} (h : okR u x u y = true) (hy : y < 340282366920938463463374607431768211456) : Cov u x y (coverR u x u y) := by
  obtain ⟨h1, h2, _, h4⟩ := okR_is h
  have hl := okV_lt h2 hy
  rw [coverR_yes h]
  refine ⟨bitsV_le u, fun p hp => ?_, ?_, cover_last h4, fun i p q => beside_at _ i p q (cover_beside hy x)⟩
  · obtain ⟨e1, e2, e3, e4⟩ := cover_in x p hp
    have hp2 := two_pos p.2
    have hb : 2 ^ bitsV u ≤ 340282366920938463463374607431768211456 := pow_bits_le u
    refine ⟨by omega, ?_, okV_of (okV_v h1) (by omega), e3, e1, e2⟩
    by_cases e : p.2 ≤ bitsV u
    · exact e
    · have := pow_le (show bitsV u + 1 ≤ p.2 by omega); have := two_pos (bitsV u); rw [Nat.pow_succ] at *; omega
  · rw [coverX_yes h4]; exact ⟨_, _, rfl⟩
theorem okP_one {u : Int} {a k : Nat} (hn : ¬ 2 ^ (k + 1) ∣ a) : okP u a ((bitsV u : Int) - k - 1) = false := by
  cases h : okP u a ((bitsV u : Int) - k - 1) with
  | false => rfl
  | true =>
    exfalso
    obtain ⟨_, h0, h1, h2⟩ := okP_is h
    have e : hostK u ((bitsV u : Int) - k - 1) = k + 1 := by unfold hostK; omega
    rw [e] at h2
    exact hn (cutK_dvd.1 h2)
theorem ixP (g n c j : Nat) (hj : j < n) (V : World) : (Instr.indexAt 45 (.slice (some ⟨g, 0, none⟩) n c) (.int .i64 (j : Int))).run Tryz.prog V = .ok (.pointer (some ⟨g, j * 4, none⟩)) V := by
  rw [run_indexAt_slice V 45 ⟨g, 0, none⟩ n c .i64 j (by kernel_rfl), if_pos ⟨by omega, by omega⟩]
  have e : (sizeOf (Tryz.prog.elem 45)).run Tryz.prog V = .ok 4 V := by kernel_rfl
  rw [e]
  simp [Lib.add_plain]
end Go.Proofs.YtmnemjhkmllniaaGreatDoor
