/- The laws' own small check 'awake', and what quad's functions answer at numbers that are written out. -/
import Derived.Test.YtkmbfnjmgimlhaaGreatDoorzQw
import Derived.Test.YtkmbfnjmgimlhaaGreatDoorzQx
namespace Go.Proofs.YtkmbfnjmgimlhaaGreatDoor
open Go.ChangeShapes Go.WideShapes Go.RowKit

theorem keep {W w1 : World} (hb : Below W.heap.size W w1) (b : Nat) (h : b < W.heap.size) : (∀ o, w1.cell? ⟨b, o, none⟩ = W.cell? ⟨b, o, none⟩) ∧ b < w1.heap.size :=
  ⟨fun o => hb.cell (p := ⟨b, o, none⟩) h, Nat.lt_of_lt_of_le h hb.size⟩
theorem olds {W w1 : World} (hb : Below W.heap.size W w1) (b o : Nat) (h : b < W.heap.size) : w1.cell? ⟨b, o, none⟩ = W.cell? ⟨b, o, none⟩ := (keep hb b h).1 o
theorem keepf {W w1 : World} (hb : Below W.heap.size W w1) (b : Nat) (h : b < W.heap.size) : (∀ o, w1.cell? ⟨b, o, none⟩ = W.cell? ⟨b, o, none⟩) ∧ (∀ o, w1.frozen? ⟨b, o, none⟩ = W.frozen? ⟨b, o, none⟩) ∧ b < w1.heap.size :=
  ⟨fun o => hb.cell (p := ⟨b, o, none⟩) h, fun o => hb.frozen (p := ⟨b, o, none⟩) h, Nat.lt_of_lt_of_le h hb.size⟩
theorem below_next {W a b : World} (h : Below W.heap.size W a) (k : Below a.heap.size a b) : Below W.heap.size W b := h.trans (k.mono h.size)
theorem set2 {w : World} {B : Nat} {u v a b : Value} (h0 : w.cell? ⟨B, 0, none⟩ = some u) (h1 : w.cell? ⟨B, 1, none⟩ = some v) :
    ((w.setCell ⟨B, 0, none⟩ a).setCell ⟨B, 1, none⟩ b).cell? ⟨B, 0, none⟩ = some a ∧ ((w.setCell ⟨B, 0, none⟩ a).setCell ⟨B, 1, none⟩ b).cell? ⟨B, 1, none⟩ = some b := by
  have e1 : (w.setCell ⟨B, 0, none⟩ a).cell? ⟨B, 0, none⟩ = some a := World.cell?_setCell_same w _ a h0
  have e2 : (w.setCell ⟨B, 0, none⟩ a).cell? ⟨B, 1, none⟩ = some v := (World.cell?_setCell_other w _ _ a (by simp)).trans h1
  exact ⟨(World.cell?_setCell_other _ _ _ b (by simp)).trans e1, World.cell?_setCell_same _ _ b e2⟩
theorem ball {W a : World} {o : Obj} (h : Below W.heap.size W a) : Below W.heap.size W (a.alloc o) := h.alloc h.size o
theorem below_step {W a b : World} {o : Obj} (h : Below W.heap.size W a) (k : Below (a.alloc o).heap.size (a.alloc o) b) : Below W.heap.size W b :=
  below_next (h.alloc h.size o) k

theorem add_any (x y : Nat) (w : World) (hx : x < 340282366920938463463374607431768211456) (hy : y < 340282366920938463463374607431768211456) :
    Calls Tryz.prog 100 #[.agg #[.int .u64 (hiQ x), .int .u64 (loQ x)], .agg #[.int .u64 (hiQ y), .int .u64 (loQ y)]] w fun e w' => e = .returned (.tuple #[.agg #[.int .u64 (hiQ (addR x y)), .int .u64 (loQ (addR x y))], .bool (addB x y)]) ∧ Below w.heap.size w w' := by
  by_cases h : x + y < 340282366920938463463374607431768211456
  · rw [show addR x y = x + y from if_pos h, show addB x y = true from decide_eq_true h]; exact add_x x y w hx hy h
  · rw [show addR x y = 0 from if_neg h, show addB x y = false from decide_eq_false h, hiQ_zero, loQ_zero]; exact add_no x y w hx hy (by omega)
theorem less_any (x y : Nat) (w : World) :
    Calls Tryz.prog 97 #[.agg #[.int .u64 (hiQ x), .int .u64 (loQ x)], .agg #[.int .u64 (hiQ y), .int .u64 (loQ y)]] w fun e w' => e = .returned (.bool (ltB x y)) ∧ Below w.heap.size w w' := less_x x y w

theorem less_is (x y : Nat) (w : World) (b : Bool) (h : ltB x y = b) :
    Calls Tryz.prog 97 #[.agg #[.int .u64 (hiQ x), .int .u64 (loQ x)], .agg #[.int .u64 (hiQ y), .int .u64 (loQ y)]] w fun e w' => e = .returned (.bool b) ∧ Below w.heap.size w w' := h ▸ less_any x y w
theorem mask_at (j : Nat) (w : World) (h : j ≤ 128) :
    Calls Tryz.prog 99 #[.int .i64 j] w fun e w' => e = .returned (.agg #[.int .u64 (hiQ (maskQ j)), .int .u64 (loQ (maskQ j))]) ∧ Below w.heap.size w w' := mask_x j w (by omega) (by omega)
theorem mask_succ (j : Nat) (w : World) (h : j < 128) :
    Calls Tryz.prog 99 #[.int .i64 ((j : Int) + 1)] w fun e w' => e = .returned (.agg #[.int .u64 (hiQ (maskQ (j + 1))), .int .u64 (loQ (maskQ (j + 1)))]) ∧ Below w.heap.size w w' := mask_at (j + 1) w (by omega)
theorem mask_128 (w : World) :
    Calls Tryz.prog 99 #[.int .i64 128] w fun e w' => e = .returned (.agg #[.int .u64 (hiQ (maskQ 128)), .int .u64 (loQ (maskQ 128))]) ∧ Below w.heap.size w w' := mask_at 128 w (by omega)
theorem bit_at (j : Nat) (w : World) (h : j < 128) :
    Calls Tryz.prog 98 #[.int .i64 j] w fun e w' => e = .returned (.agg #[.int .u64 (hiQ (2 ^ j)), .int .u64 (loQ (2 ^ j))]) ∧ Below w.heap.size w w' := bit_x j w (by omega) (by omega)
theorem bit_sub (j : Nat) (w : World) (h : j < 128) :
    Calls Tryz.prog 98 #[.int .i64 (127 - (j : Int))] w fun e w' => e = .returned (.agg #[.int .u64 (hiQ (2 ^ (127 - j))), .int .u64 (loQ (2 ^ (127 - j)))]) ∧ Below w.heap.size w w' := by
  have := bit_at (127 - j) w (by omega)
  rw [show (((127 - j : Nat) : Int)) = 127 - (j : Int) from by omega] at this
  exact this
theorem bit_v (j : Nat) (w : World) (h : j ≤ 128) :
    Calls Tryz.prog 98 #[.int .i64 j] w fun e w' => e = .returned (.agg #[.int .u64 (hiQ (bitV j)), .int .u64 (loQ (bitV j))]) ∧ Below w.heap.size w w' := by
  by_cases h1 : j < 128
  · rw [show bitV j = 2 ^ j from if_pos h1]; exact bit_at j w h1
  · rw [show bitV j = 0 from if_neg h1, hiQ_zero, loQ_zero]; exact bit_no j w (by omega)
theorem bit_v127 (j : Nat) (w : World) (h : j < 128) :
    Calls Tryz.prog 98 #[.int .i64 (127 - (j : Int))] w fun e w' => e = .returned (.agg #[.int .u64 (hiQ (bitV (127 - j))), .int .u64 (loQ (bitV (127 - j)))]) ∧ Below w.heap.size w w' := by
  have := bit_v (127 - j) w (by omega)
  rw [show (((127 - j : Nat) : Int)) = 127 - (j : Int) from by omega] at this
  exact this

theorem aw_add1 (w : World) : Calls Tryz.prog 100 #[.agg #[.int .u64 0, .int .u64 18446744073709551615], .agg #[.int .u64 0, .int .u64 1]] w fun e w' => e = .returned (.tuple #[.agg #[.int .u64 1, .int .u64 0], .bool true]) ∧ Below w.heap.size w w' :=
  add_x 18446744073709551615 1 w (by decide) (by decide) (by decide)
theorem aw_add2 (w : World) : Calls Tryz.prog 100 #[.agg #[.int .u64 18446744073709551615, .int .u64 18446744073709551615], .agg #[.int .u64 0, .int .u64 1]] w fun e w' => e = .returned (.tuple #[.agg #[.int .u64 0, .int .u64 0], .bool false]) ∧ Below w.heap.size w w' :=
  add_no 340282366920938463463374607431768211455 1 w (by decide) (by decide) (by decide)
theorem aw_mask (w : World) : Calls Tryz.prog 99 #[.int .i64 65] w fun e w' => e = .returned (.agg #[.int .u64 18446744073709551615, .int .u64 9223372036854775808]) ∧ Below w.heap.size w w' :=
  mask_x 65 w (by decide) (by decide)
theorem aw_low (w : World) (ht : TabOk w) : Calls Tryz.prog 68 #[.agg #[.int .u64 0, .int .u64 0]] w fun e w' => e = .returned (.int .i64 128) ∧ Below w.heap.size w w' :=
  low_x 0 w ht (by decide)
theorem aw_bit (w : World) : Calls Tryz.prog 98 #[.int .i64 64] w fun e w' => e = .returned (.agg #[.int .u64 1, .int .u64 0]) ∧ Below w.heap.size w w' :=
  bit_x 64 w (by decide) (by decide)
theorem aw_less (w : World) : Calls Tryz.prog 97 #[.agg #[.int .u64 0, .int .u64 5], .agg #[.int .u64 1, .int .u64 0]] w fun e w' => e = .returned (.bool true) ∧ Below w.heap.size w w' :=
  less_x 5 18446744073709551616 w

end Go.Proofs.YtkmbfnjmgimlhaaGreatDoor
