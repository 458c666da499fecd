/- NamesNumbers: the law answers true. -/
import Derived.Test.YtjmgiepjgkoocaaDoorQa
import Derived.BigQuiet
namespace Go.Proofs.YtjmgiepjgkoocaaDoor
open Go.ChangeShapes Go.WideShapes Go.RowKit

def namesCells : Array Value := #[.int .i64 1, .int .i64 1, .int .i64 2, .int .i64 2, .int .i64 3, .int .i64 3, .int .i64 1, .int .i64 1, .int .i64 2, .int .i64 2, .int .i64 3, .int .i64 3, .int .i64 4, .int .i64 4, .int .i64 5, .int .i64 5, .int .i64 6, .int .i64 6, .int .i64 1, .int .i64 1, .int .i64 2, .int .i64 2, .int .i64 3, .int .i64 3, .int .i64 4, .int .i64 4, .int .i64 5, .int .i64 5, .int .i64 6, .int .i64 6, .int .i64 7, .int .i64 7, .int .i64 1, .int .i64 1, .int .i64 2, .int .i64 2, .int .i64 3, .int .i64 3, .int .i64 4, .int .i64 4, .int .i64 1, .int .i64 1, .int .i64 2, .int .i64 2, .int .i64 3, .int .i64 3, .int .i64 4, .int .i64 4, .int .i64 5, .int .i64 5, .int .i64 6, .int .i64 6, .int .i64 7, .int .i64 7, .int .i64 8, .int .i64 8, .int .i64 9, .int .i64 9, .int .i64 10, .int .i64 10, .int .i64 1, .int .i64 1, .int .i64 2, .int .i64 2, .int .i64 3, .int .i64 3, .int .i64 4, .int .i64 4, .int .i64 5, .int .i64 5, .int .i64 6, .int .i64 6]
theorem names_at : ∀ i : Nat, i < 36 → ∃ v : Int, namesCells[i * 2]? = some (.int .i64 v) ∧ namesCells[i * 2 + 1]? = some (.int .i64 v)
  | 0, _ => ⟨1, rfl, rfl⟩
  | 1, _ => ⟨2, rfl, rfl⟩
  | 2, _ => ⟨3, rfl, rfl⟩
  | 3, _ => ⟨1, rfl, rfl⟩
  | 4, _ => ⟨2, rfl, rfl⟩
  | 5, _ => ⟨3, rfl, rfl⟩
  | 6, _ => ⟨4, rfl, rfl⟩
  | 7, _ => ⟨5, rfl, rfl⟩
  | 8, _ => ⟨6, rfl, rfl⟩
  | 9, _ => ⟨1, rfl, rfl⟩
  | 10, _ => ⟨2, rfl, rfl⟩
  | 11, _ => ⟨3, rfl, rfl⟩
  | 12, _ => ⟨4, rfl, rfl⟩
  | 13, _ => ⟨5, rfl, rfl⟩
  | 14, _ => ⟨6, rfl, rfl⟩
  | 15, _ => ⟨7, rfl, rfl⟩
  | 16, _ => ⟨1, rfl, rfl⟩
  | 17, _ => ⟨2, rfl, rfl⟩
  | 18, _ => ⟨3, rfl, rfl⟩
  | 19, _ => ⟨4, rfl, rfl⟩
  | 20, _ => ⟨1, rfl, rfl⟩
  | 21, _ => ⟨2, rfl, rfl⟩
  | 22, _ => ⟨3, rfl, rfl⟩
  | 23, _ => ⟨4, rfl, rfl⟩
  | 24, _ => ⟨5, rfl, rfl⟩
  | 25, _ => ⟨6, rfl, rfl⟩
  | 26, _ => ⟨7, rfl, rfl⟩
  | 27, _ => ⟨8, rfl, rfl⟩
  | 28, _ => ⟨9, rfl, rfl⟩
  | 29, _ => ⟨10, rfl, rfl⟩
  | 30, _ => ⟨1, rfl, rfl⟩
  | 31, _ => ⟨2, rfl, rfl⟩
  | 32, _ => ⟨3, rfl, rfl⟩
  | 33, _ => ⟨4, rfl, rfl⟩
  | 34, _ => ⟨5, rfl, rfl⟩
  | 35, _ => ⟨6, rfl, rfl⟩
  | i + 36, h => absurd h (by omega)
set_option maxRecDepth 100000 in
set_option maxHeartbeats 4000000 in
theorem all_x (w : World) : Calls Tryd.prog 8 #[] w fun e w' => e = .returned (.slice (some ⟨w.heap.size, 0, none⟩) 36 36) ∧ w' = w.alloc (.cells namesCells 25) := by
  go_enter Tryd.func8, Tryd.ntmps8
  go_wp2
  go_ret
  exact ⟨rfl, rfl⟩
theorem low8 (w : World) (ht : TabOk w) : Calls Tryd.prog 9 #[.agg #[.int .u64 0, .int .u64 8]] w fun e w' => e = .returned (.int .i64 3) ∧ Below w.heap.size w w' := by
  have h := low_x 8 w ht (by decide)
  rw [show lowQ 8 = 3 from by decide +kernel] at h
  exact h
set_option maxRecDepth 100000 in
set_option maxHeartbeats 4000000 in
theorem names_walk (w : World) (ht : TabOk w) :
    Calls Tryd.prog 3 #[] w fun e w' => e = .returned (.bool true) ∧ Below w.heap.size w w' := by
  have hp := ht.pos
  go_enter Tryd.func3, Tryd.ntmps3
  go_wp2_with fail
  refine (all_x _).mono ?_
  rintro e w1 ⟨rfl, rfl⟩
  obtain ⟨X, hX⟩ : ∃ X, X = w.alloc (.cells namesCells 25) := ⟨_, rfl⟩
  have hc : ∀ i : Nat, i < 36 → ∃ v : Int, X.cell? ⟨w.heap.size, i * 2, none⟩ = some (.int .i64 v) ∧ X.cell? ⟨w.heap.size, i * 2 + 1, none⟩ = some (.int .i64 v) := fun i hi => by
    obtain ⟨v, h0, h1⟩ := names_at i hi
    exact ⟨v, by rw [hX, World.cell?_alloc_new]; exact h0, by rw [hX, World.cell?_alloc_new]; exact h1⟩
  have BX : Below w.heap.size w X := by rw [hX]; exact ball (Below.refl _ _)
  rw [← hX]
  clear hX
  go_wp2
  go_loopw [2] (fun i wr => ∃ k : Nat, k ≤ 36 ∧ i = .int .i64 k ∧ ∃ d, wr = X.drewN d) (fun i _ => 36 - (intOf i).toNat)
  case atStart => exact ⟨0, by omega, rfl, 0, rfl⟩
  case round =>
    obtain ⟨k, hk, rfl, d, rfl⟩ := hrel
    by_cases hlt : k < 36
    · obtain ⟨v, h0, h1⟩ := hc k hlt
      have hb : (k : Int) < 36 := by omega
      have c0 : ∀ d, (X.drewN d).cell? ⟨w.heap.size, k * 2, none⟩ = some (.int .i64 v) := fun d => h0
      have c1 : ∀ d, (X.drewN d).cell? ⟨w.heap.size, k * 2 + 1, none⟩ = some (.int .i64 v) := fun d => h1
      clear hc
      go_wp2
      go_quiet (fail)
      go_wp2
      exact ⟨⟨k + 1, by omega, by go_num, d + nq, rfl⟩, by simp [intOf]; omega⟩
    · have hb : ¬ (k : Int) < 36 := by omega
      have BY : Below w.heap.size w (X.drewN d) := ⟨BX.os, BX.tape, BX.output, BX.size, BX.block⟩
      clear hc
      go_wp2_with fail
      refine (low8 _ (ht.below BY hp)).mono ?_
      rintro e w2 ⟨rfl, hb2⟩
      go_wp2
      go_ret
      exact ⟨rfl, below_next BY hb2⟩
end Go.Proofs.YtjmgiepjgkoocaaDoor
