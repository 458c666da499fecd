/- The checker's own zeros: where it says that the noughts begin, and how many. -/
import Derived.Test.YtmlhlidjgiofkaaDoorRb
namespace Go.Proofs.YtmlhlidjgiofkaaDoor
open Go.ChangeShapes Go.WideShapes Go.RowKit Go.Sort

/-- A place and a length. -/
def Spot (e : Ending) : Prop := ∃ a l : Int, e = .returned (.tuple #[.int .i64 a, .int .i64 l]) ∧ -1 ≤ a ∧ a ≤ 7 ∧ 1 ≤ l ∧ l ≤ 8
set_option maxHeartbeats 4000000 in
set_option maxRecDepth 100000 in
theorem refZeros_x (x : Nat) (w : World) (hx : x < 340282366920938463463374607431768211456) :
    Calls Tryd.prog 38 #[.agg #[.int .u64 (hiQ x), .int .u64 (loQ x)]] w fun e w' => Spot e ∧ Below w.heap.size w w' := by
  have HX := Lib.hid hx
  obtain ⟨W0, hW0⟩ : ∃ W0, W0 = w.alloc (.cells #[.int .u64 (hiQ x), .int .u64 (loQ x)] 26) := ⟨_, rfl⟩
  have B0 : Below w.heap.size w W0 := hW0 ▸ (Below.refl _ _).alloc (Nat.le_refl _) _
  have HQ : Hid (W0.cell? ⟨w.heap.size, 0, none⟩ = some (.int .u64 (hiQ x)) ∧ W0.cell? ⟨w.heap.size, 1, none⟩ = some (.int .u64 (loQ x)) ∧ w.heap.size < W0.heap.size) := ⟨by rw [hW0]; simp [go_sem], by rw [hW0]; simp [go_sem], by rw [hW0]; simp⟩
  clear hx
  go_enter Tryd.func38, Tryd.ntmps38
  go_wp2
  rw [← hW0]
  clear hW0
  go_loopw [4, 5, 6] (fun av lv iv wr => ∃ (a l : Int) (i : Nat), av = .int .i64 a ∧ lv = .int .i64 l ∧ iv = .int .i64 i ∧ i ≤ 8 ∧ -1 ≤ a ∧ a ≤ 7 ∧ 1 ≤ l ∧ l ≤ 8 ∧ Below W0.heap.size W0 wr)
    (fun _ _ iv _ => 8 - (intOf iv).toNat)
  case atStart => exact ⟨-1, 1, 0, rfl, rfl, rfl, by omega, by omega, by omega, by omega, by omega, Below.refl _ _⟩
  case round =>
    obtain ⟨a, l, i, rfl, rfl, rfl, hi, a0, a1, l0, l1, hb⟩ := hrel
    by_cases hi8 : i < 8
    · have hi8' : (i : Int) < 8 := by omega
      go_wp2
      go_loopw [7] (fun jv wi => ∃ (j : Nat), jv = .int .i64 j ∧ i ≤ j ∧ j ≤ 8 ∧ Below W0.heap.size W0 wi)
        (fun jv _ => 8 - (intOf jv).toNat)
      case atStart => exact ⟨i, rfl, by omega, by omega, hb⟩
      case round =>
        obtain ⟨j, rfl, hij, hj, hbi⟩ := hrel
        by_cases hj8 : j < 8
        · have hj8' : (j : Int) < 8 := by omega
          have c0 := (hbi.cell (p := ⟨w.heap.size, 0, none⟩) HQ.out.2.2).trans HQ.out.1
          have c1 := (hbi.cell (p := ⟨w.heap.size, 1, none⟩) HQ.out.2.2).trans HQ.out.2.1
          go_wp2_with fail
          refine (refGroup_x x j wr HX.out hj8).mono ?_
          rintro e w1 ⟨⟨g, rfl, hg⟩, hb1⟩
          have hbn := below_next hbi hb1
          clear c0 c1 hb1
          cases hz : ((g : Int) == 0)
          · 
            by_cases hm : (j : Int) - i > l
            · go_wp2
              go_roundw
              case rel => exact ⟨(i : Int), (j : Int) - i, i + 1, by go_num, by go_num, by go_num, by omega, by omega, by omega, by omega, by omega, hbn⟩
              case measure => simp [intOf]; omega
            · go_wp2
              go_roundw
              case rel => exact ⟨a, l, i + 1, rfl, rfl, by go_num, by omega, a0, a1, l0, l1, hbn⟩
              case measure => simp [intOf]; omega
          · go_wp2
            go_roundw
            case rel => exact ⟨j + 1, by go_num, by omega, by omega, hbn⟩
            case measure => simp [intOf]; omega
        · have hjj : j = 8 := by omega
          subst hjj
          have hj8' : ¬ ((8 : Nat) : Int) < 8 := by omega
          by_cases hm : (8 : Int) - i > l
          · go_wp2
            go_roundw
            case rel => exact ⟨(i : Int), (8 : Int) - i, i + 1, by go_num, by go_num, by go_num, by omega, by omega, by omega, by omega, by omega, hbi⟩
            case measure => simp [intOf]; omega
          · go_wp2
            go_roundw
            case rel => exact ⟨a, l, i + 1, rfl, rfl, by go_num, by omega, a0, a1, l0, l1, hbi⟩
            case measure => simp [intOf]; omega
    · have hkk : i = 8 := by omega
      subst hkk
      go_wp2
      go_ret2
      exact ⟨⟨a, l, rfl, a0, a1, l0, l1⟩, below_next B0 hb⟩
end Go.Proofs.YtmlhlidjgiofkaaDoor
