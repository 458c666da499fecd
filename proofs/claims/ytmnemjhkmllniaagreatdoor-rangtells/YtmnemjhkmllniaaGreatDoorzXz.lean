/- The checker's own zeros, told exactly. -/
import Derived.Test.YtmnemjhkmllniaaGreatDoorzXa
namespace Go.Proofs.YtmnemjhkmllniaaGreatDoor
open Go.ChangeShapes Go.WideShapes Go.RowKit Go.Sort

theorem drop_gi (x j : Nat) (hj : j < 8) : (groupsOf x).drop j = gi x j :: (groupsOf x).drop (j + 1) := by
  rw [List.drop_eq_getElem_cons (show j < (groupsOf x).length from hj)]
  congr 1
  simp [gi, List.getD, List.getElem?_eq_getElem (show j < (groupsOf x).length from hj)]
theorem zrun_yes (x j : Nat) (hj : j < 8) (h : gi x j = 0) : zrun ((groupsOf x).drop j) = zrun ((groupsOf x).drop (j + 1)) + 1 := by
  rw [drop_gi x j hj]; simp [zrun, h]
theorem zrun_no (x j : Nat) (hj : j < 8) (h : gi x j ≠ 0) : zrun ((groupsOf x).drop j) = 0 := by
  rw [drop_gi x j hj]; simp [zrun, h]
theorem zrun_end (x : Nat) : zrun ((groupsOf x).drop 8) = 0 := by
  rw [List.drop_of_length_le (by rw [groupsOf_len]; omega)]; rfl
theorem zst_take (gs : List Nat) (n : Nat) (h : (zst gs n).2 < zrun (gs.drop n)) : zst gs (n + 1) = ((n : Int), zrun (gs.drop n)) := by
  conv => lhs; unfold zst
  rw [if_pos h]
theorem zst_leave (gs : List Nat) (n : Nat) (h : ¬ (zst gs n).2 < zrun (gs.drop n)) : zst gs (n + 1) = zst gs n := by
  conv => lhs; unfold zst
  rw [if_neg h]
set_option maxHeartbeats 4000000 in
set_option maxRecDepth 100000 in
theorem zerosE_x (x : Nat) (w : World) (hx : x < 340282366920938463463374607431768211456) :
    Calls Tryz.prog 52 #[.agg #[.int .u64 (hiQ x), .int .u64 (loQ x)]] w fun e w' => e = .returned (.tuple #[.int .i64 (zst (groupsOf x) 8).1, .int .i64 ((zst (groupsOf x) 8).2 : Nat)]) ∧ Below w.heap.size w w' := by
  have HX := Lib.hid hx
  obtain ⟨W0, hW0⟩ : ∃ W0, W0 = w.alloc (.cells #[.int .u64 (hiQ x), .int .u64 (loQ x)] 26) := ⟨_, rfl⟩
  have B0 : Below w.heap.size w W0 := hW0 ▸ (Below.refl _ _).alloc (Nat.le_refl _) _
  have HQ : Hid (W0.cell? ⟨w.heap.size, 0, none⟩ = some (.int .u64 (hiQ x)) ∧ W0.cell? ⟨w.heap.size, 1, none⟩ = some (.int .u64 (loQ x)) ∧ w.heap.size < W0.heap.size) := ⟨by rw [hW0]; simp [go_sem], by rw [hW0]; simp [go_sem], by rw [hW0]; simp⟩
  clear hx
  go_enter Tryz.func52, Tryz.ntmps52
  go_wp2
  rw [← hW0]
  clear hW0
  go_loopw [4, 5, 6] (fun av lv iv wr => ∃ (a : Int) (l i : Nat), av = .int .i64 a ∧ lv = .int .i64 l ∧ iv = .int .i64 i ∧ i ≤ 8 ∧ -1 ≤ a ∧ a ≤ 7 ∧ 1 ≤ l ∧ l ≤ 8 ∧ Hid (zst (groupsOf x) i = (a, l)) ∧ Below W0.heap.size W0 wr)
    (fun _ _ iv _ => 8 - (intOf iv).toNat)
  case atStart => exact ⟨-1, 1, 0, rfl, rfl, rfl, by omega, by omega, by omega, by omega, by omega, rfl, Below.refl _ _⟩
  case round =>
    obtain ⟨a, l, i, rfl, rfl, rfl, hi, a0, a1, l0, l1, hst, hb⟩ := hrel
    by_cases hi8 : i < 8
    · have hi8' : (i : Int) < 8 := by omega
      go_wp2
      go_loopw [7] (fun jv wi => ∃ (j : Nat), jv = .int .i64 j ∧ i ≤ j ∧ j ≤ 8 ∧ Hid (zrun ((groupsOf x).drop i) = (j - i) + zrun ((groupsOf x).drop j)) ∧ Below W0.heap.size W0 wi)
        (fun jv _ => 8 - (intOf jv).toNat)
      case atStart => exact ⟨i, rfl, by omega, by omega, by show _ = _; omega, hb⟩
      case round =>
        obtain ⟨j, rfl, hij, hj, hz, hbi⟩ := hrel
        by_cases hj8 : j < 8
        · have hj8' : (j : Int) < 8 := by omega
          have c0 := (hbi.cell (p := ⟨w.heap.size, 0, none⟩) HQ.out.2.2).trans HQ.out.1
          have c1 := (hbi.cell (p := ⟨w.heap.size, 1, none⟩) HQ.out.2.2).trans HQ.out.2.1
          obtain ⟨g, hg⟩ : ∃ g, gi x j = g := ⟨_, rfl⟩
          have HGr := groupE_x x j wr HX.out hj8
          rw [hg] at HGr
          have HGi := Lib.hid hg
          clear hg
          go_wp2_with fail
          refine HGr.mono ?_
          rintro e w1 ⟨rfl, hb1⟩
          have hbn := below_next hbi hb1
          clear c0 c1 hb1
          by_cases hg0 : g = 0
          · have hzz : ((g : Int) == 0) = true := by simp [hg0]
            have HZ : Hid (zrun ((groupsOf x).drop i) = (j + 1 - i) + zrun ((groupsOf x).drop (j + 1))) := by
              show _ = _; rw [hz.out, zrun_yes x j hj8 (HGi.out.trans hg0)]; omega
            clear hg0
            go_wp2
            go_roundw
            case rel => exact ⟨j + 1, by go_num, by omega, by omega, HZ, hbn⟩
            case measure => simp [intOf]; omega
          · have hzz : ((g : Int) == 0) = false := by simp; omega
            have HZ : Hid (zrun ((groupsOf x).drop i) = j - i) := by
              show _ = _; rw [hz.out, zrun_no x j hj8 (by rw [HGi.out]; exact hg0)]; omega
            clear hg0
            by_cases hm : (j : Int) - i > l
            · have HS : Hid (zst (groupsOf x) (i + 1) = ((i : Int), j - i)) := by
                show _ = _; rw [zst_take _ _ (by rw [HZ.out, hst.out]; show l < j - i; omega), HZ.out]
              go_wp2
              go_roundw
              case rel => exact ⟨(i : Int), j - i, i + 1, by go_num, by go_num, by go_num, by omega, by omega, by omega, by omega, by omega, HS, hbn⟩
              case measure => simp [intOf]; omega
            · have HS : Hid (zst (groupsOf x) (i + 1) = (a, l)) := by
                show _ = _; rw [zst_leave _ _ (by rw [HZ.out, hst.out]; show ¬ l < j - i; omega), hst.out]
              go_wp2
              go_roundw
              case rel => exact ⟨a, l, i + 1, rfl, rfl, by go_num, by omega, a0, a1, l0, l1, HS, hbn⟩
              case measure => simp [intOf]; omega
        · have hjj : j = 8 := by omega
          subst hjj
          have hj8' : ¬ ((8 : Nat) : Int) < 8 := by omega
          have HZ : Hid (zrun ((groupsOf x).drop i) = 8 - i) := by
            show _ = _; rw [hz.out, zrun_end]; rfl
          by_cases hm : (8 : Int) - i > l
          · have HS : Hid (zst (groupsOf x) (i + 1) = ((i : Int), 8 - i)) := by
              show _ = _; rw [zst_take _ _ (by rw [HZ.out, hst.out]; show l < 8 - i; omega), HZ.out]
            go_wp2
            go_roundw
            case rel => exact ⟨(i : Int), 8 - i, i + 1, by go_num, by go_num, by go_num, by omega, by omega, by omega, by omega, by omega, HS, hbi⟩
            case measure => simp [intOf]; omega
          · have HS : Hid (zst (groupsOf x) (i + 1) = (a, l)) := by
              show _ = _; rw [zst_leave _ _ (by rw [HZ.out, hst.out]; show ¬ l < 8 - i; omega), hst.out]
            go_wp2
            go_roundw
            case rel => exact ⟨a, l, i + 1, rfl, rfl, by go_num, by omega, a0, a1, l0, l1, HS, hbi⟩
            case measure => simp [intOf]; omega
    · have hkk : i = 8 := by omega
      subst hkk
      go_wp2
      go_ret2
      exact ⟨by rw [hst.out]; rfl, below_next B0 hb⟩
end Go.Proofs.YtmnemjhkmllniaaGreatDoor
