/- The second writing's Date reads just what package date reads, at any two texts. -/
import Derived.Test.YtjoiedomdliadaaDoorEc
namespace Go.Proofs.YtjoiedomdliadaaDoor
open Go.ChangeShapes Go.WideShapes Go.RowKit Go.Sort

theorem dateV_day {a b : Bs} (h : formV dayF a 0 0 0 0 = none) : dateV a b = none := by unfold dateV dayV; rw [h]
theorem dateV_clock {a b : Bs} (h : formV clockF b 0 0 0 0 = none) : dateV a b = none := by
  unfold dateV clockV; rw [h]
  cases dayV a <;> rfl
set_option maxHeartbeats 8000000 in
set_option maxRecDepth 100000 in
theorem dateR_x (a b : Bs) (w : World) :
    Calls Tryd.prog 15 #[.string (baS a), .string (baS b)] w fun e w' => e = .returned (numR (dateV a b)) ∧ Below w.heap.size w w' := by
  by_cases ha : a.length = 10
  · by_cases hb : b.length = 8
    · match a, ha, b, hb with
      | [a0, a1, a2, a3, p, a5, a6, q, a8, a9], ha, [b0, b1, r, b3, b4, t, b6, b7], hb =>
        have hA : (baS [a0, a1, a2, a3, p, a5, a6, q, a8, a9]).size = 10 := rfl
        have hB : (baS [b0, b1, r, b3, b4, t, b6, b7]).size = 8 := rfl
        have HD := Lib.hid (day_three a0 a1 a2 a3 p a5 a6 q a8 a9)
        have HC := Lib.hid (clock_three b0 b1 r b3 b4 t b6 b7)
        have hp : ∀ h, (baS [a0, a1, a2, a3, p, a5, a6, q, a8, a9])[4]'h = p := fun _ => rfl
        have hq : ∀ h, (baS [a0, a1, a2, a3, p, a5, a6, q, a8, a9])[7]'h = q := fun _ => rfl
        have hr : ∀ h, (baS [b0, b1, r, b3, b4, t, b6, b7])[2]'h = r := fun _ => rfl
        have ht : ∀ h, (baS [b0, b1, r, b3, b4, t, b6, b7])[5]'h = t := fun _ => rfl
        by_cases c1 : p = 47
        · by_cases c2 : q = 47
          · by_cases c3 : r = 58
            · by_cases c4 : t = 58
              · subst c1 c2 c3 c4
                have e := dateI_is [a0, a1, a2, a3] [a5, a6] [a8, a9] [b0, b1] [b3, b4] [b6, b7] _ _ (HD.out.trans (if_pos ⟨rfl, rfl⟩)) (HC.out.trans (if_pos ⟨rfl, rfl⟩))
                rw [e]
                exact dateR_ten _ _ [a0, a1, a2, a3] [a5, a6] [a8, a9] [b0, b1] [b3, b4] [b6, b7] w hA hB hp hq hr ht
                  (sliceTo [a0, a1, a2, a3, 47, a5, a6, 47, a8, a9] 4 (by simp)) (sliceMid [a0, a1, a2, a3, 47, a5, a6, 47, a8, a9] 5 7 (by omega) (by simp)) (sliceFrom [a0, a1, a2, a3, 47, a5, a6, 47, a8, a9] 8 (by simp))
                  (sliceTo [b0, b1, 58, b3, b4, 58, b6, b7] 2 (by simp)) (sliceMid [b0, b1, 58, b3, b4, 58, b6, b7] 3 5 (by omega) (by simp)) (sliceFrom [b0, b1, 58, b3, b4, 58, b6, b7] 6 (by simp)) rfl rfl rfl rfl rfl rfl
              · have HN : Hid (dateV [a0, a1, a2, a3, p, a5, a6, q, a8, a9] [b0, b1, r, b3, b4, t, b6, b7] = none) := dateV_clock (HC.out.trans (if_neg (fun h => c4 h.2.symm)))
                have k1 := fun h => (hp h).trans c1; have k2 := fun h => (hq h).trans c2; have k3 := fun h => (hr h).trans c3; have k4 : ((t.toNat : Int) == 58) = false := u8_bne c4; have m4 : ¬ (t.toNat : Int) = 58 := by simpa using k4
                clear hp hq hr
                clear ha hb c1 c2 c3 c4
                generalize baS [a0, a1, a2, a3, p, a5, a6, q, a8, a9] = A at *
                generalize baS [b0, b1, r, b3, b4, t, b6, b7] = B at *
                go_enter Tryd.func15, Tryd.ntmps15
                go_wp2
                go_ret2
                exact ⟨by rw [HN.out]; rfl, Below.refl _ _⟩
            · have HN : Hid (dateV [a0, a1, a2, a3, p, a5, a6, q, a8, a9] [b0, b1, r, b3, b4, t, b6, b7] = none) := dateV_clock (HC.out.trans (if_neg (fun h => c3 h.1.symm)))
              have k1 := fun h => (hp h).trans c1; have k2 := fun h => (hq h).trans c2; have k3 : ((r.toNat : Int) == 58) = false := u8_bne c3; have m3 : ¬ (r.toNat : Int) = 58 := by simpa using k3
              clear hp hq ht
              clear ha hb c1 c2 c3
              generalize baS [a0, a1, a2, a3, p, a5, a6, q, a8, a9] = A at *
              generalize baS [b0, b1, r, b3, b4, t, b6, b7] = B at *
              go_enter Tryd.func15, Tryd.ntmps15
              go_wp2
              go_ret2
              exact ⟨by rw [HN.out]; rfl, Below.refl _ _⟩
          · have HN : Hid (dateV [a0, a1, a2, a3, p, a5, a6, q, a8, a9] [b0, b1, r, b3, b4, t, b6, b7] = none) := dateV_day (HD.out.trans (if_neg (fun h => c2 h.2.symm)))
            have k1 := fun h => (hp h).trans c1; have k2 : ((q.toNat : Int) == 47) = false := u8_bne c2; have m2 : ¬ (q.toNat : Int) = 47 := by simpa using k2
            clear hp hr ht
            clear ha hb c1 c2
            generalize baS [a0, a1, a2, a3, p, a5, a6, q, a8, a9] = A at *
            generalize baS [b0, b1, r, b3, b4, t, b6, b7] = B at *
            go_enter Tryd.func15, Tryd.ntmps15
            go_wp2
            go_ret2
            exact ⟨by rw [HN.out]; rfl, Below.refl _ _⟩
        · have HN : Hid (dateV [a0, a1, a2, a3, p, a5, a6, q, a8, a9] [b0, b1, r, b3, b4, t, b6, b7] = none) := dateV_day (HD.out.trans (if_neg (fun h => c1 h.1.symm)))
          have k1 : ((p.toNat : Int) == 47) = false := u8_bne c1; have m1 : ¬ (p.toNat : Int) = 47 := by simpa using k1
          clear hq hr ht
          clear ha hb c1
          generalize baS [a0, a1, a2, a3, p, a5, a6, q, a8, a9] = A at *
          generalize baS [b0, b1, r, b3, b4, t, b6, b7] = B at *
          go_enter Tryd.func15, Tryd.ntmps15
          go_wp2
          go_ret2
          exact ⟨by rw [HN.out]; rfl, Below.refl _ _⟩
    · have HN : Hid (dateV a b = none) := dateV_clock (formV_len _ _ _ _ _ _ (fun h => hb h.symm))
      have hA : (baS a).size = 10 := by rw [baS_len]; exact ha
      have hB : ¬ ((baS b).size : Int) = 8 := by rw [baS_len]; omega
      have hB' : (((baS b).size : Int) == 8) = false := by simpa using hB
      clear ha hb
      generalize baS a = A at *
      generalize baS b = B at *
      go_enter Tryd.func15, Tryd.ntmps15
      go_wp2
      go_ret2
      exact ⟨by rw [HN.out]; rfl, Below.refl _ _⟩
  · have HN : Hid (dateV a b = none) := dateV_day (formV_len _ _ _ _ _ _ (fun h => ha h.symm))
    have hA : ¬ ((baS a).size : Int) = 10 := by rw [baS_len]; omega
    have hA' : (((baS a).size : Int) == 10) = false := by simpa using hA
    clear ha
    generalize baS a = A at *
    generalize baS b = B at *
    go_enter Tryd.func15, Tryd.ntmps15
    go_wp2
    go_ret2
    exact ⟨by rw [HN.out]; rfl, Below.refl _ _⟩
end Go.Proofs.YtjoiedomdliadaaDoor
