/- The checker's own numbers of 128 bits (gleberef1): Bits, Ok, And, Not, Less, Mask, Add of 1, Next. -/
import Derived.Test.YtmnemjhkmllniaaGreatDoorzPw
namespace Go.Proofs.YtmnemjhkmllniaaGreatDoor
open Go.ChangeShapes Go.WideShapes Go.RowKit Go.Sort

set_option maxHeartbeats 400000 in
theorem refBits_x (v : Int) (w : World) : Calls Tryz.prog 27 #[.int .i64 v] w fun e w' => e = .returned (.int .i64 (bitsV v)) ∧ Below w.heap.size w w' := by
  by_cases h4 : v = 4
  · subst h4
    rw [bitsV_4]
    go_enter Tryz.func27, Tryz.ntmps27
    go_wp2
    go_ret
    exact ⟨rfl, Below.refl _ _⟩
  · by_cases h6 : v = 6
    · subst h6
      rw [bitsV_6]
      go_enter Tryz.func27, Tryz.ntmps27
      go_wp2
      go_ret
      exact ⟨rfl, Below.refl _ _⟩
    · have e : bitsV v = 0 := by simp [bitsV, h4, h6]
      rw [e]
      have n4 : (v == 4) = false := by simpa using h4
      have n6 : (v == 6) = false := by simpa using h6
      go_enter Tryz.func27, Tryz.ntmps27
      go_wp2
      go_ret
      exact ⟨rfl, Below.refl _ _⟩
theorem small_halves (x : Nat) (h : x < 340282366920938463463374607431768211456) : x < 4294967296 ↔ hiQ x = 0 ∧ loQ x < 4294967296 := by unfold hiQ loQ; omega
set_option maxHeartbeats 1000000 in
theorem refOkA_x (v : Int) (x : Nat) (w : World) (hx : x < 340282366920938463463374607431768211456) :
    Calls Tryz.prog 26 #[.agg #[.int .i64 v, .int .u64 (hiQ x), .int .u64 (loQ x)]] w fun e w' => e = .returned (.bool (okV v x)) ∧ Below w.heap.size w w' := by
  have hs := small_halves x hx
  have a0 := hiQ_nn x; have a1 := hiQ_lt x hx; have a2 := loQ_nn x; have a3 := loQ_lt x
  by_cases h6 : v = 6
  · subst h6
    clear hs hx a0 a1 a2 a3
    go_enter Tryz.func26, Tryz.ntmps26
    go_wp2
    go_ret
    exact ⟨rfl, (Below.refl _ _).alloc (Nat.le_refl _) _⟩
  · have n6 : (v == 6) = false := by simpa using h6
    by_cases h4 : v = 4
    · subst h4
      by_cases hh : hiQ x = 0
      · have e : okV 4 x = decide (loQ x < 4294967296) := by simp [okV, hs, hh]
        rw [e, hh]
        clear hs hx a0 a1 e hh h6 n6
        go_enter Tryz.func26, Tryz.ntmps26
        go_wp2
        go_ret
        exact ⟨rfl, (Below.refl _ _).alloc (Nat.le_refl _) _⟩
      · have e : okV 4 x = false := by simp [okV, hs, hh]
        rw [e]
        have hz : (hiQ x == 0) = false := by simpa using hh
        clear hs hx e h6 n6 hh
        go_enter Tryz.func26, Tryz.ntmps26
        go_wp2
        go_ret
        exact ⟨rfl, (Below.refl _ _).alloc (Nat.le_refl _) _⟩
    · have e : okV v x = false := by simp [okV, h6, h4]
      rw [e]
      have n4 : (v == 4) = false := by simpa using h4
      clear hs hx e a0 a1 a2 a3 h4 h6
      go_enter Tryz.func26, Tryz.ntmps26
      go_wp2
      go_ret
      exact ⟨rfl, (Below.refl _ _).alloc (Nat.le_refl _) _⟩
theorem refOkA_is (v : Int) (x : Nat) (w : World) (hx : x < 340282366920938463463374607431768211456) (b : Bool) (h : okV v x = b) :
    Calls Tryz.prog 26 #[.agg #[.int .i64 v, .int .u64 (hiQ x), .int .u64 (loQ x)]] w fun e w' => e = .returned (.bool b) ∧ Below w.heap.size w w' := h ▸ refOkA_x v x w hx
set_option maxHeartbeats 400000 in
theorem refAnd_x (x y : Nat) (w : World) (hx : x < 340282366920938463463374607431768211456) (hy : y < 340282366920938463463374607431768211456) :
    Calls Tryz.prog 28 #[.agg #[.int .u64 (hiQ x), .int .u64 (loQ x)], .agg #[.int .u64 (hiQ y), .int .u64 (loQ y)]] w fun e w' => e = .returned (.agg #[.int .u64 (hiQ (x &&& y)), .int .u64 (loQ (x &&& y))]) ∧ Below w.heap.size w w' := by
  have a1 := hiQ_nn x; have a2 := hiQ_lt x hx; have a3 := loQ_nn x; have a4 := loQ_lt x
  have b1 := hiQ_nn y; have b2 := hiQ_lt y hy; have b3 := loQ_nn y; have b4 := loQ_lt y
  go_enter Tryz.func28, Tryz.ntmps28
  go_wp2
  rw [u64_and _ _ a1 a2 b1 b2, u64_and _ _ a3 a4 b3 b4, ← (half_and x y).1, ← (half_and x y).2]
  exact bodyPost_ret (v := .agg #[.int .u64 (hiQ (x &&& y)), .int .u64 (loQ (x &&& y))]) (by simp [results, Tryz.results28, go_sem]) rfl ⟨rfl, below3 _ _ _ _⟩
theorem refAnd_is (x y z : Nat) (w : World) (hx : x < 340282366920938463463374607431768211456) (hy : y < 340282366920938463463374607431768211456) (h : x &&& y = z) :
    Calls Tryz.prog 28 #[.agg #[.int .u64 (hiQ x), .int .u64 (loQ x)], .agg #[.int .u64 (hiQ y), .int .u64 (loQ y)]] w fun e w' => e = .returned (.agg #[.int .u64 (hiQ z), .int .u64 (loQ z)]) ∧ Below w.heap.size w w' := h ▸ refAnd_x x y w hx hy
set_option maxHeartbeats 400000 in
theorem refNot_x (x : Nat) (w : World) (hx : x < 340282366920938463463374607431768211456) :
    Calls Tryz.prog 30 #[.agg #[.int .u64 (hiQ x), .int .u64 (loQ x)]] w fun e w' => e = .returned (.agg #[.int .u64 (hiQ (notQ x)), .int .u64 (loQ (notQ x))]) ∧ Below w.heap.size w w' := by
  have HN : Hid (hiQ (notQ x) = bits .xor .u64 IntKind.u64.max (hiQ x) ∧ loQ (notQ x) = bits .xor .u64 IntKind.u64.max (loQ x)) := by
    rw [(half_not x hx).1, (half_not x hx).2, u64_not _ (hiQ_nn x) (hiQ_lt x hx), u64_not _ (loQ_nn x) (loQ_lt x)]; exact ⟨rfl, rfl⟩
  clear hx
  go_enter Tryz.func30, Tryz.ntmps30
  go_wp2
  exact bodyPost_ret (v := .agg #[.int .u64 (hiQ (notQ x)), .int .u64 (loQ (notQ x))]) (by rw [HN.out.1, HN.out.2]; simp [results, Tryz.results30, go_sem]) rfl ⟨rfl, below2 _ _ _⟩
set_option maxHeartbeats 1000000 in
theorem refLess_x (x y : Nat) (w : World) :
    Calls Tryz.prog 39 #[.agg #[.int .u64 (hiQ x), .int .u64 (loQ x)], .agg #[.int .u64 (hiQ y), .int .u64 (loQ y)]] w fun e w' => e = .returned (.bool (ltB x y)) ∧ Below w.heap.size w w' := by
  have a3 := loQ_nn x; have a4 := loQ_lt x
  have b3 := loQ_nn y; have b4 := loQ_lt y
  have ex := q_eq x; have ey := q_eq y
  by_cases h : hiQ x = hiQ y
  · have h1 : decide (hiQ x < hiQ y) = false := decide_eq_false (by omega)
    have hr : ltB x y = decide (loQ x < loQ y) := by unfold ltB; rw [Bool.eq_iff_iff]; simp; omega
    rw [hr, h]
    clear hr ex ey h h1
    go_enter Tryz.func39, Tryz.ntmps39
    go_wp2
    go_ret
    exact ⟨rfl, below2 _ _ _⟩
  · by_cases hl : hiQ x < hiQ y
    · have hr : ltB x y = true := by unfold ltB; exact decide_eq_true (by omega)
      rw [hr]
      clear hr ex ey h a3 a4 b3 b4
      go_enter Tryz.func39, Tryz.ntmps39
      go_wp2
      go_ret
      exact ⟨rfl, below2 _ _ _⟩
    · have hr : ltB x y = false := by unfold ltB; exact decide_eq_false (by omega)
      have he : (hiQ x == hiQ y) = false := by simpa using h
      rw [hr]
      clear hr ex ey h a3 a4 b3 b4
      go_enter Tryz.func39, Tryz.ntmps39
      go_wp2
      go_ret
      exact ⟨rfl, below2 _ _ _⟩
theorem refLess_is (x y : Nat) (w : World) (b : Bool) (h : ltB x y = b) :
    Calls Tryz.prog 39 #[.agg #[.int .u64 (hiQ x), .int .u64 (loQ x)], .agg #[.int .u64 (hiQ y), .int .u64 (loQ y)]] w fun e w' => e = .returned (.bool b) ∧ Below w.heap.size w w' := h ▸ refLess_x x y w
theorem wrap_pow : ∀ e, e ≤ 63 → IntKind.u64.wrap ((2 : Int) ^ e) = 2 ^ e := by decide +kernel
theorem maskStep_hi : ∀ i, i < 64 → bits .or .u64 (hiQ (maskQ i)) (2 ^ (63 - i)) = hiQ (maskQ (i + 1)) ∧ loQ (maskQ (i + 1)) = loQ (maskQ i) := by decide +kernel
theorem maskStep_lo : ∀ i, i < 128 → 64 ≤ i → bits .or .u64 (loQ (maskQ i)) (2 ^ (127 - i)) = loQ (maskQ (i + 1)) ∧ hiQ (maskQ (i + 1)) = hiQ (maskQ i) := by decide +kernel
set_option maxHeartbeats 4000000 in
set_option maxRecDepth 100000 in
theorem refMask_x (n : Nat) (w : World) (hn : n ≤ 128) :
    Calls Tryz.prog 29 #[.int .i64 n] w fun e w' => e = .returned (.agg #[.int .u64 (hiQ (maskQ n)), .int .u64 (loQ (maskQ n))]) ∧ Below w.heap.size w w' := by
  obtain ⟨W, hW⟩ : ∃ W, W = (w.alloc (.cells #[.int .u64 0, .int .u64 0] 26)).alloc (.cells #[.int .u64 0, .int .u64 0] 26) := ⟨_, rfl⟩
  have B0 : Below w.heap.size w W := hW ▸ below2 _ _ _
  have z0 : W.cell? ⟨w.heap.size, 0, none⟩ = some (.int .u64 0) := by rw [hW]; simp [go_sem]
  have z1 : W.cell? ⟨w.heap.size, 1, none⟩ = some (.int .u64 0) := by rw [hW]; simp [go_sem]
  have z2 : W.cell? ⟨w.heap.size + 1, 0, none⟩ = some (.int .u64 0) := by rw [hW]; simp [go_sem]
  have z3 : W.cell? ⟨w.heap.size + 1, 1, none⟩ = some (.int .u64 0) := by rw [hW]; simp [go_sem]
  have f0 : ∀ o, W.frozen? ⟨w.heap.size, o, none⟩ = false := fun o => by rw [hW]; simp [go_sem]
  have f1 : ∀ o, W.frozen? ⟨w.heap.size + 1, o, none⟩ = false := fun o => by rw [hW]; simp [go_sem]
  go_enter Tryz.func29, Tryz.ntmps29
  go_wp2
  rw [← hW]
  clear hW
  go_loopw [4] (fun i wr => ∃ (k : Nat) (h l : Int), k ≤ n ∧ i = .int .i64 k ∧ Hid (h = hiQ (maskQ k) ∧ l = loQ (maskQ k)) ∧ wr.cell? ⟨w.heap.size, 0, none⟩ = some (.int .u64 0) ∧ wr.cell? ⟨w.heap.size, 1, none⟩ = some (.int .u64 0)
        ∧ wr.cell? ⟨w.heap.size + 1, 0, none⟩ = some (.int .u64 h) ∧ wr.cell? ⟨w.heap.size + 1, 1, none⟩ = some (.int .u64 l) ∧ (∀ o, wr.frozen? ⟨w.heap.size, o, none⟩ = false) ∧ (∀ o, wr.frozen? ⟨w.heap.size + 1, o, none⟩ = false) ∧ Below w.heap.size w wr)
      (fun i _ => 128 - (intOf i).toNat)
  case atStart => exact ⟨0, 0, 0, by omega, rfl, by show _ ∧ _; decide +kernel, z0, z1, z2, z3, f0, f1, B0⟩
  case round =>
    obtain ⟨k, h, l, hk, rfl, hh, c0, c1, c2, c3, g0, g1, hb⟩ := hrel
    clear z0 z1 z2 z3 f0 f1 B0
    by_cases hkn : k < n
    · have hkn' : (k : Int) < (n : Int) := by omega
      by_cases hk64 : k < 64
      · have hk64' : (k : Int) < 64 := by omega
        have hst := maskStep_hi k hk64
        have HST := Lib.hid hst
        clear hst
        go_wp2
        go_roundw
        case rel =>
          refine ⟨k + 1, _, l, by omega, by go_num, ⟨?_, ?_⟩, ?_, ?_, World.cell?_setCell_same _ _ _ c2, ?_, fun o => ?_, fun o => ?_, hb.setCell (Nat.le_succ _) _⟩
          · rw [hh.out.1, ← HST.out.1]; congr 1; exact wrap_pow _ (by omega)
          · rw [HST.out.2]; exact hh.out.2
          · rw [World.cell?_setCell_other _ _ _ _ (by simp)]; exact c0
          · rw [World.cell?_setCell_other _ _ _ _ (by simp)]; exact c1
          · rw [World.cell?_setCell_other _ _ _ _ (by simp)]; exact c3
          · simp [g0]
          · simp [g1]
        case measure => simp [intOf]; omega
      · have hk64' : ¬ (k : Int) < 64 := by omega
        have hst := maskStep_lo k (by omega) (by omega)
        have HST := Lib.hid hst
        clear hst
        go_wp2
        go_roundw
        case rel =>
          refine ⟨k + 1, h, _, by omega, by go_num, ⟨?_, ?_⟩, ?_, ?_, ?_, World.cell?_setCell_same _ _ _ c3, fun o => ?_, fun o => ?_, hb.setCell (Nat.le_succ _) _⟩
          · rw [HST.out.2]; exact hh.out.1
          · rw [hh.out.2, ← HST.out.1]; congr 1; exact wrap_pow _ (by omega)
          · rw [World.cell?_setCell_other _ _ _ _ (by simp)]; exact c0
          · rw [World.cell?_setCell_other _ _ _ _ (by simp)]; exact c1
          · rw [World.cell?_setCell_other _ _ _ _ (by simp)]; exact c2
          · simp [g0]
          · simp [g1]
        case measure => simp [intOf]; omega
    · have hkk : k = n := by omega
      subst hkk
      go_wp2
      exact bodyPost_ret (v := .agg #[.int .u64 h, .int .u64 l]) (by simp [results, Tryz.results29, go_sem, c0, c1]) rfl ⟨by rw [hh.out.1, hh.out.2], (hb.setCell (Nat.le_refl _) _).setCell (Nat.le_refl _) _⟩
end Go.Proofs.YtmnemjhkmllniaaGreatDoor
