/- The walks of pref.Less, Netmask, Of, for all prefixes and addresses, none too. -/
import Derived.Lib.MinMax
import Derived.Test.YtkmbfnjmgimlhaaGreatDoorzPq
namespace Go.Proofs.YtkmbfnjmgimlhaaGreatDoor
open Go.ChangeShapes Go.WideShapes Go.RowKit Go.Sort

set_option maxHeartbeats 2000000 in
theorem lessPref_x (v : Int) (x : Nat) (n u : Int) (y : Nat) (m : Int) (w : World) (hx : x < 340282366920938463463374607431768211456) (hy : y < 340282366920938463463374607431768211456) :
    Calls Tryz.prog 30 #[.agg #[.int .i64 v, .int .u64 (hiQ x), .int .u64 (loQ x), .int .i64 n], .agg #[.int .i64 u, .int .u64 (hiQ y), .int .u64 (loQ y), .int .i64 m]] w fun e w' => e = .returned (.bool (lessP v x n u y m)) ∧ Below w.heap.size w w' := by
  have HX := Lib.hid hx
  have HY := Lib.hid hy
  clear hx hy
  obtain ⟨W, hW⟩ : ∃ W, W = (w.alloc (.cells #[.int .i64 v, .int .u64 (hiQ x), .int .u64 (loQ x), .int .i64 n] 30)).alloc (.cells #[.int .i64 u, .int .u64 (hiQ y), .int .u64 (loQ y), .int .i64 m] 30) := ⟨_, rfl⟩
  have P0 : Pl W w.heap.size v (hiQ x) (loQ x) n := hW ▸ (pl_new w _ _ _ _).alloc _
  have Q0 : Pl W (w.heap.size + 1) u (hiQ y) (loQ y) m := by
    have := pl_new (w.alloc (.cells #[.int .i64 v, .int .u64 (hiQ x), .int .u64 (loQ x), .int .i64 n] 30)) u (hiQ y) (loQ y) m
    rw [← hW] at this; simpa using this
  have BW : Below w.heap.size w W := by rw [hW]; exact below2 _ _ _
  cases ho : okP v x n
  · have HO := Lib.hid ho
    rw [show lessP v x n u y m = false by simp [lessP, ho]]
    clear ho
    go_enter Tryz.func30, Tryz.ntmps30
    go_wp2_with fail
    rw [← hW]
    clear hW
    refine (okPref_is _ _ _ _ HX.out _ HO.out).mono ?_
    rintro e w1 ⟨rfl, hb1⟩
    go_wp2
    go_ret
    exact ⟨rfl, below_next BW hb1⟩
  · have HO := Lib.hid ho
    cases hu : okP u y m
    · have HU := Lib.hid hu
      rw [show lessP v x n u y m = false by simp [lessP, hu]]
      clear ho hu
      go_enter Tryz.func30, Tryz.ntmps30
      go_wp2_with fail
      rw [← hW]
      clear hW
      refine (okPref_is _ _ _ _ HX.out _ HO.out).mono ?_
      rintro e w1 ⟨rfl, hb1⟩
      obtain ⟨q0, q1, q2, q3, ql⟩ := Q0.below hb1
      go_wp2_with fail
      refine (okPref_is _ _ _ _ HY.out _ HU.out).mono ?_
      rintro e w2 ⟨rfl, hb2⟩
      go_wp2
      go_ret
      exact ⟨rfl, below_next (below_next BW hb1) hb2⟩
    · have HU := Lib.hid hu
      have HP : lessP v x n u y m = if v = u ∧ x = y then decide (n < m) else ltA v x u y := by simp [lessP, ho, hu]; rfl
      rw [HP]
      clear ho hu HP
      by_cases he : v = u ∧ x = y
      · rw [if_pos he]
        obtain ⟨rfl, rfl⟩ := he
        go_enter Tryz.func30, Tryz.ntmps30
        go_wp2_with fail
        rw [← hW]
        clear hW
        refine (okPref_is _ _ _ _ HX.out _ HO.out).mono ?_
        rintro e w1 ⟨rfl, hb1⟩
        have P1 := P0.below hb1
        have Q1 := Q0.below hb1
        obtain ⟨q0, q1, q2, q3, ql⟩ := id Q1
        go_wp2_with fail
        refine (okPref_is _ _ _ _ HY.out _ HU.out).mono ?_
        rintro e w2 ⟨rfl, hb2⟩
        clear q0 q1 q2 q3 ql
        obtain ⟨q0, q1, q2, q3, ql⟩ := Q1.below hb2
        obtain ⟨p0, p1, p2, p3, pl⟩ := P1.below hb2
        go_wp2
        go_ret
        exact ⟨rfl, below_next (below_next BW hb1) hb2⟩
      · rw [if_neg he]
        have hq := ifne3 he
        have HL := Lib.hid (lessA_x v x u y)
        clear he
        go_enter Tryz.func30, Tryz.ntmps30
        go_wp2_with fail
        rw [← hW]
        clear hW
        refine (okPref_is _ _ _ _ HX.out _ HO.out).mono ?_
        rintro e w1 ⟨rfl, hb1⟩
        have P1 := P0.below hb1
        have Q1 := Q0.below hb1
        obtain ⟨q0, q1, q2, q3, ql⟩ := id Q1
        go_wp2_with fail
        refine (okPref_is _ _ _ _ HY.out _ HU.out).mono ?_
        rintro e w2 ⟨rfl, hb2⟩
        clear q0 q1 q2 q3 ql
        obtain ⟨q0, q1, q2, q3, ql⟩ := Q1.below hb2
        obtain ⟨p0, p1, p2, p3, pl⟩ := P1.below hb2
        go_wp2_with fail
        refine (HL.out _).mono ?_
        rintro e w3 ⟨rfl, hb3⟩
        go_wp2
        go_ret
        exact ⟨rfl, below_next (below_next (below_next BW hb1) hb2) hb3⟩
theorem lessPref_is (v : Int) (x : Nat) (n u : Int) (y : Nat) (m : Int) (w : World) (hx : x < 340282366920938463463374607431768211456) (hy : y < 340282366920938463463374607431768211456) (b : Bool) (h : lessP v x n u y m = b) :
    Calls Tryz.prog 30 #[.agg #[.int .i64 v, .int .u64 (hiQ x), .int .u64 (loQ x), .int .i64 n], .agg #[.int .i64 u, .int .u64 (hiQ y), .int .u64 (loQ y), .int .i64 m]] w fun e w' => e = .returned (.bool b) ∧ Below w.heap.size w w' := h ▸ lessPref_x v x n u y m w hx hy
theorem ok40 : okP 4 0 0 = true := by decide +kernel
theorem last40 (w : World) : Calls Tryz.prog 24 #[.agg #[.int .i64 4, .int .u64 0, .int .u64 0, .int .i64 0]] w fun e w' => e = .returned (.agg #[.int .i64 4, .int .u64 (hiQ 4294967295), .int .u64 (loQ 4294967295)]) ∧ Below w.heap.size w w' :=
  last_x 4 0 0 w (by decide)
set_option maxHeartbeats 2000000 in
theorem nm_no (v : Int) (x : Nat) (n : Int) (w : World) (hx : x < 340282366920938463463374607431768211456) (h : nmB v x n = false) :
    Calls Tryz.prog 17 #[.agg #[.int .i64 v, .int .u64 (hiQ x), .int .u64 (loQ x), .int .i64 n]] w fun e w' => e = .returned (.tuple #[.agg #[.int .i64 0, .int .u64 0, .int .u64 0], .bool false]) ∧ Below w.heap.size w w' := by
  have HX := Lib.hid hx
  clear hx
  cases ho : okP v x n
  · have HO := Lib.hid ho
    clear ho h
    go_enter Tryz.func17, Tryz.ntmps17
    go_wp2_with fail
    refine (okPref_is _ _ _ _ HX.out _ HO.out).mono ?_
    rintro e w1 ⟨rfl, hb1⟩
    obtain ⟨k1, f1, l1⟩ := keepf hb1 (w.heap.size + 1) (by simp)
    go_wp2
    exact bodyPost_ret (v := .tuple #[.agg #[.int .i64 0, .int .u64 0, .int .u64 0], .bool false]) (by simp [results, Tryz.results17, go_sem, k1]) rfl ⟨rfl, aset3 (below_next (below2 _ _ _) hb1) (Nat.le_succ _)⟩
  · have HO := Lib.hid ho
    have h4 : (v != 4) = true := by simp [nmB, ho] at h; simpa using h
    clear ho h
    go_enter Tryz.func17, Tryz.ntmps17
    go_wp2_with fail
    refine (okPref_is _ _ _ _ HX.out _ HO.out).mono ?_
    rintro e w1 ⟨rfl, hb1⟩
    obtain ⟨k0, f0, l0⟩ := keepf hb1 w.heap.size (by simp; omega)
    obtain ⟨k1, f1, l1⟩ := keepf hb1 (w.heap.size + 1) (by simp)
    go_wp2
    exact bodyPost_ret (v := .tuple #[.agg #[.int .i64 0, .int .u64 0, .int .u64 0], .bool false]) (by simp [results, Tryz.results17, go_sem, k1]) rfl ⟨rfl, aset3 (below_next (below2 _ _ _) hb1) (Nat.le_succ _)⟩
set_option maxHeartbeats 2000000 in
theorem nm_yes (x : Nat) (n : Int) (w : World) (hx : x < 340282366920938463463374607431768211456) (h : okP 4 x n = true) :
    Calls Tryz.prog 17 #[.agg #[.int .i64 4, .int .u64 (hiQ x), .int .u64 (loQ x), .int .i64 n]] w fun e w' => e = .returned (.tuple #[.agg #[.int .i64 4, .int .u64 (hiQ (nmX n)), .int .u64 (loQ (nmX n))], .bool true]) ∧ Below w.heap.size w w' := by
  have HX := Lib.hid hx
  have HO := Lib.hid h
  have hn := okP_is h
  have hn2 := okP_lt h
  have HC : Hid (∀ w, Calls Tryz.prog 66 #[.agg #[.int .i64 4, .int .u64 (hiQ 4294967295), .int .u64 (loQ 4294967295)], .int .i64 n] w fun e w' => e = .returned (.agg #[.int .i64 4, .int .u64 (hiQ (nmX n)), .int .u64 (loQ (nmX n))]) ∧ Below w.heap.size w w') := fun w => cut_is_p 4 4294967295 n (nmX n) w (by decide) hn.2.1 hn2 (nmX_cut n)
  obtain ⟨H, hH⟩ : ∃ H, hiQ 4294967295 = H := ⟨_, rfl⟩
  obtain ⟨L, hL⟩ : ∃ L, loQ 4294967295 = L := ⟨_, rfl⟩
  have HT := Lib.hid last40
  rw [hH, hL] at HC HT
  clear hx h hn hn2 hH hL
  go_enter Tryz.func17, Tryz.ntmps17
  go_wp2_with fail
  refine (okPref_is _ _ _ _ HX.out _ HO.out).mono ?_
  rintro e w1 ⟨rfl, hb1⟩
  have B1 := below_next (below2 w _ _) hb1
  obtain ⟨k0, f0, l0⟩ := keepf hb1 w.heap.size (by simp; omega)
  obtain ⟨k1, f1, l1⟩ := keepf hb1 (w.heap.size + 1) (by simp)
  have z0 : w1.cell? ⟨w.heap.size, 0, none⟩ = some (.int .i64 4) := by rw [k0]; simp [go_sem]
  have z3 : w1.cell? ⟨w.heap.size, 3, none⟩ = some (.int .i64 n) := by rw [k0]; simp [go_sem]
  have r0 : w1.cell? ⟨w.heap.size + 1, 0, none⟩ = some (.int .i64 0) := by rw [k1]; simp [go_sem]
  have r1 : w1.cell? ⟨w.heap.size + 1, 1, none⟩ = some (.int .u64 0) := by rw [k1]; simp [go_sem]
  have r2 : w1.cell? ⟨w.heap.size + 1, 2, none⟩ = some (.int .u64 0) := by rw [k1]; simp [go_sem]
  have rf : ∀ o, w1.frozen? ⟨w.heap.size + 1, o, none⟩ = false := fun o => by rw [f1]; simp [go_sem]
  clear k0 k1 f0 f1 hb1
  go_wp2_with fail
  refine (HT.out _).mono ?_
  rintro e w2 ⟨rfl, hb2⟩
  have B2 := below_next B1 hb2
  obtain ⟨k0, f0, l0⟩ := keepf hb2 w.heap.size l0
  obtain ⟨k1, f1, l1⟩ := keepf hb2 (w.heap.size + 1) l1
  replace z3 : w2.cell? ⟨w.heap.size, 3, none⟩ = some (.int .i64 n) := (k0 3).trans z3
  replace r0 : w2.cell? ⟨w.heap.size + 1, 0, none⟩ = some (.int .i64 0) := (k1 0).trans r0
  replace r1 : w2.cell? ⟨w.heap.size + 1, 1, none⟩ = some (.int .u64 0) := (k1 1).trans r1
  replace r2 : w2.cell? ⟨w.heap.size + 1, 2, none⟩ = some (.int .u64 0) := (k1 2).trans r2
  replace rf : ∀ o, w2.frozen? ⟨w.heap.size + 1, o, none⟩ = false := fun o => (f1 o).trans (rf o)
  clear k0 k1 f0 f1 hb2 z0
  go_wp2_with fail
  refine (HC.out _).mono ?_
  rintro e w3 ⟨rfl, hb3⟩
  have B3 := below_next (ball B2) hb3
  obtain ⟨k1, f1, l1⟩ := keepf hb3 (w.heap.size + 1) (by simp; omega)
  go_wp2
  exact bodyPost_ret (v := .tuple #[.agg #[.int .i64 4, .int .u64 (hiQ (nmX n)), .int .u64 (loQ (nmX n))], .bool true]) (by simp [results, Tryz.results17, go_sem, *]) rfl ⟨rfl, aset3 B3 (Nat.le_succ _)⟩
end Go.Proofs.YtkmbfnjmgimlhaaGreatDoor
