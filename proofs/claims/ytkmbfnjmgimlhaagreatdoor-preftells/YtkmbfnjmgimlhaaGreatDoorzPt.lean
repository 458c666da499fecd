/- The walk of pref.Of, for all addresses, none too. -/
import Derived.Test.YtkmbfnjmgimlhaaGreatDoorzPr
namespace Go.Proofs.YtkmbfnjmgimlhaaGreatDoor
open Go.ChangeShapes Go.WideShapes Go.RowKit Go.Sort

theorem pset4 {B b : Nat} {a w : World} {t u v x : Value} (h : Below B a w) (hb : B ≤ b) : Below B a ((((w.setCell ⟨b, 0, none⟩ t).setCell ⟨b, 1, none⟩ u).setCell ⟨b, 2, none⟩ v).setCell ⟨b, 3, none⟩ x) := (((h.setCell hb _).setCell hb _).setCell hb _).setCell hb _
/-- What Of answers: of none, noughts and false. -/
def ofR (v : Int) (x : Nat) (u : Int) (y : Nat) : Value :=
  if ofB v x u y = true then .tuple #[.agg #[.int .i64 4, .int .u64 (hiQ (cutK (32 - ofN y) x)), .int .u64 (loQ (cutK (32 - ofN y) x)), .int .i64 (ofN y)], .bool true]
  else .tuple #[.agg #[.int .i64 0, .int .u64 0, .int .u64 0, .int .i64 0], .bool false]
theorem host4 (n : Nat) : hostK 4 n = 32 - n := rfl
theorem ok4cut (x n : Nat) (hn : n ≤ 32) (hx : x < 4294967296) : okP 4 (cutK (32 - n) x) n = true := by
  have hc := (cutK_small (32 - n) x (by omega)).2 hx
  exact okP_of (by simp [okV, hc]) (by omega) (by rw [bitsV_4]; omega) (by rw [host4, cutK_cutK])
set_option maxHeartbeats 4000000 in
theorem of_x (v : Int) (x : Nat) (u : Int) (y : Nat) (w : World) (ht : TabOk w) (hx : x < 340282366920938463463374607431768211456) (hy : y < 340282366920938463463374607431768211456) :
    Calls Tryz.prog 19 #[.agg #[.int .i64 v, .int .u64 (hiQ x), .int .u64 (loQ x)], .agg #[.int .i64 u, .int .u64 (hiQ y), .int .u64 (loQ y)]] w fun e w' => e = .returned (ofR v x u y) ∧ Below w.heap.size w w' := by
  have HX := Lib.hid hx
  have HY := Lib.hid hy
  have HT := Lib.hid ht
  obtain ⟨z, hz⟩ : ∃ z, cutK (hostK v (ofN y)) x = z := ⟨_, rfl⟩
  have hz128 : z < 340282366920938463463374607431768211456 := hz ▸ cutK_lt _ _ hx
  have hn32 : ofN y ≤ 32 := ofN_le y
  have HC : Hid (∀ w, Calls Tryz.prog 66 #[.agg #[.int .i64 v, .int .u64 (hiQ x), .int .u64 (loQ x)], .int .i64 (ofN y)] w fun e w' => e = .returned (.agg #[.int .i64 v, .int .u64 (hiQ z), .int .u64 (loQ z)]) ∧ Below w.heap.size w w') := fun w => cut_is_p v x (ofN y) z w hx (by omega) (by omega) hz
  have HN : Hid ((v = 4 ∧ x < 4294967296 ∧ z = cutK (32 - ofN y) x ∧ ∀ w, Calls Tryz.prog 17 #[.agg #[.int .i64 4, .int .u64 (hiQ z), .int .u64 (loQ z), .int .i64 (ofN y)]] w fun e w' => e = .returned (.tuple #[.agg #[.int .i64 4, .int .u64 (hiQ (nmX (ofN y))), .int .u64 (loQ (nmX (ofN y)))], .bool true]) ∧ Below w.heap.size w w')
      ∨ (ofR v x u y = .tuple #[.agg #[.int .i64 0, .int .u64 0, .int .u64 0, .int .i64 0], .bool false] ∧ ∀ w, Calls Tryz.prog 17 #[.agg #[.int .i64 v, .int .u64 (hiQ z), .int .u64 (loQ z), .int .i64 (ofN y)]] w fun e w' => e = .returned (.tuple #[.agg #[.int .i64 0, .int .u64 0, .int .u64 0], .bool false]) ∧ Below w.heap.size w w')) := by
    by_cases h4 : v = 4
    · subst h4
      rw [host4] at hz
      by_cases hx4 : x < 4294967296
      · left
        exact ⟨rfl, hx4, hz.symm, fun w => nm_yes z (ofN y) w hz128 (hz ▸ ok4cut x _ hn32 hx4)⟩
      · right
        have hc : ¬ z < 4294967296 := fun h => hx4 ((cutK_small (32 - ofN y) x (by omega)).1 (hz ▸ h))
        exact ⟨by simp [ofR, ofB, hx4], fun w => nm_no 4 z (ofN y) w hz128 (by simp [nmB, okP, okV, hc])⟩
    · right
      exact ⟨by simp [ofR, ofB, h4], fun w => nm_no v z (ofN y) w hz128 (by simp [nmB, h4])⟩
  have HL : Hid (∀ w, TabOk w → Calls Tryz.prog 68 #[.agg #[.int .u64 (hiQ y), .int .u64 (loQ y)]] w fun e w' => e = .returned (.int .i64 (lowQ y : Nat)) ∧ Below w.heap.size w w') := fun w h => low_x y w h hy
  have hmin : (32 : Int) - min (lowQ y : Int) 32 = (ofN y : Int) := by unfold ofN; omega
  have HM := Lib.hid hmin
  have hl0 : 0 ≤ (lowQ y : Int) := by omega
  obtain ⟨n, hnn⟩ : ∃ n, ofN y = n := ⟨_, rfl⟩
  rw [hnn] at HC HN HM hn32 hz
  have HNN := Lib.hid hnn
  clear hz hnn hz128 hx hy ht hmin
  obtain ⟨W, hW⟩ : ∃ W, W = ((w.alloc (.cells #[.int .i64 v, .int .u64 (hiQ x), .int .u64 (loQ x)] 28)).alloc (.cells #[.int .i64 u, .int .u64 (hiQ y), .int .u64 (loQ y)] 28)).alloc (.cells #[.int .i64 0, .int .u64 0, .int .u64 0, .int .i64 0] 30) := ⟨_, rfl⟩
  have BW : Below w.heap.size w W := by rw [hW]; exact ball (below2 _ _ _)
  have c0 : W.cell? ⟨w.heap.size, 0, none⟩ = some (.int .i64 v) := by rw [hW]; simp [go_sem]
  have c1 : W.cell? ⟨w.heap.size, 1, none⟩ = some (.int .u64 (hiQ x)) := by rw [hW]; simp [go_sem]
  have c2 : W.cell? ⟨w.heap.size, 2, none⟩ = some (.int .u64 (loQ x)) := by rw [hW]; simp [go_sem]
  have d0 : W.cell? ⟨w.heap.size + 1, 0, none⟩ = some (.int .i64 u) := by rw [hW]; simp [go_sem]
  have d1 : W.cell? ⟨w.heap.size + 1, 1, none⟩ = some (.int .u64 (hiQ y)) := by rw [hW]; simp [go_sem]
  have d2 : W.cell? ⟨w.heap.size + 1, 2, none⟩ = some (.int .u64 (loQ y)) := by rw [hW]; simp [go_sem]
  have r0 : W.cell? ⟨w.heap.size + 2, 0, none⟩ = some (.int .i64 0) := by rw [hW]; simp [go_sem]
  have r1 : W.cell? ⟨w.heap.size + 2, 1, none⟩ = some (.int .u64 0) := by rw [hW]; simp [go_sem]
  have r2 : W.cell? ⟨w.heap.size + 2, 2, none⟩ = some (.int .u64 0) := by rw [hW]; simp [go_sem]
  have r3 : W.cell? ⟨w.heap.size + 2, 3, none⟩ = some (.int .i64 0) := by rw [hW]; simp [go_sem]
  have rf : ∀ o, W.frozen? ⟨w.heap.size + 2, o, none⟩ = false := fun o => by rw [hW]; simp [go_sem]
  have lW : w.heap.size + 2 < W.heap.size := by rw [hW]; simp
  go_enter Tryz.func19, Tryz.ntmps19
  go_wp2_with fail
  rw [← hW]
  clear hW
  refine (bits_4 _).mono ?_
  rintro e w1 ⟨rfl, hb1⟩
  have B1 := hb1
  obtain ⟨k1, j1⟩ := keep hb1 (w.heap.size + 1) (by omega)
  have q1 := (k1 1).trans d1
  have q2 := (k1 2).trans d2
  go_wp2_with fail
  refine (HL.out _ (HT.out.below (below_next BW B1) HT.out.pos)).mono ?_
  rintro e w2 ⟨rfl, hb2⟩
  have B2 := below_next B1 hb2
  obtain ⟨k0, j0⟩ := keep B2 w.heap.size (by omega)
  have p0 := (k0 0).trans c0
  have p1 := (k0 1).trans c1
  have p2 := (k0 2).trans c2
  clear k1 k0 q1 q2 B1 hb1 hb2 HL
  go_wp2_with fail
  rw [HM.out]
  refine (HC.out _).mono ?_
  rintro e w3 ⟨rfl, hb3⟩
  have B3 := below_next B2 hb3
  clear p0 p1 p2 B2 hb3 HC
  rcases HN.out with ⟨rfl, hx4, hzz, HY4⟩ | ⟨hR, HNo⟩
  · have HZ := Lib.hid (And.intro hx4 hzz)
    clear hx4 hzz HN
    go_wp2_with fail
    refine (HY4 _).mono ?_
    rintro e w4 ⟨rfl, hb4⟩
    have B4 := below_next (ball B3) hb4
    have P4 : Pl w4 w3.heap.size 4 (hiQ z) (loQ z) n := (pl_new w3 _ _ _ _).below hb4
    obtain ⟨k1, j1⟩ := keep B4 (w.heap.size + 1) (by omega)
    have q0 := (k1 0).trans d0
    have q1 := (k1 1).trans d1
    have q2 := (k1 2).trans d2
    obtain ⟨k2, f2, j2⟩ := keepf B4 (w.heap.size + 2) lW
    have s0 := (k2 0).trans r0
    have s1 := (k2 1).trans r1
    have s2 := (k2 2).trans r2
    have s3 := (k2 3).trans r3
    have sf : ∀ o, w4.frozen? ⟨w.heap.size + 2, o, none⟩ = false := fun o => (f2 o).trans (rf o)
    obtain ⟨p0, p1, p2, p3, pl⟩ := P4
    have BB := below_next BW B4
    clear k1 k2 f2 c0 c1 c2 d0 d1 d2 r0 r1 r2 r3 rf B3 hb4 HY4
    by_cases he : 4 = u ∧ nmX n = y
    · have HR : Hid (ofR 4 x u y = .tuple #[.agg #[.int .i64 4, .int .u64 (hiQ z), .int .u64 (loQ z), .int .i64 n], .bool true]) := by
        show _ = _
        rw [ofR, if_pos (by unfold ofB; rw [HNN.out]; exact decide_eq_true ⟨rfl, HZ.out.1, he.1.symm, he.2.symm⟩), HNN.out, HZ.out.2]
      obtain ⟨rfl, rfl⟩ := he
      go_wp2
      exact bodyPost_ret (v := .tuple #[.agg #[.int .i64 4, .int .u64 (hiQ z), .int .u64 (loQ z), .int .i64 n], .bool true]) (by simp [results, Tryz.results19, go_sem, *]) rfl ⟨by rw [HR.out], by first | exact ball (pset4 BB (by omega)) | exact pset4 (ball BB) (by omega)⟩
    · have HR : Hid (ofR 4 x u y = .tuple #[.agg #[.int .i64 0, .int .u64 0, .int .u64 0, .int .i64 0], .bool false]) := by
        show _ = _
        rw [ofR, if_neg (by simp [ofB, HZ.out.1, HNN.out]; intro h1 h2; exact he ⟨h1.symm, h2.symm⟩)]
      have hq := ifne3 he
      clear he
      go_wp2
      exact bodyPost_ret (v := .tuple #[.agg #[.int .i64 0, .int .u64 0, .int .u64 0, .int .i64 0], .bool false]) (by simp [results, Tryz.results19, go_sem, *]) rfl ⟨by rw [HR.out], by first | exact ball (pset4 BB (by omega)) | exact pset4 (ball BB) (by omega)⟩
  · have HR := Lib.hid hR
    clear hR
    go_wp2_with fail
    refine (HNo _).mono ?_
    rintro e w4 ⟨rfl, hb4⟩
    have B4 := below_next (ball B3) hb4
    obtain ⟨k2, f2, j2⟩ := keepf B4 (w.heap.size + 2) lW
    have s0 := (k2 0).trans r0
    have s1 := (k2 1).trans r1
    have s2 := (k2 2).trans r2
    have s3 := (k2 3).trans r3
    have sf : ∀ o, w4.frozen? ⟨w.heap.size + 2, o, none⟩ = false := fun o => (f2 o).trans (rf o)
    have BB := below_next BW B4
    clear k2 f2 c0 c1 c2 d0 d1 d2 r0 r1 r2 r3 rf B3 hb4 HN HNo
    go_wp2
    exact bodyPost_ret (v := .tuple #[.agg #[.int .i64 0, .int .u64 0, .int .u64 0, .int .i64 0], .bool false]) (by simp [results, Tryz.results19, go_sem, *]) rfl ⟨by rw [HR.out], by first | exact ball (pset4 BB (by omega)) | exact pset4 (ball BB) (by omega)⟩
end Go.Proofs.YtkmbfnjmgimlhaaGreatDoor
