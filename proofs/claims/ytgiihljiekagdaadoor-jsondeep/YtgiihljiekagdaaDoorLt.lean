/- Package json: value, whole. -/
import Derived.Test.YtgiihljiekagdaaDoorLs
namespace Go.Proofs.YtgiihljiekagdaaDoor
open Go.ChangeShapes Go.WideShapes Go.RowKit Go.Sort
theorem value_x : ∀ (room : Nat), room ≤ 64 → ∀ {l : Bs} {b o c R : Nat} (w : World) (i : Nat), Src l b o c R w → Rd l.length b o c R w i 0 0 → i ≤ l.length →
    Calls Tryd.prog 21 #[.pointer (some ⟨R, 0, none⟩), .int .i64 (InR room)] w fun e w' => ValP (room + 1) l b o c R w (valR room l i) e w'
  | 0, hr, l, b, o, c, R, w, i, hs, h, hi => value_step hs h hi hr (fun hne => absurd rfl hne)
  | q + 1, hr, l, b, o, c, R, w, i, hs, h, hi => value_step hs h hi hr (fun _ w i hs h hi => by
      have hh := value_x q (by omega) w i hs h hi
      have e : InR q = ((64 - (q + 1) + 1 : Nat) : Int) := by unfold InR; congr 1; omega
      rw [e] at hh
      exact hh)
/-- What a whole text says. -/
def wholeR (l : Bs) : PJ Js := (skipJ 0 0 0 l).andThen fun _ i s => (valueJ 64 i s).andThen fun v j t => (skipJ 0 0 j t).andThen fun _ j2 t2 => if t2 = [] then .ok v j2 t2 else .bad 1 j2
set_option maxHeartbeats 8000000 in
set_option maxRecDepth 100000 in
theorem whole_x {l : Bs} {b o c R : Nat} {w : World} (hs : Src l b o c R w) (h : Rd l.length b o c R w 0 0 0) :
    Calls Tryd.prog 14 #[.pointer (some ⟨R, 0, none⟩)] w fun e w' => ValP 65 l b o c R w (wholeR l) e w' := by
  have HS := Lib.hid hs
  have HR := Lib.hid h
  have HRL : Hid (R < w.heap.size) := h.lt
  clear hs h
  go_enter Tryd.func14, Tryd.ntmps14
  go_wp2_with fail
  have Z0 := Six.zero w
  have B0 : Below w.heap.size w (w.alloc (.cells #[.int .i64 0, .int .i64 0, .string { data := #[] }, .slice none 0 0, .slice none 0 0, .int .i64 0] 26)) := ball (Below.refl _ _)
  have R0 := HR.out.below B0
  generalize w.alloc (.cells #[.int .i64 0, .int .i64 0, .string { data := #[] }, .slice none 0 0, .slice none 0 0, .int .i64 0] 26) = w0 at *
  generalize hJ : w.heap.size = J at *
  have HJJ : Hid (w.heap.size = J) := hJ
  have BB : Hid (But R w w0) := Lib.hid (.of R (hJ ▸ B0))
  have hl0 : Hid (J < w0.heap.size) := Z0.lt
  have S0 := Lib.hid (HS.out.but BB.out)
  clear hJ B0 HR HS
  refine (skip_x S0.out R0 (Nat.zero_le _)).mono ?_
  rintro e w1 ⟨k1, hx⟩
  have Z1 := Z0.but k1 (by have := HRL.out; omega)
  have S1 := Lib.hid (S0.out.but k1)
  have B1 := Lib.hid (BB.out.trans k1)
  have hl1 : Hid (J < w1.heap.size) := Z1.lt
  clear Z0 S0 R0 BB hl0 k1
  rcases hx with ⟨j, q1, q2, rfl, q3⟩ | ⟨k, a, j, q1, rfl, q3⟩
  · have HE : Hid (wholeR l = (valR 64 l j).andThen fun v j2 t2 => if t2 = [] then .ok v j2 t2 else .bad 1 j2) := Lib.hid (by
      unfold wholeR valR
      rw [show skipJ 0 0 0 l = .ok () j (l.drop j) from by simpa using q1, PJ.andThen_ok]
      cases valueJ 64 j (l.drop j) with
      | bad k a => rfl
      | ok v j1 t1 =>
        simp only [PJ.andThen_ok]
        cases skipJ 0 0 j1 t1 <;> rfl)
    have R1 := Lib.hid q3
    clear q1 q3
    have ZH := Lib.hid Z1
    clear Z1
    go_wp2_with fail
    refine (value_x 64 (Nat.le_refl _) w1 j S1.out R1.out q2).mono ?_
    rintro e w2 ⟨k2, hx⟩
    have Z2 := Lib.hid (ZH.out.but k2 (by have := HRL.out; omega))
    have K2 := Lib.hid k2
    clear ZH
    rcases hx with ⟨x, v, j2, g1, g2, rfl, g4, g5⟩ | ⟨k, a, j2, kx, xx, ax, tx, pl, nl, cl, pq, mq, cq, g1, rfl, g5⟩
    · have HE2 : Hid (wholeR l = if l.drop j2 = [] then .ok x j2 (l.drop j2) else .bad 1 j2) := Lib.hid (by rw [HE.out, g1, PJ.andThen_ok])
      have R2 := Lib.hid g5
      have HX := Lib.hid g4
      clear g1 g5
      obtain ⟨kx, xx, tx, lx, qx, ax⟩ := x
      obtain ⟨pl, pq, cl, cq, rfl, _⟩ := g4
      by_cases hend : j2 = l.length
      · have HE3 : Hid (wholeR l = .ok (.mk kx xx tx lx qx ax) j2 (l.drop j2)) := Lib.hid (by rw [HE2.out, if_pos (by rw [hend]; exact List.drop_length)])
        have hlt : ¬ ((j2 : Int) < (l.length : Int)) := by omega
        unfold aggJ
        unfold aggJ at HX
        clear HE HE2
        obtain ⟨z0, z1, z2, z3, z4, z5, zf, zl⟩ := Z2.out
        go_wp2_with fail
        have T4 : Six (w2.alloc (.cells #[.int .i64 (kx : Int), .int .i64 xx, .string (baS tx), .slice pl lx.length cl, .slice pq qx.length cq, .int .i64 (ax : Int)] 26)) w2.heap.size (.int .i64 (kx : Int)) (.int .i64 xx) (.string (baS tx)) (.slice pl lx.length cl) (.slice pq qx.length cq) (.int .i64 (ax : Int)) :=
          ⟨by simp [go_sem], by simp [go_sem], by simp [go_sem], by simp [go_sem], by simp [go_sem], by simp [go_sem], fun o => by simp [go_sem], by simp [go_sem]⟩
        have B4 : Below w2.heap.size w2 (w2.alloc (.cells #[.int .i64 (kx : Int), .int .i64 xx, .string (baS tx), .slice pl lx.length cl, .slice pq qx.length cq, .int .i64 (ax : Int)] 26)) := ball (Below.refl _ _)
        have R4 := R2.out.below B4
        have hTs : J < w2.heap.size := Z2.out.lt
        have HB4 := Lib.hid B4
        clear z0 z1 z2 z3 z4 z5 zf zl B4
        generalize w2.alloc (.cells #[.int .i64 (kx : Int), .int .i64 xx, .string (baS tx), .slice pl lx.length cl, .slice pq qx.length cq, .int .i64 (ax : Int)] 26) = w4 at *
        have HR4 := Lib.hid R4
        obtain ⟨c0, c1, c2, c3, fz, lt⟩ := R4
        have HT4 := Lib.hid T4
        obtain ⟨t0, t1, t2, t3, t4, t5, tf, tl⟩ := T4
        obtain ⟨z0, z1, z2, z3, z4, z5, zf, zl⟩ := Z2.out.below HB4.out
        go_quiet (fail)
        go_wp2_with fail
        generalize hW : w4.drewN _ = w5
        have BQ : Below w4.heap.size w4 w5 := hW ▸ bdrew (Below.refl _ _) _
        try clear hW c0 c1 c2 c3 fz lt
        have B25 := Lib.hid (below_next HB4.out BQ)
        have T5 := HT4.out.below BQ
        have R5 := Lib.hid (HR4.out.below BQ)
        have Z5 := Z2.out.below B25.out
        have HZ5 := Lib.hid Z5
        have HT5 := Lib.hid T5
        clear BQ HB4 HR4 R2
        have HZZ := HZ5
        obtain ⟨y0, y1, y2, y3, y4, y5, yf, yl⟩ := HZZ.out.put (.int .i64 (kx : Int)) (.int .i64 xx) (.string (baS tx)) (.slice pl lx.length cl) (.slice pq qx.length cq) (.int .i64 (ax : Int))
        unfold put6 at y0 y1 y2 y3 y4 y5
        refine bodyPost_ret (v := .tuple #[.agg #[.int .i64 (kx : Int), .int .i64 xx, .string (baS tx), .slice pl lx.length cl, .slice pq qx.length cq, .int .i64 (ax : Int)], .bool true]) (by simp [results, Tryd.results14, go_sem, y0, y1, y2, y3, y4, y5]) rfl ?_
        exact pass_fin (RES := J) (w1 := w1) B1.out (K2.out.trans (.of R B25.out)) ⟨Nat.le_of_eq HJJ.out, by have := HRL.out; have := HJJ.out; omega, hl1.out⟩ HE3.out g2 (HX.out.keep fun g hg => ⟨⟨hg.1, Nat.lt_of_lt_of_le hg.2 B25.out.size⟩, fun o => olds B25.out g o hg.2⟩) R5.out (by unfold put6; rfl) rfl
      · have hlt' : j2 < l.length := by omega
        have HE3 : Hid (wholeR l = .bad 1 j2) := Lib.hid (by rw [HE2.out, if_neg (by intro e; have := List.drop_eq_nil_iff.1 e; omega)])
        have hlt : (j2 : Int) < (l.length : Int) := by omega
        unfold aggJ
        clear HE HE2 HX
        obtain ⟨z0, z1, z2, z3, z4, z5, zf, zl⟩ := Z2.out
        go_wp2_with fail
        have T4 : Six (w2.alloc (.cells #[.int .i64 (kx : Int), .int .i64 xx, .string (baS tx), .slice pl lx.length cl, .slice pq qx.length cq, .int .i64 (ax : Int)] 26)) w2.heap.size (.int .i64 (kx : Int)) (.int .i64 xx) (.string (baS tx)) (.slice pl lx.length cl) (.slice pq qx.length cq) (.int .i64 (ax : Int)) :=
          ⟨by simp [go_sem], by simp [go_sem], by simp [go_sem], by simp [go_sem], by simp [go_sem], by simp [go_sem], fun o => by simp [go_sem], by simp [go_sem]⟩
        have B4 : Below w2.heap.size w2 (w2.alloc (.cells #[.int .i64 (kx : Int), .int .i64 xx, .string (baS tx), .slice pl lx.length cl, .slice pq qx.length cq, .int .i64 (ax : Int)] 26)) := ball (Below.refl _ _)
        have R4 := R2.out.below B4
        have hTs : J < w2.heap.size := Z2.out.lt
        have HB4 := Lib.hid B4
        clear z0 z1 z2 z3 z4 z5 zf zl B4
        generalize w2.alloc (.cells #[.int .i64 (kx : Int), .int .i64 xx, .string (baS tx), .slice pl lx.length cl, .slice pq qx.length cq, .int .i64 (ax : Int)] 26) = w4 at *
        have HR4 := Lib.hid R4
        obtain ⟨c0, c1, c2, c3, fz, lt⟩ := R4
        go_quiet (fail)
        go_wp2_with fail
        generalize hW : w4.drewN _ = w5
        have BQ : Below w4.heap.size w4 w5 := hW ▸ bdrew (Below.refl _ _) _
        try clear hW c0 c1 c2 c3 fz lt
        have B25 := Lib.hid (below_next HB4.out BQ)
        have T5 := T4.below BQ
        have R5 := Lib.hid (HR4.out.below BQ)
        have Z5 := Z2.out.below B25.out
        have HZ5 := Lib.hid Z5
        have HT5 := Lib.hid T5
        clear BQ HB4 HR4 R2
        obtain ⟨c0, c1, c2, c3, fz, lt⟩ := R5.out
        go_wp2_with fail
        refine (fail_x R5.out 1 (j2 : Int)).mono ?_
        rintro e w6 ⟨rfl, r6, k6⟩
        have R6 := Lib.hid r6
        have K6 := Lib.hid k6
        have HZZ := Lib.hid (HZ5.out.but k6 (by have := HRL.out; omega))
        obtain ⟨t0, t1, t2, t3, t4, t5, tf, tl⟩ := HT5.out.but k6 (by have := HRL.out; omega)
        obtain ⟨z0, z1, z2, z3, z4, z5, zf, zl⟩ := HZZ.out
        clear r6 k6 T5 Z5 c0 c1 c2 c3 fz lt
        obtain ⟨y0, y1, y2, y3, y4, y5, yf, yl⟩ := HZZ.out.put (.int .i64 (kx : Int)) (.int .i64 xx) (.string (baS tx)) (.slice pl lx.length cl) (.slice pq qx.length cq) (.int .i64 (ax : Int))
        unfold put6 at y0 y1 y2 y3 y4 y5
        go_wp2_with fail
        refine bodyPost_ret (v := .tuple #[.agg #[.int .i64 (kx : Int), .int .i64 xx, .string (baS tx), .slice pl lx.length cl, .slice pq qx.length cq, .int .i64 (ax : Int)], .bool false]) (by simp [results, Tryd.results14, go_sem, y0, y1, y2, y3, y4, y5]) rfl ?_
        exact leaf_bad (RES := J) (t0 := tx) (B1.out.trans (K2.out.trans ((But.of R B25.out).trans K6.out))) ⟨Nat.le_of_eq HJJ.out, by have := HRL.out; have := HJJ.out; omega⟩ HE3.out R6.out (by unfold put6; rfl) rfl
    · have HE2 : Hid (wholeR l = .bad k a) := Lib.hid (by rw [HE.out, g1, PJ.andThen_bad])
      have R2 := Lib.hid g5
      clear g1 g5
      unfold aggJ
      obtain ⟨z0, z1, z2, z3, z4, z5, zf, zl⟩ := Z2.out
      go_wp2_with fail
      have T4 : Six (w2.alloc (.cells #[.int .i64 kx, .int .i64 xx, .string (baS tx), .slice pl nl cl, .slice pq mq cq, .int .i64 ax] 26)) w2.heap.size (.int .i64 kx) (.int .i64 xx) (.string (baS tx)) (.slice pl nl cl) (.slice pq mq cq) (.int .i64 ax) :=
        ⟨by simp [go_sem], by simp [go_sem], by simp [go_sem], by simp [go_sem], by simp [go_sem], by simp [go_sem], fun o => by simp [go_sem], by simp [go_sem]⟩
      have B4 : Below w2.heap.size w2 (w2.alloc (.cells #[.int .i64 kx, .int .i64 xx, .string (baS tx), .slice pl nl cl, .slice pq mq cq, .int .i64 ax] 26)) := ball (Below.refl _ _)
      have R4 := R2.out.below B4
      have hTs : J < w2.heap.size := Z2.out.lt
      have HB4 := Lib.hid B4
      clear z0 z1 z2 z3 z4 z5 zf zl B4
      generalize w2.alloc (.cells #[.int .i64 kx, .int .i64 xx, .string (baS tx), .slice pl nl cl, .slice pq mq cq, .int .i64 ax] 26) = w4 at *
      have HR4 := Lib.hid R4
      obtain ⟨c0, c1, c2, c3, fz, lt⟩ := R4
      have HT4 := Lib.hid T4
      obtain ⟨t0, t1, t2, t3, t4, t5, tf, tl⟩ := T4
      obtain ⟨z0, z1, z2, z3, z4, z5, zf, zl⟩ := Z2.out.below HB4.out
      go_quiet (fail)
      go_wp2_with fail
      generalize hW : w4.drewN _ = w5
      have BQ : Below w4.heap.size w4 w5 := hW ▸ bdrew (Below.refl _ _) _
      try clear hW c0 c1 c2 c3 fz lt
      have B25 := Lib.hid (below_next HB4.out BQ)
      have T5 := HT4.out.below BQ
      have R5 := Lib.hid (HR4.out.below BQ)
      have Z5 := Z2.out.below B25.out
      have HZ5 := Lib.hid Z5
      have HT5 := Lib.hid T5
      clear BQ HB4 HR4 R2
      have HZZ := HZ5
      obtain ⟨y0, y1, y2, y3, y4, y5, yf, yl⟩ := HZZ.out.put (.int .i64 kx) (.int .i64 xx) (.string (baS tx)) (.slice pl nl cl) (.slice pq mq cq) (.int .i64 ax)
      unfold put6 at y0 y1 y2 y3 y4 y5
      refine bodyPost_ret (v := .tuple #[.agg #[.int .i64 kx, .int .i64 xx, .string (baS tx), .slice pl nl cl, .slice pq mq cq, .int .i64 ax], .bool false]) (by simp [results, Tryd.results14, go_sem, y0, y1, y2, y3, y4, y5]) rfl ?_
      exact leaf_bad (RES := J) (t0 := tx) (B1.out.trans (K2.out.trans (.of R B25.out))) ⟨Nat.le_of_eq HJJ.out, by have := HRL.out; have := HJJ.out; omega⟩ HE2.out R5.out (by unfold put6; rfl) rfl
  · have HE : Hid (wholeR l = .bad k a) := Lib.hid (by
      unfold wholeR
      rw [show skipJ 0 0 0 l = .bad k a from by simpa using q1, PJ.andThen_bad])
    have R1 := Lib.hid q3
    have ZZ := Lib.hid Z1
    obtain ⟨z0, z1, z2, z3, z4, z5, zf, zl⟩ := Z1
    obtain ⟨y0, y1, y2, y3, y4, y5, yf, yl⟩ := ZZ.out.put (.int .i64 0) (.int .i64 0) (.string { data := #[] }) (.slice none 0 0) (.slice none 0 0) (.int .i64 0)
    unfold put6 at y0 y1 y2 y3 y4 y5
    clear q1 q3
    go_wp2_with fail
    refine bodyPost_ret (v := .tuple #[.agg #[.int .i64 0, .int .i64 0, .string { data := #[] }, .slice none 0 0, .slice none 0 0, .int .i64 0], .bool false]) (by simp [results, Tryd.results14, go_sem, y0, y1, y2, y3, y4, y5]) rfl ?_
    exact leaf_bad (RES := J) (t0 := []) B1.out ⟨Nat.le_of_eq HJJ.out, by have := HRL.out; have := HJJ.out; omega⟩ HE.out R1.out (by unfold put6; rfl) rfl
end Go.Proofs.YtgiihljiekagdaaDoor
