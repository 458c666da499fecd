/- Package json: Parse. -/
import Derived.Test.YtgiihljiekagdaaDoorLt
namespace Go.Proofs.YtgiihljiekagdaaDoor
open Go.ChangeShapes Go.WideShapes Go.RowKit Go.Sort
theorem jsonV_is (l : Bs) : jsonV l = match wholeR l with | .ok v _ _ => .ok v | .bad k a => .bad k a := rfl
set_option maxHeartbeats 2000000 in
set_option maxRecDepth 100000 in
theorem long_ok (a : Option Addr) (n c : Nat) (w : World) (hn : n ≤ 1000000) :
    Calls Tryd.prog 13 #[.slice a n c] w fun e w' => e = .returned (.tuple #[.agg #[.int .i64 0, .int .i64 0], .bool false]) ∧ Below w.heap.size w w' := by
  go_enter Tryd.func13, Tryd.ntmps13
  go_wp2_with fail
  exact bodyPost_ret (v := .tuple #[.agg #[.int .i64 0, .int .i64 0], .bool false]) (by simp [results, Tryd.results13, go_sem]) rfl ⟨rfl, ball (Below.refl _ _)⟩
/-- A block of two cells. -/
structure Two (w : World) (E : Nat) (a b : Value) : Prop where
  k0 : w.cell? ⟨E, 0, none⟩ = some a
  k1 : w.cell? ⟨E, 1, none⟩ = some b
  fz : ∀ o, w.frozen? ⟨E, o, none⟩ = false
  lt : E < w.heap.size
theorem Two.heap {w w' : World} {E : Nat} {a b : Value} (h : Two w E a b) (e : w'.heap[E]? = w.heap[E]?) (hs : E < w'.heap.size) : Two w' E a b :=
  ⟨(World.cell?_of_block (w := w) (a := ⟨E, 0, none⟩) e).trans h.k0, (World.cell?_of_block (w := w) (a := ⟨E, 1, none⟩) e).trans h.k1, fun o => (World.frozen?_of_block (w := w) (a := ⟨E, o, none⟩) e).trans (h.fz o), hs⟩
theorem Two.below {w w' : World} {E : Nat} {a b : Value} (h : Two w E a b) (hb : Below w.heap.size w w') : Two w' E a b := h.heap (hb.block E h.lt) (Nat.lt_of_lt_of_le h.lt hb.size)
theorem Two.but {w w' : World} {R E : Nat} {a b : Value} (h : Two w E a b) (hb : But R w w') (hR : E ≠ R) : Two w' E a b := h.heap (hb.block E h.lt hR) (Nat.lt_of_lt_of_le h.lt hb.size)
/-- Two stores. -/
def putE (w : World) (E : Nat) (a b : Value) : World := (w.setCell ⟨E, 0, none⟩ a).setCell ⟨E, 1, none⟩ b
theorem fin_facts {w5 : World} {J : Nat} {c0 c1 c2 c3 c4 c5 d0 d1 : Value} (h : Six w5 J c0 c1 c2 c3 c4 c5) (k : Two w5 (J + 1) d0 d1) (a0 a1 a2 a3 a4 a5 x y : Value) :
    Six (putE (put6 w5 J a0 a1 a2 a3 a4 a5) (J + 1) x y) J a0 a1 a2 a3 a4 a5 ∧ Two (putE (put6 w5 J a0 a1 a2 a3 a4 a5) (J + 1) x y) (J + 1) x y ∧
    (∀ g, g ≠ J → g ≠ J + 1 → (putE (put6 w5 J a0 a1 a2 a3 a4 a5) (J + 1) x y).heap[g]? = w5.heap[g]?) ∧ (putE (put6 w5 J a0 a1 a2 a3 a4 a5) (J + 1) x y).heap.size = w5.heap.size ∧
    (∀ B a, Below B a w5 → B ≤ J → Below B a (putE (put6 w5 J a0 a1 a2 a3 a4 a5) (J + 1) x y)) := by
  have hne : J + 1 ≠ J := by omega
  have hs := put6_size (w := w5) (J := J) a0 a1 a2 a3 a4 a5
  have k' : Two (put6 w5 J a0 a1 a2 a3 a4 a5) (J + 1) d0 d1 := k.heap (put6_keep a0 a1 a2 a3 a4 a5 _ hne) (by rw [hs]; exact k.lt)
  refine ⟨six_other hne _ _ (six_other hne _ _ (h.put a0 a1 a2 a3 a4 a5)), ⟨?_, ?_, fun o => ?_, ?_⟩, fun g h1 h2 => ?_, ?_, fun B a hb h1 => ?_⟩
  · exact (World.cell?_setCell_other _ _ _ _ (by simp)).trans (World.cell?_setCell_same _ _ _ k'.k0)
  · exact World.cell?_setCell_same _ _ _ ((World.cell?_setCell_other _ _ _ _ (by simp)).trans k'.k1)
  · unfold putE
    rw [World.frozen?_setCell, World.frozen?_setCell]
    exact k'.fz o
  · have := k'.lt
    simpa [putE, World.setCell] using this
  · unfold putE
    rw [Below.heap_setCell _ _ _ _ h2, Below.heap_setCell _ _ _ _ h2]
    exact put6_keep a0 a1 a2 a3 a4 a5 g h1
  · have := hs
    simpa [putE, World.setCell] using this
  · unfold putE put6
    exact (((((((hb.setCell (p := ⟨J, 0, none⟩) h1 _).setCell (p := ⟨J, 1, none⟩) h1 _).setCell (p := ⟨J, 2, none⟩) h1 _).setCell (p := ⟨J, 3, none⟩) h1 _).setCell (p := ⟨J, 4, none⟩) h1 _).setCell (p := ⟨J, 5, none⟩) h1 _).setCell (p := ⟨J + 1, 0, none⟩) (Nat.le_succ_of_le h1) _).setCell (p := ⟨J + 1, 1, none⟩) (Nat.le_succ_of_le h1) _
theorem par_below {w w4 w5 wf : World} {R J : Nat} (B24 : Below w.heap.size w w4) (k5 : But R w4 w5) (hJ : w.heap.size = J) (hR : J + 1 < R) (hyb : ∀ B a, Below B a w5 → B ≤ J → Below B a wf) : Below w.heap.size w wf := by
  refine hyb _ _ ?_ (Nat.le_of_eq hJ)
  have h := k5.below B24.size (show w.heap.size ≤ R by omega)
  exact ⟨h.os.trans B24.os, h.tape.trans B24.tape, h.output.trans B24.output, Nat.le_trans B24.size h.size, fun g hg => (h.block g hg).trans (B24.block g hg)⟩
/-- What Parse answers. -/
def ParP (l : Bs) (w : World) (e : Ending) (w' : World) : Prop :=
  Below w.heap.size w w' ∧ ((∃ (x : Js) (v : Value), jsonV l = .ok x ∧ e = .returned (.tuple #[v, .agg #[.int .i64 0, .int .i64 0]]) ∧ JAt 65 w' (Mid w.heap.size w'.heap.size) v x) ∨
    ∃ (k a : Nat), jsonV l = .bad k a ∧ e = .returned (.tuple #[aggJ 0 0 [] none 0 0 none 0 0 0, .agg #[.int .i64 (k : Int), .int .i64 (a : Int)]]))
set_option maxHeartbeats 8000000 in
set_option maxRecDepth 100000 in
theorem parse_x {l : Bs} {b o c : Nat} {w : World} (hby : BytesAt w (some ⟨b, o, none⟩) l) (hc : l.length ≤ c) (hl : l.length ≤ 1000000) (hb : b < w.heap.size) (hg : Gl w) (h8 : 8 ≤ w.heap.size) :
    Calls Tryd.prog 8 #[.slice (some ⟨b, o, none⟩) l.length c] w fun e w' => ParP l w e w' := by
  go_enter Tryd.func8, Tryd.ntmps8
  go_wp2_with fail
  have Z0 : Six ((w.alloc (.cells #[.int .i64 0, .int .i64 0, .string { data := #[] }, .slice none 0 0, .slice none 0 0, .int .i64 0] 26)).alloc (.cells #[.int .i64 0, .int .i64 0] 33)) w.heap.size (.int .i64 0) (.int .i64 0) (.string { data := #[] }) (.slice none 0 0) (.slice none 0 0) (.int .i64 0) :=
    ⟨by simp [go_sem], by simp [go_sem], by simp [go_sem], by simp [go_sem], by simp [go_sem], by simp [go_sem], fun o => by simp [go_sem], by simp [go_sem]⟩
  have E0 : Two ((w.alloc (.cells #[.int .i64 0, .int .i64 0, .string { data := #[] }, .slice none 0 0, .slice none 0 0, .int .i64 0] 26)).alloc (.cells #[.int .i64 0, .int .i64 0] 33)) (w.heap.size + 1) (.int .i64 0) (.int .i64 0) := ⟨by simp [go_sem], by simp [go_sem], fun o => by simp [go_sem], by simp [go_sem]⟩
  have B0 : Below w.heap.size w ((w.alloc (.cells #[.int .i64 0, .int .i64 0, .string { data := #[] }, .slice none 0 0, .slice none 0 0, .int .i64 0] 26)).alloc (.cells #[.int .i64 0, .int .i64 0] 33)) := ball (ball (Below.refl _ _))
  generalize (w.alloc (.cells #[.int .i64 0, .int .i64 0, .string { data := #[] }, .slice none 0 0, .slice none 0 0, .int .i64 0] 26)).alloc (.cells #[.int .i64 0, .int .i64 0] 33) = w0 at *
  generalize hJ : w.heap.size = J at *
  refine (long_ok _ _ _ _ hl).mono ?_
  rintro e w1 ⟨rfl, B1⟩
  have Z1 := Z0.below B1
  have E1 := E0.below B1
  have B2 := Lib.hid (below_next (hJ ▸ B0) B1)
  have HJ := Lib.hid hJ
  clear Z0 E0 B0 B1 hJ
  go_wp2_with fail
  have B4 : Below w1.heap.size w1 ((w1.alloc (.cells #[.int .i64 0, .int .i64 0] 33)).alloc (.cells #[.slice (some ⟨b, o, none⟩) l.length c, .int .i64 0, .int .i64 0, .int .i64 0] 46)) := ball (ball (Below.refl _ _))
  have R4 : Rd l.length b o c (w1.heap.size + 1) ((w1.alloc (.cells #[.int .i64 0, .int .i64 0] 33)).alloc (.cells #[.slice (some ⟨b, o, none⟩) l.length c, .int .i64 0, .int .i64 0, .int .i64 0] 46)) 0 0 0 := ⟨by simp [go_sem], by simp [go_sem], by simp [go_sem], by simp [go_sem], fun o => by simp [go_sem], by simp [go_sem]⟩
  generalize (w1.alloc (.cells #[.int .i64 0, .int .i64 0] 33)).alloc (.cells #[.slice (some ⟨b, o, none⟩) l.length c, .int .i64 0, .int .i64 0, .int .i64 0] 46) = w4 at *
  have hsz1 := B2.out.size
  have B24 := Lib.hid (below_next B2.out B4)
  have S4 : Src l b o c (w1.heap.size + 1) w4 := ⟨hby.below B24.out, hc, hl, by have := HJ.out; omega, by have := HJ.out; omega, Nat.lt_of_lt_of_le (HJ.out ▸ hb) B24.out.size, hg.below B24.out⟩
  have Z4 := Z1.below B4
  have E4 := E1.below B4
  have hJR : Hid (J + 1 < w1.heap.size + 1) := Lib.hid (by have := E1.lt; omega)
  clear Z1 E1 B4 hby hg
  generalize w1.heap.size + 1 = R at *
  have HS := Lib.hid S4
  have HRL : Hid (R < w4.heap.size) := R4.lt
  have HR := Lib.hid R4
  clear B2 hsz1
  refine (whole_x S4 R4).mono ?_
  rintro e w5 ⟨k5, hx⟩
  have Z5 := Z4.but k5 (by have := hJR.out; omega)
  have E5 := E4.but k5 (by have := hJR.out; omega)
  have K5 := Lib.hid k5
  have HZ := Lib.hid Z5
  have HE := Lib.hid E5
  have hl4 : Hid (w.heap.size ≤ w4.heap.size) := Lib.hid B24.out.size
  clear S4 R4 Z4 E4 k5
  obtain ⟨kx, xx, tx, pl, nl, cl, pq, mq, cq, ax, okb, rfl, hcase⟩ : ∃ (kx xx : Int) (tx : Bs) (pl : Option Addr) (nl cl : Nat) (pq : Option Addr) (mq cq : Nat) (ax : Int) (okb : Bool), e = .returned (.tuple #[aggJ kx xx tx pl nl cl pq mq cq ax, .bool okb]) ∧
      ((okb = true ∧ Hid (∃ (x : Js), jsonV l = .ok x ∧ JAt 65 w5 (Mid w4.heap.size w5.heap.size) (aggJ kx xx tx pl nl cl pq mq cq ax) x)) ∨
      (okb = false ∧ ∃ k a j : Nat, jsonV l = .bad k a ∧ Rd l.length b o c R w5 j (k : Int) (a : Int))) := by
    rcases hx with ⟨x, v, j, q1, q2, he, q4, q5⟩ | ⟨k, a, j, k0, x0, a0, t0, pl, nl, cl, pq, nq, cq, q1, he, q5⟩
    · obtain ⟨k, u, z, q, p, ax⟩ := x
      have q4' := q4
      obtain ⟨pl, pq, cl, cq, rfl, _⟩ := q4
      exact ⟨_, _, _, _, _, _, _, _, _, _, true, he, .inl ⟨rfl, Lib.hid ⟨_, by rw [jsonV_is, q1], q4'⟩⟩⟩
    · exact ⟨_, _, _, _, _, _, _, _, _, _, false, he, .inr ⟨rfl, k, a, j, by rw [jsonV_is, q1], q5⟩⟩
  clear hx
  unfold aggJ
  obtain ⟨z0, z1, z2, z3, z4, z5, zf, zl⟩ := Z5
  obtain ⟨e0, e1, ef, el⟩ := E5
  rcases hcase with ⟨rfl, HC⟩ | ⟨rfl, k, a, j, HC, q5⟩
  · obtain ⟨x, HV, HX⟩ := HC.out
    have HX := Lib.hid HX
    have HV := Lib.hid HV
    go_wp2_with fail
    obtain ⟨y6, y2, yk, ys, yb⟩ := fin_facts HZ.out HE.out (.int .i64 kx) (.int .i64 xx) (.string (baS tx)) (.slice pl nl cl) (.slice pq mq cq) (.int .i64 ax) (.int .i64 0) (.int .i64 0)
    unfold put6 putE at y6 y2 yk ys yb
    have A6 := y6.below (ball (o := .cells #[.int .i64 kx, .int .i64 xx, .string (baS tx), .slice pl nl cl, .slice pq mq cq, .int .i64 ax] 26) (Below.refl _ _))
    have A2 := y2.below (ball (o := .cells #[.int .i64 kx, .int .i64 xx, .string (baS tx), .slice pl nl cl, .slice pq mq cq, .int .i64 ax] 26) (Below.refl _ _))
    obtain ⟨a0, a1, a2, a3, a4, a5, af, al⟩ := A6
    obtain ⟨b0, b1, bf, bl⟩ := A2
    refine bodyPost_ret (v := .tuple #[.agg #[.int .i64 kx, .int .i64 xx, .string (baS tx), .slice pl nl cl, .slice pq mq cq, .int .i64 ax], .agg #[.int .i64 0, .int .i64 0]]) (by simp [results, Tryd.results8, go_sem, a0, a1, a2, a3, a4, a5, b0, b1]) rfl ?_
    have BF := par_below B24.out K5.out HJ.out hJR.out yb
    refine ⟨ball BF, .inl ⟨x, _, HV.out, rfl, HX.out.keep fun g hg => ⟨⟨Nat.le_trans hl4.out hg.1, ?_⟩, fun o => ?_⟩⟩⟩
    · exact Nat.lt_of_lt_of_le (by rw [ys]; exact hg.2) (ball (o := .cells #[.int .i64 kx, .int .i64 xx, .string (baS tx), .slice pl nl cl, .slice pq mq cq, .int .i64 ax] 26) (Below.refl _ _)).size
    · have hg1 := hg.1
      have hRw := HRL.out
      have hJ1 := hJR.out
      have e1 := yk g (by omega) (by omega)
      exact (olds (ball (o := .cells #[.int .i64 kx, .int .i64 xx, .string (baS tx), .slice pl nl cl, .slice pq mq cq, .int .i64 ax] 26) (Below.refl _ _)) g o (by rw [ys]; exact hg.2)).trans (World.cell?_of_block (w := w5) (a := ⟨g, o, none⟩) e1)
  · obtain ⟨d0, d1, d2, d3, dz, dl⟩ := q5
    have hn1 : ¬ (J = R) := by have := hJR.out; omega
    have hn2 : ¬ (J + 1 = R) := by have := hJR.out; omega
    have hn3 : ¬ (R = J) := fun e => hn1 e.symm
    have hn4 : ¬ (R = J + 1) := fun e => hn2 e.symm
    go_wp2_with fail
    go_region
    all_goals go_wp2_with fail
    obtain ⟨y6, y2, yk, ys, yb⟩ := fin_facts HZ.out HE.out (.int .i64 0) (.int .i64 0) (.string { data := #[] }) (.slice none 0 0) (.slice none 0 0) (.int .i64 0) (.int .i64 (k : Int)) (.int .i64 (a : Int))
    unfold put6 putE at y6 y2 yk ys yb
    have A6 := y6.below (ball (o := .cells #[.int .i64 kx, .int .i64 xx, .string (baS tx), .slice pl nl cl, .slice pq mq cq, .int .i64 ax] 26) (Below.refl _ _))
    have A2 := y2.below (ball (o := .cells #[.int .i64 kx, .int .i64 xx, .string (baS tx), .slice pl nl cl, .slice pq mq cq, .int .i64 ax] 26) (Below.refl _ _))
    obtain ⟨a0, a1, a2, a3, a4, a5, af, al⟩ := A6
    obtain ⟨b0, b1, bf, bl⟩ := A2
    have BF := par_below B24.out K5.out HJ.out hJR.out yb
    refine bodyPost_ret (v := .tuple #[.agg #[.int .i64 0, .int .i64 0, .string { data := #[] }, .slice none 0 0, .slice none 0 0, .int .i64 0], .agg #[.int .i64 (k : Int), .int .i64 (a : Int)]]) (by simp [results, Tryd.results8, go_sem, a0, a1, a2, a3, a4, a5, b0, b1]) rfl ?_
    exact ⟨(ball BF).drew, .inr ⟨k, a, HC, rfl⟩⟩
end Go.Proofs.YtgiihljiekagdaaDoor
