/- What the document fixes of package csvr: the law's own check answers true. -/
import Derived.Test.YtcfminkmidaaoaaDoorVu
import Derived.Test.YtcfminkmidaaoaaDoorVf
namespace Go.Proofs.YtcfminkmidaaoaaDoor
open Go.ChangeShapes Go.WideShapes Go.RowKit Go.Sort
theorem RecsE.yes {w w' : World} {l : Bs} {L : List (List Tk)} {e : Ending} (h : RecsE w l e w') (ht : recV l = .ok L) : (∃ p c, e = .returned (.tuple #[.slice p L.length c, .agg #[.int .i64 0, .int .i64 0]]) ∧ RecP tokP w' p L) ∧ Below w.heap.size w w' := by
  unfold RecsE at h; rw [ht] at h
  obtain ⟨⟨p, c, e1, e2, _⟩, e3⟩ := h
  exact ⟨⟨p, c, e1, e2⟩, e3⟩
theorem RecsE.no {w w' : World} {l : Bs} {k a : Nat} {e : Ending} (h : RecsE w l e w') (ht : recV l = .bad k a) : e = .returned (.tuple #[.slice none 0 0, .agg #[.int .i64 (k : Int), .int .i64 (a : Int)]]) ∧ Below w.heap.size w w' := by
  unfold RecsE at h; rw [ht] at h; exact h
/-- One sign of one row of rows, as it is read: the row's length, the sign's cells. -/
theorem RecP.tok {w : World} {p : Option Addr} {L : List (List Tk)} (h : RecP tokP w p L) {j k : Nat} {row : List Tk} {t : Tk} (hj : L[j]? = some row) (hk : row[k]? = some t) : ∃ g g2 cq, p = some ⟨g, 0, none⟩ ∧ w.cell? ⟨g, j, none⟩ = some (.slice (some ⟨g2, 0, none⟩) row.length cq) ∧ w.cell? ⟨g2, k * 3, none⟩ = some (.int .i64 (t.1 : Int)) ∧ w.cell? ⟨g2, k * 3 + 1, none⟩ = some (.string (baS t.2.1)) ∧ w.cell? ⟨g2, k * 3 + 2, none⟩ = some (.int .i64 (t.2.2 : Int)) := by
  obtain ⟨g, q, cq, e, _, hc, hr⟩ := h j row hj
  obtain ⟨g2, e2, _, a, b, c⟩ := hr k t hk
  subst e2
  exact ⟨g, g2, cq, e, hc, a, b, c⟩
def awk9 : Bs := [97, 44, 34, 98, 34, 34, 99, 34, 13, 10, 44, 10]
def awk9L : List (List Tk) := [[(5, [97], 0), (5, [98, 34, 99], 2)], [(5, [], 10), (5, [], 11)]]
def awk9P : List (List Bs) := [[[97], [98, 44, 99]], [[]]]
theorem awk9_rec {V : World} {t1 t2 t3 : TypeId} : RecP strP (((V.alloc (.cells #[.string ⟨#[97]⟩, .string ⟨#[98, 44, 99]⟩] t1)).alloc (.cells #[.string ⟨#[]⟩] t2)).alloc (.cells #[.slice (some ⟨V.heap.size, 0, none⟩) 2 2, .slice (some ⟨V.heap.size + 1, 0, none⟩) 1 1] t3)) (some ⟨V.heap.size + 1 + 1, 0, none⟩) awk9P := by
  intro j row hj
  match j, hj with
  | 0, hj =>
    cases hj
    refine ⟨_, some ⟨V.heap.size, 0, none⟩, 2, rfl, by simp [go_sem], by simp [go_sem], fun k s hk => ?_⟩
    match k, hk with
    | 0, hk => cases hk; exact ⟨_, rfl, by simp [go_sem], by simp [go_sem]; rfl⟩
    | 1, hk => cases hk; exact ⟨_, rfl, by simp [go_sem], by simp [go_sem]; rfl⟩
  | 1, hj =>
    cases hj
    refine ⟨_, some ⟨V.heap.size + 1, 0, none⟩, 1, rfl, by simp [go_sem], by simp [go_sem], fun k s hk => ?_⟩
    match k, hk with
    | 0, hk => cases hk; exact ⟨_, rfl, by simp [go_sem], by simp [go_sem]; rfl⟩
set_option maxHeartbeats 16000000 in
set_option maxRecDepth 100000 in
theorem awake9_x (w : World) (hg : Gl w) :
    Calls Tryd.prog 9 #[] w fun e w' => e = .returned (.bool true) ∧ Below w.heap.size w w' := by
  have A1 : Hid (∀ V : World, Calls Tryd.prog 8 #[.slice (some ⟨V.heap.size, 0, none⟩) 12 12] (V.alloc (.cells #[.int .u8 97, .int .u8 44, .int .u8 34, .int .u8 98, .int .u8 34, .int .u8 34, .int .u8 99, .int .u8 34, .int .u8 13, .int .u8 10, .int .u8 44, .int .u8 10] 5 (12, 13))) fun e w' => (∃ p c, e = .returned (.tuple #[.slice p 2 c, .agg #[.int .i64 0, .int .i64 0]]) ∧ RecP tokP w' p awk9L) ∧ Below V.heap.size V w') := fun V =>
    (parse_x awk9 (some ⟨V.heap.size, 0, none⟩) 12 _ (bytes_new V awk9 _ _) (by decide) (by decide)).mono fun e w' h => by
      obtain ⟨a, b⟩ := h.yes (L := awk9L) (by kernel_rfl)
      exact ⟨a, below_step (Below.refl _ _) b⟩
  have A2 : Hid (∀ V : World, Calls Tryd.prog 8 #[.slice (some ⟨V.heap.size, 0, none⟩) 4 4] (V.alloc (.cells #[.int .u8 97, .int .u8 44, .int .u8 34, .int .u8 98] 5 (4, 5))) fun e w' => e = .returned (.tuple #[.slice none 0 0, .agg #[.int .i64 1, .int .i64 4]]) ∧ Below V.heap.size V w') := fun V =>
    (parse_x [97, 44, 34, 98] (some ⟨V.heap.size, 0, none⟩) 4 _ (bytes_new V [97, 44, 34, 98] _ _) (by decide) (by decide)).mono fun e w' h => by
      obtain ⟨a, b⟩ := h.no (k := 1) (a := 4) (by kernel_rfl)
      exact ⟨a, below_step (Below.refl _ _) b⟩
  have A3 : Hid (∀ V : World, Calls Tryd.prog 8 #[.slice (some ⟨V.heap.size, 0, none⟩) 3 3] (V.alloc (.cells #[.int .u8 97, .int .u8 34, .int .u8 98] 5 (3, 4))) fun e w' => e = .returned (.tuple #[.slice none 0 0, .agg #[.int .i64 1, .int .i64 1]]) ∧ Below V.heap.size V w') := fun V =>
    (parse_x [97, 34, 98] (some ⟨V.heap.size, 0, none⟩) 3 _ (bytes_new V [97, 34, 98] _ _) (by decide) (by decide)).mono fun e w' h => by
      obtain ⟨a, b⟩ := h.no (k := 1) (a := 1) (by kernel_rfl)
      exact ⟨a, below_step (Below.refl _ _) b⟩
  have A4 : Hid (∀ V : World, Gl V → Calls Tryd.prog 13 #[.slice (some ⟨V.heap.size + 1 + 1, 0, none⟩) 2 2] (((V.alloc (.cells #[.string ⟨#[97]⟩, .string ⟨#[98, 44, 99]⟩] 9)).alloc (.cells #[.string ⟨#[]⟩] 9)).alloc (.cells #[.slice (some ⟨V.heap.size, 0, none⟩) 2 2, .slice (some ⟨V.heap.size + 1, 0, none⟩) 1 1] 43)) fun e w' => (∃ p q, e = .returned (.slice p 11 q) ∧ BytesAt w' p [97, 44, 34, 98, 44, 99, 34, 10, 34, 34, 10]) ∧ Below V.heap.size V w') := fun V hV =>
    (print_x awk9P (some ⟨V.heap.size + 1 + 1, 0, none⟩) 2 _ (hV.below (ball (ball (ball (Below.refl _ _))))) awk9_rec (by decide) (by decide)).mono fun e w' h => by
      obtain ⟨hb, p, q, e1, ho⟩ := h
      have hv : printV awk9P = [97, 44, 34, 98, 44, 99, 34, 10, 34, 34, 10] := by kernel_rfl
      rw [hv] at e1 ho
      exact ⟨⟨p, q, e1, bytes_own ho⟩, below_next (ball (ball (ball (Below.refl _ _)))) hb⟩
  have kc := fun (w : World) (C : Array Value) (n c : Nat) => Lib.run_convert_bytes_const (P := Tryd.prog) w 29 5 C n c Tryd.underlying29 Tryd.underlying5
  have HG := Lib.hid hg
  clear hg
  go_enter Tryd.func9, Tryd.ntmps9
  go_wp2_with fail
  refine (A1.out _).mono ?_
  rintro e w1 ⟨⟨p, c, rfl, ht⟩, hb1⟩
  clear A1
  go_upto_region 2 with fail
  generalize hw2 : w1.alloc _ = w2
  have B2 : Below w.heap.size w w2 := hw2 ▸ ball hb1
  have T2 : RecP tokP w2 p awk9L := hw2 ▸ ht.below (ball (Below.refl _ _))
  have X2 : ErrC w2 w1.heap.size 0 0 := by subst hw2; exact ⟨by simp [go_sem], by simp [go_sem], by simp [go_sem]⟩
  clear hw2 hb1 ht
  generalize w1.heap.size = N1 at *
  go_wp2_with fail
  refine (A2.out _).mono ?_
  rintro e w3 ⟨rfl, hb3⟩
  have B3 := below_next B2 hb3
  have T3 := T2.below hb3
  have X3 := X2.next hb3
  clear A2 B2 T2 X2 hb3
  go_upto_region 3 with fail
  generalize hw4 : w3.alloc _ = w4
  have B4 : Below w.heap.size w w4 := hw4 ▸ ball B3
  have T4 : RecP tokP w4 p awk9L := hw4 ▸ T3.below (ball (Below.refl _ _))
  have X4 : ErrC w4 N1 0 0 := hw4 ▸ X3.next (ball (Below.refl _ _))
  have Y4 : ErrC w4 w3.heap.size 1 4 := by subst hw4; exact ⟨by simp [go_sem], by simp [go_sem], by simp [go_sem]⟩
  clear hw4 B3 T3 X3
  generalize w3.heap.size = N2 at *
  go_wp2_with fail
  refine (A3.out _).mono ?_
  rintro e w5 ⟨rfl, hb5⟩
  have B5 := below_next B4 hb5
  have T5 := T4.below hb5
  have X5 := X4.next hb5
  have Y5 := Y4.next hb5
  clear A3 B4 T4 X4 Y4 hb5 kc
  go_upto_region 4 with fail
  generalize hw6 : w5.alloc _ = w6
  have B6 : Below w.heap.size w w6 := hw6 ▸ ball B5
  have T6 : RecP tokP w6 p awk9L := hw6 ▸ T5.below (ball (Below.refl _ _))
  have X6 : ErrC w6 N1 0 0 := hw6 ▸ X5.next (ball (Below.refl _ _))
  have Y6 : ErrC w6 N2 1 4 := hw6 ▸ Y5.next (ball (Below.refl _ _))
  have Z6 : ErrC w6 w5.heap.size 1 1 := by subst hw6; exact ⟨by simp [go_sem], by simp [go_sem], by simp [go_sem]⟩
  clear hw6 B5 T5 X5 Y5
  generalize w5.heap.size = N3 at *
  go_wp2_with fail
  refine (A4.out _ (HG.out.below B6)).mono ?_
  rintro e w7 ⟨⟨p7, q7, rfl, hb7⟩, hbb⟩
  have B7 := below_next B6 hbb
  have T7 := T6.below hbb
  have X7 := X6.next hbb
  have Y7 := Y6.next hbb
  have Z7 := Z6.next hbb
  have hcv : (convert 29 9 (.slice p7 11 q7)).run Tryd.prog w7 = .ok (.string ⟨#[97, 44, 34, 98, 44, 99, 34, 10, 34, 34, 10]⟩) w7 := conv_bytes q7 hb7
  clear A4 hb7 hbb B6 T6 X6 Y6 Z6
  obtain ⟨g, g2, cq, rfl, k0, _, k1, k2⟩ := T7.tok (j := 0) (k := 1) rfl rfl
  obtain ⟨_, g3, cq3, e2, k3, _, _, k4⟩ := T7.tok (j := 1) (k := 1) rfl rfl
  cases e2
  have q0 : w7.cell? ⟨g, 0, none⟩ = some (.slice (some ⟨g2, 0, none⟩) 2 cq) := k0
  have q1 : w7.cell? ⟨g2, 4, none⟩ = some (.string ⟨#[98, 34, 99]⟩) := k1
  have q2 : w7.cell? ⟨g2, 5, none⟩ = some (.int .i64 2) := k2
  have q3 : w7.cell? ⟨g, 1, none⟩ = some (.slice (some ⟨g3, 0, none⟩) 2 cq3) := k3
  have q4 : w7.cell? ⟨g3, 5, none⟩ = some (.int .i64 11) := k4
  clear k0 k1 k2 k3 k4
  have x0 := X7.c0
  have x1 := X7.c1
  have y0 := Y7.c0
  have y1 := Y7.c1
  have z0 := Z7.c0
  have z1 := Z7.c1
  clear T7 X7 Y7 Z7
  go_wp2_with fail
  go_ret
  exact ⟨rfl, B7⟩
end Go.Proofs.YtcfminkmidaaoaaDoor
