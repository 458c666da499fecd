/- What the document fixes of package dnsl: the law's own check answers true. What Parse answers of bytes that were just made of a text. -/
import Derived.Test.YtfmanmidihofgaaDoorXn
import Derived.Test.YtfmanmidihofgaaDoorXh
namespace Go.Proofs.YtfmanmidihofgaaDoor
open Go.ChangeShapes Go.WideShapes Go.RowKit Go.Sort
theorem RowsE.yes {w w' : World} {l : Bs} {L : List Rw} {e : Ending} (h : RowsE w l e w') (ht : rowsV l = .ok L) : (∃ p c, e = .returned (.tuple #[.slice p L.length c, .agg #[.int .i64 0, .int .i64 0]]) ∧ RecW w' p L) ∧ Below w.heap.size w w' := by
  unfold RowsE at h; rw [ht] at h
  obtain ⟨⟨p, c, e1, e2, _⟩, e3⟩ := h
  exact ⟨⟨p, c, e1, e2⟩, e3⟩
theorem RowsE.no {w w' : World} {l : Bs} {k a : Nat} {e : Ending} (h : RowsE w l e w') (ht : rowsV l = .bad k a) : e = .returned (.tuple #[.slice none 0 0, .agg #[.int .i64 (k : Int), .int .i64 (a : Int)]]) ∧ Below w.heap.size w w' := by
  unfold RowsE at h; rw [ht] at h; exact h
def awk10 : Bs := [35, 32, 120, 10, 10, 100, 104, 99, 112, 45, 97, 61, 49, 44, 44, 50, 13, 10, 98, 61]
def awk10L : List Rw := [([100, 104, 99, 112, 45, 97], [(6, [49], 12), (6, [], 14), (6, [50], 15)], 5), ([98], [(6, [], 20)], 18)]
set_option maxHeartbeats 16000000 in
set_option maxRecDepth 100000 in
theorem awake10_x (w : World) :
    Calls Tryd.prog 8 #[] w fun e w' => e = .returned (.bool true) ∧ Below w.heap.size w w' := by
  have A1 : Hid (∀ V : World, Calls Tryd.prog 7 #[.slice (some ⟨V.heap.size, 0, none⟩) 20 20] (V.alloc (.cells #[.int .u8 35, .int .u8 32, .int .u8 120, .int .u8 10, .int .u8 10, .int .u8 100, .int .u8 104, .int .u8 99, .int .u8 112, .int .u8 45, .int .u8 97, .int .u8 61, .int .u8 49, .int .u8 44, .int .u8 44, .int .u8 50, .int .u8 13, .int .u8 10, .int .u8 98, .int .u8 61] 5 (20, 21))) fun e w' => (∃ p c, e = .returned (.tuple #[.slice p 2 c, .agg #[.int .i64 0, .int .i64 0]]) ∧ RecW w' p awk10L) ∧ Below V.heap.size V w') := fun V =>
    (parse10_x awk10 (some ⟨V.heap.size, 0, none⟩) 20 _ (bytes_new V awk10 _ _) (by decide) (by decide)).mono fun e w' h => by
      obtain ⟨a, b⟩ := h.yes (L := awk10L) (by kernel_rfl)
      exact ⟨a, below_step (Below.refl _ _) b⟩
  have A2 : Hid (∀ V : World, Calls Tryd.prog 7 #[.slice (some ⟨V.heap.size, 0, none⟩) 6 6] (V.alloc (.cells #[.int .u8 97, .int .u8 61, .int .u8 49, .int .u8 10, .int .u8 97, .int .u8 98] 5 (6, 7))) fun e w' => e = .returned (.tuple #[.slice none 0 0, .agg #[.int .i64 1, .int .i64 6]]) ∧ Below V.heap.size V w') := fun V =>
    (parse10_x [97, 61, 49, 10, 97, 98] (some ⟨V.heap.size, 0, none⟩) 6 _ (bytes_new V [97, 61, 49, 10, 97, 98] _ _) (by decide) (by decide)).mono fun e w' h => by
      obtain ⟨a, b⟩ := h.no (k := 1) (a := 6) (by kernel_rfl)
      exact ⟨a, below_step (Below.refl _ _) b⟩
  have A3 : Hid (∀ V : World, Calls Tryd.prog 7 #[.slice (some ⟨V.heap.size, 0, none⟩) 3 3] (V.alloc (.cells #[.int .u8 65, .int .u8 61, .int .u8 49] 5 (3, 4))) fun e w' => e = .returned (.tuple #[.slice none 0 0, .agg #[.int .i64 1, .int .i64 0]]) ∧ Below V.heap.size V w') := fun V =>
    (parse10_x [65, 61, 49] (some ⟨V.heap.size, 0, none⟩) 3 _ (bytes_new V [65, 61, 49] _ _) (by decide) (by decide)).mono fun e w' h => by
      obtain ⟨a, b⟩ := h.no (k := 1) (a := 0) (by kernel_rfl)
      exact ⟨a, below_step (Below.refl _ _) b⟩
  have A4 : Hid (∀ (V : World) (p : Option Addr) (c : Nat), RecW V p awk10L → Calls Tryd.prog 12 #[.slice p 2 c] V fun e w' => (∃ p q, e = .returned (.slice p 15 q) ∧ BytesAt w' p [100, 104, 99, 112, 45, 97, 61, 49, 44, 44, 50, 10, 98, 61, 10]) ∧ Below V.heap.size V w') := fun V p c hV =>
    (print10_x awk10L p c V hV (by decide)).mono fun e w' h => by
      obtain ⟨hb, p, q, e1, ho⟩ := h
      have hv : printD awk10L = [100, 104, 99, 112, 45, 97, 61, 49, 44, 44, 50, 10, 98, 61, 10] := by kernel_rfl
      rw [hv] at e1 ho
      exact ⟨⟨p, q, e1, bytes_own ho⟩, hb⟩
  have kc := fun (w : World) (C : Array Value) (n c : Nat) => Lib.run_convert_bytes_const (P := Tryd.prog) w 29 5 C n c Tryd.underlying29 Tryd.underlying5
  go_enter Tryd.func8, Tryd.ntmps8
  go_wp2_with fail
  refine (A1.out _).mono ?_
  rintro e w1 ⟨⟨p, c, rfl, ht⟩, hb1⟩
  clear A1
  go_upto_region 2 with fail
  generalize hw2 : w1.alloc _ = w2
  have B2 : Below w.heap.size w w2 := hw2 ▸ ball hb1
  have T2 : RecW w2 p awk10L := hw2 ▸ ht.below (ball (Below.refl _ _))
  have X2 : ErrC w2 w1.heap.size 0 0 := by subst hw2; exact ⟨by simp [go_sem], by simp [go_sem], by simp [go_sem]⟩
  clear hw2 hb1 ht
  generalize w1.heap.size = N1 at *
  go_wp2_with fail
  refine (A2.out _).mono ?_
  rintro e w3 ⟨rfl, hb3⟩
  have B3 := below_next B2 hb3
  have T3 := T2.below hb3
  have X3 := X2.next hb3
  clear A2 B2 T2 X2 hb3
  go_upto_region 3 with fail
  generalize hw4 : w3.alloc _ = w4
  have B4 : Below w.heap.size w w4 := hw4 ▸ ball B3
  have T4 : RecW w4 p awk10L := hw4 ▸ T3.below (ball (Below.refl _ _))
  have X4 : ErrC w4 N1 0 0 := hw4 ▸ X3.next (ball (Below.refl _ _))
  have Y4 : ErrC w4 w3.heap.size 1 6 := by subst hw4; exact ⟨by simp [go_sem], by simp [go_sem], by simp [go_sem]⟩
  clear hw4 B3 T3 X3
  generalize w3.heap.size = N2 at *
  go_wp2_with fail
  refine (A3.out _).mono ?_
  rintro e w5 ⟨rfl, hb5⟩
  have B5 := below_next B4 hb5
  have T5 := T4.below hb5
  have X5 := X4.next hb5
  have Y5 := Y4.next hb5
  clear A3 B4 T4 X4 Y4 hb5 kc
  go_upto_region 4 with fail
  generalize hw6 : w5.alloc _ = w6
  have B6 : Below w.heap.size w w6 := hw6 ▸ ball B5
  have T6 : RecW w6 p awk10L := hw6 ▸ T5.below (ball (Below.refl _ _))
  have X6 : ErrC w6 N1 0 0 := hw6 ▸ X5.next (ball (Below.refl _ _))
  have Y6 : ErrC w6 N2 1 6 := hw6 ▸ Y5.next (ball (Below.refl _ _))
  have Z6 : ErrC w6 w5.heap.size 1 0 := by subst hw6; exact ⟨by simp [go_sem], by simp [go_sem], by simp [go_sem]⟩
  clear hw6 B5 T5 X5 Y5
  generalize w5.heap.size = N3 at *
  have HT := Lib.hid T6
  obtain ⟨g, q, cq, hpe, hg, k0, k1, k2, kT⟩ := T6 0 _ rfl
  obtain ⟨g', q', cq', hpe', hg', k3, k4, k5, kT'⟩ := T6 1 _ rfl
  subst hpe
  cases hpe'
  obtain ⟨g2, hq2, hg2, m0, m1, m2⟩ := kT 2 _ rfl
  subst hq2
  have x0 := X6.c0
  have x1 := X6.c1
  have y0 := Y6.c0
  have y1 := Y6.c1
  have z0 := Z6.c0
  have z1 := Z6.c1
  have q0 : w6.cell? ⟨g, 0, none⟩ = some (.string ⟨#[100, 104, 99, 112, 45, 97]⟩) := k0
  have q1 : w6.cell? ⟨g, 1, none⟩ = some (.slice (some ⟨g2, 0, none⟩) 3 cq) := k1
  have q2 : w6.cell? ⟨g, 2, none⟩ = some (.int .i64 5) := k2
  have q3 : w6.cell? ⟨g, 4, none⟩ = some (.slice q' 1 cq') := k4
  have r0 : w6.cell? ⟨g2, 6, none⟩ = some (.int .i64 6) := m0
  have r1 : w6.cell? ⟨g2, 7, none⟩ = some (.string ⟨#[50]⟩) := m1
  have r2 : w6.cell? ⟨g2, 8, none⟩ = some (.int .i64 15) := m2
  clear k0 k1 k2 k3 k4 k5 m0 m1 m2 kT kT' T6 X6 Y6 Z6
  dsimp only [List.append]
  go_wp2_with fail
  refine (A4.out _ _ _ HT.out).mono ?_
  rintro e w7 ⟨⟨p7, q7, rfl, hb7⟩, hbb⟩
  have B7 := below_next B6 hbb
  have hcv : (convert 29 9 (.slice p7 15 q7)).run Tryd.prog w7 = .ok (.string ⟨#[100, 104, 99, 112, 45, 97, 61, 49, 44, 44, 50, 10, 98, 61, 10]⟩) w7 := conv_bytes q7 hb7
  clear A4 hb7 hbb B6 q0 q1 q2 q3 r0 r1 r2 x0 x1 y0 y1 z0 z1
  go_wp2_with fail
  go_ret
  exact ⟨rfl, B7⟩
/-- What Parse answers, in one form. -/
def outD : DR → List Rw × Nat × Nat
  | .ok L => (L, 0, 0)
  | .bad k a => ([], k, a)
theorem RecW.none (w : World) : RecW w none [] := fun j row hj => by simp at hj
theorem RowsE.out {w w' : World} {l : Bs} {e : Ending} {L : List Rw} {K A : Nat} (h : RowsE w l e w') (ho : outD (rowsV l) = (L, K, A)) : (∃ p c, e = .returned (.tuple #[.slice p L.length c, .agg #[.int .i64 (K : Int), .int .i64 (A : Int)]]) ∧ RecW w' p L ∧ L.length ≤ 1000000) ∧ Below w.heap.size w w' := by
  unfold RowsE at h
  cases ht : rowsV l with
  | ok M =>
    rw [ht] at h ho
    unfold outD at ho
    cases ho
    obtain ⟨⟨p, c, e1, e2, e3⟩, hb⟩ := h
    exact ⟨⟨p, c, e1, e2, e3⟩, hb⟩
  | bad k a =>
    rw [ht] at h ho
    unfold outD at ho
    cases ho
    exact ⟨⟨Option.none, 0, h.1, RecW.none _, Nat.zero_le _⟩, h.2⟩
theorem parse10_s (l : Bs) (V : World) (hl : l.length ≤ 1000000) :
    Calls Tryd.prog 7 #[.slice (some ⟨V.heap.size, 0, none⟩) (baS l).size (grownCap V (baS l).size 0 5)] (Lib.bytesWorld V 5 (baS l)) fun e w' => RowsE V l e w' := by
  rw [baS_size]
  refine (parse10_x l _ _ _ (bytes_conv V l) (grownCap_ge _ _ _ _) hl).mono fun e w' h => ?_
  unfold RowsE at h ⊢
  exact ⟨h.1, below_next (conv_below V l) h.2⟩
end Go.Proofs.YtfmanmidihofgaaDoor
