/- What the document fixes of package isct: the law's own check answers true. -/
import Derived.Test.YtbbaeipobgomdaaTf
import Derived.Test.YtbbaeipobgomdaaTi
import Derived.Lib.SlBytesConst
namespace Go.Proofs.Ytbbaeipobgomdaa
open Go.ChangeShapes Go.WideShapes Go.RowKit Go.Sort
/-- Bytes that were just laid. -/
theorem bytes_new (V : World) (l : Bs) (t : TypeId) (m : Nat × Nat) : BytesAt (V.alloc (.cells (l.map fun b => Value.int .u8 (b.toNat : Int)).toArray t m)) (some ⟨V.heap.size, 0, none⟩) l := fun j b hj => by
  have hlt := (List.getElem?_eq_some_iff.1 hj).1
  refine ⟨_, rfl, by simp [go_sem], ?_⟩
  have e : ((⟨V.heap.size, 0, none⟩ : Addr).add j) = ⟨V.heap.size, j, none⟩ := by
    unfold Addr.add; split <;> simp_all
  rw [e, World.cell?_alloc_mark]
  simp [hj]
/-- An error lies in a block. -/
structure ErrC (w : World) (B : Nat) (x y : Int) : Prop where
  c0 : w.cell? ⟨B, 0, none⟩ = some (.int .i64 x)
  c1 : w.cell? ⟨B, 1, none⟩ = some (.int .i64 y)
  lt : B < w.heap.size
theorem ErrC.next {w w' : World} {B : Nat} {x y : Int} (h : ErrC w B x y) (hb : Below w.heap.size w w') : ErrC w' B x y := by
  obtain ⟨k, m⟩ := keep hb B h.lt
  exact ⟨(k 0).trans h.c0, (k 1).trans h.c1, m⟩
theorem TokensE.yes {w w' : World} {l : Bs} {L : List Tk} {e : Ending} (h : TokensE w l e w') (ht : tokV l = .ok L) : (∃ p c, e = .returned (.tuple #[.slice p L.length c, .agg #[.int .i64 0, .int .i64 0]]) ∧ TokK w' p L) ∧ Below w.heap.size w w' := by
  unfold TokensE at h; rw [ht] at h
  obtain ⟨⟨p, c, e1, e2, _⟩, e3⟩ := h
  exact ⟨⟨p, c, e1, e2⟩, e3⟩
theorem TokensE.no {w w' : World} {l : Bs} {k a : Nat} {e : Ending} (h : TokensE w l e w') (ht : tokV l = .bad k a) : e = .returned (.tuple #[.slice none 0 0, .agg #[.int .i64 (k : Int), .int .i64 (a : Int)]]) ∧ Below w.heap.size w w' := by
  unfold TokensE at h; rw [ht] at h; exact h
def awk1 : Bs := [97, 98, 47, 49, 32, 123, 32, 34, 120, 92, 34, 121, 34, 59, 32, 35, 32, 122, 10, 125]
def awk1L : List Tk := [(2, [97, 98, 47, 49], 0), (4, [123], 5), (3, [120, 34, 121], 7), (4, [59], 13), (4, [125], 19)]
set_option maxHeartbeats 8000000 in
set_option maxRecDepth 100000 in
theorem awake8_x (w : World) :
    Calls Try.prog 8 #[] w fun e w' => e = .returned (.bool true) ∧ Below w.heap.size w w' := by
  have A1 : Hid (∀ V : World, Calls Try.prog 7 #[.slice (some ⟨V.heap.size, 0, none⟩) 20 20] (V.alloc (.cells #[.int .u8 97, .int .u8 98, .int .u8 47, .int .u8 49, .int .u8 32, .int .u8 123, .int .u8 32, .int .u8 34, .int .u8 120, .int .u8 92, .int .u8 34, .int .u8 121, .int .u8 34, .int .u8 59, .int .u8 32, .int .u8 35, .int .u8 32, .int .u8 122, .int .u8 10, .int .u8 125] 5 (20, 21))) fun e w' => (∃ p c, e = .returned (.tuple #[.slice p 5 c, .agg #[.int .i64 0, .int .i64 0]]) ∧ TokK w' p awk1L) ∧ Below V.heap.size V w') := fun V =>
    (tokens_x awk1 (some ⟨V.heap.size, 0, none⟩) 20 _ (bytes_new V awk1 _ _) (by decide) (by decide)).mono fun e w' h => by
      obtain ⟨a, b⟩ := h.yes (L := awk1L) (by kernel_rfl)
      exact ⟨a, below_step (Below.refl _ _) b⟩
  have A2 : Hid (∀ V : World, Calls Try.prog 7 #[.slice (some ⟨V.heap.size, 0, none⟩) 4 4] (V.alloc (.cells #[.int .u8 97, .int .u8 32, .int .u8 34, .int .u8 98] 5 (4, 5))) fun e w' => e = .returned (.tuple #[.slice none 0 0, .agg #[.int .i64 1, .int .i64 4]]) ∧ Below V.heap.size V w') := fun V =>
    (tokens_x [97, 32, 34, 98] (some ⟨V.heap.size, 0, none⟩) 4 _ (bytes_new V [97, 32, 34, 98] _ _) (by decide) (by decide)).mono fun e w' h => by
      obtain ⟨a, b⟩ := h.no (k := 1) (a := 4) (by kernel_rfl)
      exact ⟨a, below_step (Below.refl _ _) b⟩
  have A3 : Hid (∀ V : World, Calls Try.prog 7 #[.slice (some ⟨V.heap.size, 0, none⟩) 4 4] (V.alloc (.cells #[.int .u8 97, .int .u8 32, .int .u8 61, .int .u8 98] 5 (4, 5))) fun e w' => e = .returned (.tuple #[.slice none 0 0, .agg #[.int .i64 1, .int .i64 2]]) ∧ Below V.heap.size V w') := fun V =>
    (tokens_x [97, 32, 61, 98] (some ⟨V.heap.size, 0, none⟩) 4 _ (bytes_new V [97, 32, 61, 98] _ _) (by decide) (by decide)).mono fun e w' h => by
      obtain ⟨a, b⟩ := h.no (k := 1) (a := 2) (by kernel_rfl)
      exact ⟨a, below_step (Below.refl _ _) b⟩
  have A4 : Hid (∀ V : World, Calls Try.prog 12 #[.string ⟨#[97, 34, 98, 92, 10]⟩] V fun e w' => e = .returned (.string ⟨#[34, 97, 92, 34, 98, 92, 92, 34]⟩) ∧ Below V.heap.size V w') := fun V => quote_x [97, 34, 98, 92, 10] V (by decide)
  have kc := fun (w : World) (C : Array Value) (n c : Nat) => Lib.run_convert_bytes_const (P := Try.prog) w 29 5 C n c Try.underlying29 Try.underlying5
  go_enter Try.func8, Try.ntmps8
  go_wp2_with fail
  refine (A1.out _).mono ?_
  rintro e w1 ⟨⟨p, c, rfl, ht⟩, hb1⟩
  clear A1
  go_upto_region 2 with fail
  generalize hw2 : w1.alloc _ = w2
  have B2 : Below w.heap.size w w2 := hw2 ▸ ball hb1
  have T2 : TokK w2 p awk1L := hw2 ▸ ht.below (ball (Below.refl _ _))
  have X2 : ErrC w2 w1.heap.size 0 0 := by subst hw2; exact ⟨by simp [go_sem], by simp [go_sem], by simp [go_sem]⟩
  clear hw2 hb1 ht
  generalize w1.heap.size = N1 at *
  go_wp2_with fail
  refine (A2.out _).mono ?_
  rintro e w3 ⟨rfl, hb3⟩
  have B3 := below_next B2 hb3
  have T3 := T2.below hb3
  have X3 := X2.next hb3
  clear A2 B2 T2 X2 hb3
  go_upto_region 3 with fail
  generalize hw4 : w3.alloc _ = w4
  have B4 : Below w.heap.size w w4 := hw4 ▸ ball B3
  have T4 : TokK w4 p awk1L := hw4 ▸ T3.below (ball (Below.refl _ _))
  have X4 : ErrC w4 N1 0 0 := hw4 ▸ X3.next (ball (Below.refl _ _))
  have Y4 : ErrC w4 w3.heap.size 1 4 := by subst hw4; exact ⟨by simp [go_sem], by simp [go_sem], by simp [go_sem]⟩
  clear hw4 B3 T3 X3
  generalize w3.heap.size = N2 at *
  go_wp2_with fail
  refine (A3.out _).mono ?_
  rintro e w5 ⟨rfl, hb5⟩
  have B5 := below_next B4 hb5
  have T5 := T4.below hb5
  have X5 := X4.next hb5
  have Y5 := Y4.next hb5
  clear A3 B4 T4 X4 Y4 hb5 kc
  go_upto_region 4 with fail
  generalize hw6 : w5.alloc _ = w6
  have B6 : Below w.heap.size w w6 := hw6 ▸ ball B5
  have T6 : TokK w6 p awk1L := hw6 ▸ T5.below (ball (Below.refl _ _))
  have X6 : ErrC w6 N1 0 0 := hw6 ▸ X5.next (ball (Below.refl _ _))
  have Y6 : ErrC w6 N2 1 4 := hw6 ▸ Y5.next (ball (Below.refl _ _))
  have Z6 : ErrC w6 w5.heap.size 1 2 := by subst hw6; exact ⟨by simp [go_sem], by simp [go_sem], by simp [go_sem]⟩
  clear hw6 B5 T5 X5 Y5
  generalize w5.heap.size = N3 at *
  obtain ⟨g, rfl, _, _, k0, _⟩ := T6 0 _ rfl
  obtain ⟨_, e2, _, k2, k3, _⟩ := T6 2 _ rfl
  cases e2
  obtain ⟨_, e4, _, _, _, k4⟩ := T6 4 _ rfl
  cases e4
  have q0 : w6.cell? ⟨g, 1, none⟩ = some (.string ⟨#[97, 98, 47, 49]⟩) := k0
  have q2 : w6.cell? ⟨g, 6, none⟩ = some (.int .i64 3) := k2
  have q3 : w6.cell? ⟨g, 7, none⟩ = some (.string ⟨#[120, 34, 121]⟩) := k3
  have q4 : w6.cell? ⟨g, 14, none⟩ = some (.int .i64 19) := k4
  clear k0 k2 k3 k4
  have x0 := X6.c0
  have x1 := X6.c1
  have y0 := Y6.c0
  have y1 := Y6.c1
  have z0 := Z6.c0
  have z1 := Z6.c1
  clear T6 X6 Y6 Z6
  go_wp2_with fail
  refine (A4.out _).mono ?_
  rintro e w7 ⟨rfl, hb7⟩
  have B7 := below_next B6 hb7
  go_wp2
  go_ret
  exact ⟨rfl, B7⟩
end Go.Proofs.Ytbbaeipobgomdaa
