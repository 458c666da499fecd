/- What the document fixes of package json: the law's own check answers true. -/
import Derived.Test.YtgiihljiekagdaaDoorLu
namespace Go.Proofs.YtgiihljiekagdaaDoor
open Go.ChangeShapes Go.WideShapes Go.RowKit Go.Sort
/-- An error that lies in memory. -/
structure ErrC (w : World) (B : Nat) (x y : Int) : Prop where
  c0 : w.cell? ⟨B, 0, none⟩ = some (.int .i64 x)
  c1 : w.cell? ⟨B, 1, none⟩ = some (.int .i64 y)
  lt : B < w.heap.size
theorem ErrC.next {w w' : World} {B : Nat} {x y : Int} (h : ErrC w B x y) (hb : Below w.heap.size w w') : ErrC w' B x y := by
  obtain ⟨k, m⟩ := keep hb B h.lt
  exact ⟨(k 0).trans h.c0, (k 1).trans h.c1, m⟩
/-- A text's bytes, where '[]byte(s)' laid them. -/
theorem bytes_conv (V : World) (l : Bs) : BytesAt (Lib.bytesWorld V 5 (baS l)) (some ⟨V.heap.size, 0, none⟩) l := fun j b hj => by
  have hlt := (List.getElem?_eq_some_iff.1 hj).1
  refine ⟨_, rfl, by rw [Lib.bytesWorld_size]; simp, ?_⟩
  have e : ((⟨V.heap.size, 0, none⟩ : Addr).add j) = ⟨V.heap.size, j, none⟩ := by
    unfold Addr.add; split <;> simp_all
  rw [e, Lib.bytesWorld_cell V _ _ j (by rw [baS_size]; exact hlt)]
  simp [baS, List.getD, hj]
theorem conv_below (V : World) (l : Bs) : Below V.heap.size V (Lib.bytesWorld V 5 (baS l)) := Joins.below_bytesWorld _ _ _ _ (Nat.le_refl _)
theorem ParP.mono {l : Bs} {V w : World} {e : Ending} {w' : World} (hb : Below V.heap.size V w) (h : ParP l w e w') : ParP l V e w' := by
  obtain ⟨h1, h2⟩ := h
  refine ⟨below_next hb h1, ?_⟩
  rcases h2 with ⟨x, v, q1, q2, q3⟩ | h
  · exact .inl ⟨x, v, q1, q2, q3.keep fun g hg => ⟨⟨Nat.le_trans hb.size hg.1, hg.2⟩, fun _ => rfl⟩⟩
  · exact .inr h
/-- Bytes that were just made of a text. -/
theorem parse_s (l : Bs) (V : World) (hl : l.length ≤ 1000000) (hg : Gl V) :
    Calls Tryd.prog 8 #[.slice (some ⟨V.heap.size, 0, none⟩) (baS l).size (grownCap V (baS l).size 0 5)] (Lib.bytesWorld V 5 (baS l)) fun e w' => ParP l V e w' := by
  rw [baS_size]
  have hb := conv_below V l
  exact (parse_x (bytes_conv V l) (grownCap_ge _ _ _ _) hl (by rw [Lib.bytesWorld_size]; simp) (hg.below hb) (Nat.le_trans hg.lt hb.size)).mono fun e w' h => h.mono hb
/-- Bytes that the program's text lays. -/
theorem parse_c (l : Bs) (V : World) (m : Nat × Nat) (hl : l.length ≤ 1000000) (hg : Gl V) :
    Calls Tryd.prog 8 #[.slice (some ⟨V.heap.size, 0, none⟩) l.length l.length] (V.alloc (.cells (l.map fun b => Value.int .u8 (b.toNat : Int)).toArray 5 m)) fun e w' => ParP l V e w' := by
  have hb : Below V.heap.size V (V.alloc (.cells (l.map fun b => Value.int .u8 (b.toNat : Int)).toArray 5 m)) := ball (Below.refl _ _)
  exact (parse_x (bytes_new V l _ m) (Nat.le_refl _) hl (by simp) (hg.below hb) (Nat.le_trans hg.lt hb.size)).mono fun e w' h => h.mono hb
theorem ParP.no {l : Bs} {w w' : World} {e : Ending} {k a : Nat} (h : ParP l w e w') (hv : jsonV l = .bad k a) : e = .returned (.tuple #[.agg #[.int .i64 0, .int .i64 0, .string { data := #[] }, .slice none 0 0, .slice none 0 0, .int .i64 0], .agg #[.int .i64 (k : Int), .int .i64 (a : Int)]]) ∧ Below w.heap.size w w' := by
  obtain ⟨h1, h2⟩ := h
  rcases h2 with ⟨x, v, q1, q2, q3⟩ | ⟨k2, a2, q1, q2⟩
  · rw [hv] at q1; cases q1
  · rw [hv] at q1; cases q1; exact ⟨q2, h1⟩
theorem ParP.yes {l : Bs} {w w' : World} {e : Ending} {x : Js} (h : ParP l w e w') (hv : jsonV l = .ok x) : (∃ v, e = .returned (.tuple #[v, .agg #[.int .i64 0, .int .i64 0]]) ∧ JAt 65 w' (Mid w.heap.size w'.heap.size) v x) ∧ Below w.heap.size w w' := by
  obtain ⟨h1, h2⟩ := h
  rcases h2 with ⟨x, v, q1, q2, q3⟩ | ⟨k2, a2, q1, q2⟩
  · rw [hv] at q1; cases q1; exact ⟨⟨v, q2, q3⟩, h1⟩
  · rw [hv] at q1; cases q1
def awk11 : Bs := [32, 123, 34, 97, 34, 58, 32, 91, 49, 44, 32, 45, 50, 44, 32, 116, 114, 117, 101, 93, 32, 47, 42, 32, 120, 32, 42, 47, 44, 32, 34, 98, 34, 58, 34, 92, 117, 48, 48, 101, 57, 92, 117, 100, 56, 51, 100, 92, 117, 100, 101, 48, 48, 34, 125, 35]
def awk11V : Js := .mk 7 0 [] [.mk 6 0 [] [.mk 4 1 [] [] [] 8, .mk 4 (-2) [] [] [] 11, .mk 3 0 [] [] [] 15] [] 7, .mk 5 0 [195, 169, 240, 159, 152, 128] [] [] 34] [[97], [98]] 1
theorem awk11_is : jsonV awk11 = .ok awk11V := by kernel_rfl
theorem awk11_1 : jsonV [91, 49, 44, 93] = .bad 1 3 := by kernel_rfl
theorem awk11_2 : jsonV [123, 34, 97, 34, 58, 49, 44, 34, 97, 34, 58, 50, 125] = .bad 3 7 := by kernel_rfl
theorem awk11_3 : jsonV [91, 48, 49, 93] = .bad 1 1 := by kernel_rfl
theorem awk11_4 : jsonV [34, 92, 117, 100, 56, 51, 100, 34] = .bad 1 1 := by kernel_rfl
/-- What the law asks of the first. -/
structure Awk (w : World) (g o g2 o2 : Nat) : Prop where
  k3 : w.cell? ⟨g, o + 8, none⟩ = some (.string ⟨#[195, 169, 240, 159, 152, 128]⟩)
  kl : ∃ c2, 3 ≤ c2 ∧ w.cell? ⟨g, o + 3, none⟩ = some (.slice (some ⟨g2, o2, none⟩) 3 c2)
  kn : w.cell? ⟨g2, o2 + 7, none⟩ = some (.int .i64 (-2))
  lt : g < w.heap.size
  lt2 : g2 < w.heap.size
theorem Awk.next {w w' : World} {g o g2 o2 : Nat} (h : Awk w g o g2 o2) (hb : Below w.heap.size w w') : Awk w' g o g2 o2 := by
  obtain ⟨k, m⟩ := keep hb g h.lt
  obtain ⟨k2, m2⟩ := keep hb g2 h.lt2
  obtain ⟨c2, h1, h2⟩ := h.kl
  exact ⟨(k _).trans h.k3, ⟨c2, h1, (k _).trans h2⟩, (k2 _).trans h.kn, m, m2⟩
theorem awk_of {w : World} {a : Nat} {v : Value} (h : JAt 65 w (Mid a w.heap.size) v awk11V) : ∃ g o g2 o2 cl pq cq, v = .agg #[.int .i64 7, .int .i64 0, .string ⟨#[]⟩, .slice (some ⟨g, o, none⟩) 2 cl, .slice pq 2 cq, .int .i64 1] ∧ 2 ≤ cl ∧ Awk w g o g2 o2 := by
  obtain ⟨pl, pq, cl, cq, rfl, h1, h2, _, hr⟩ := h
  obtain ⟨g, o, c0, c1, c2, c3, c4, c5, rfl, hS, k0, k1, k2, k3, k4, k5, hu⟩ := hr 0 _ rfl
  obtain ⟨g', o', d0, d1, d2, d3, d4, d5, he, _, m0, m1, m2, m3, m4, m5, hu2⟩ := hr 1 _ rfl
  cases he
  obtain ⟨pl2, pq2, cl2, cq2, e1, h3, _, _, hr2⟩ := hu
  obtain ⟨pl3, pq3, cl3, cq3, e2, _⟩ := hu2
  obtain ⟨g2, o2, f0, f1, f2, f3, f4, f5, rfl, hS2, n0, n1, n2, n3, n4, n5, hu3⟩ := hr2 1 _ rfl
  obtain ⟨pl4, pq4, cl4, cq4, e3, _⟩ := hu3
  simp only [aggJ, Value.agg.injEq, Array.mk.injEq, List.cons.injEq, and_true] at e1 e2 e3
  obtain ⟨rfl, rfl, rfl, rfl, rfl, rfl⟩ := e1
  obtain ⟨rfl, rfl, rfl, rfl, rfl, rfl⟩ := e2
  obtain ⟨rfl, rfl, rfl, rfl, rfl, rfl⟩ := e3
  exact ⟨g, o, g2, o2, cl, pq, cq, rfl, h1, ⟨m2, ⟨cl2, h3, k3⟩, n1, hS.2, hS2.2⟩⟩
end Go.Proofs.YtgiihljiekagdaaDoor
