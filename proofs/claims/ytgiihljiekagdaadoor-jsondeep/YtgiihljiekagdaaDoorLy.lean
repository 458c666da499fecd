/- JsonDeep: what its texts and its calls answer. -/
import Derived.Test.YtgiihljiekagdaaDoorLw
import Derived.Test.YtgiihljiekagdaaDoorJd
namespace Go.Proofs.YtgiihljiekagdaaDoor
open Go.ChangeShapes Go.WideShapes Go.RowKit Go.Sort
theorem i64_and511 (n : Int) : bits .and .i64 n 511 = n % 512 := by
  have h255 : (BitVec.ofInt 64 511).toNat = 2 ^ 9 - 1 := by decide
  have h : (BitVec.ofInt 64 n &&& BitVec.ofInt 64 511).toNat = (n % ((2 ^ 64 : Nat) : Int)).toNat % 2 ^ 9 := by
    rw [BitVec.toNat_and, BitVec.toNat_ofInt, h255, Nat.and_two_pow_sub_one_eq_mod]
  show IntKind.i64.wrap ((BitVec.ofInt 64 n &&& BitVec.ofInt 64 511).toNat : Nat) = n % 512
  rw [h, IntKind.wrap_i64]
  omega
theorem i64_and127 (n : Int) : bits .and .i64 n 127 = n % 128 := by
  have h255 : (BitVec.ofInt 64 127).toNat = 2 ^ 7 - 1 := by decide
  have h : (BitVec.ofInt 64 n &&& BitVec.ofInt 64 127).toNat = (n % ((2 ^ 64 : Nat) : Int)).toNat % 2 ^ 7 := by
    rw [BitVec.toNat_and, BitVec.toNat_ofInt, h255, Nat.and_two_pow_sub_one_eq_mod]
  show IntKind.i64.wrap ((BitVec.ofInt 64 n &&& BitVec.ofInt 64 127).toNat : Nat) = n % 128
  rw [h, IntKind.wrap_i64]
  omega
/-- The text of signs x. -/
def longX (j : Nat) : Bs := 91 :: 34 :: List.replicate j 120
theorem longX_len (j : Nat) : (longX j).length = j + 2 := by simp [longX]
theorem longX_snoc (j : Nat) : longX j ++ [120] = longX (j + 1) := by
  unfold longX
  rw [List.replicate_succ', List.cons_append, List.cons_append]
theorem openM_len (d : Nat) : (openM d).length = 5 * d := by
  induction d with
  | zero => rfl
  | succ d ih => rw [openM, List.length_append, ih]; simp [unitM]; omega
theorem openM_snoc (d : Nat) : openM d ++ unitM = openM (d + 1) := by
  rw [openM_add d 1]; rfl
/-- The first call, where the text is read. -/
def Ok1 (V : World) (e : Ending) (w' : World) : Prop := Below V.heap.size V w' ∧ ∃ (kx xx : Int) (tx : Bs) (pl : Option Addr) (nl cl : Nat) (pq : Option Addr) (nq cq : Nat) (ax : Int), e = .returned (.tuple #[.agg #[.int .i64 kx, .int .i64 xx, .string (baS tx), .slice pl nl cl, .slice pq nq cq, .int .i64 ax], .agg #[.int .i64 0, .int .i64 0]])
theorem ok1 {l : Bs} {V w' : World} {e : Ending} (h : ParP l V e w') {v : Js} (hv : jsonV l = .ok v) : Ok1 V e w' := by
  obtain ⟨⟨u, h1, h2⟩, h3⟩ := h.yes hv
  obtain ⟨k, x, t, q, p, a⟩ := v
  obtain ⟨pl, pq, cl, cq, rfl, _⟩ := h2
  exact ⟨h3, _, _, _, _, _, _, _, _, _, _, h1⟩
/-- The second call, where the text is read. -/
def Ok2 (k : Nat) (V : World) (e : Ending) (w' : World) : Prop := Below V.heap.size V w' ∧ ∃ (g o cl : Nat) (pq : Option Addr) (cq : Nat), e = .returned (.tuple #[.agg #[.int .i64 6, .int .i64 0, .string ⟨#[]⟩, .slice (some ⟨g, o, none⟩) 1 cl, .slice pq 0 cq, .int .i64 0], .agg #[.int .i64 0, .int .i64 0]]) ∧ 1 ≤ cl ∧ g < w'.heap.size ∧ w'.cell? ⟨g, o + 2, none⟩ = some (.string (baS (List.replicate k 120)))
theorem ok2 {l : Bs} {V w' : World} {e : Ending} (h : ParP l V e w') {k : Nat} (hv : jsonV l = .ok (.mk 6 0 [] [.mk 5 0 (List.replicate k 120) [] [] 1] [] 0)) : Ok2 k V e w' := by
  obtain ⟨⟨u, h1, h2⟩, h3⟩ := h.yes hv
  obtain ⟨pl, pq, cl, cq, rfl, hc, _, _, hr⟩ := h2
  obtain ⟨g, o, c0, c1, c2, c3, c4, c5, rfl, hS, k0, k1, k2, k3, k4, k5, hu⟩ := hr 0 _ rfl
  obtain ⟨pl3, pq3, cl3, cq3, e2, _⟩ := hu
  simp only [aggJ, Value.agg.injEq, Array.mk.injEq, List.cons.injEq, and_true] at e2
  obtain ⟨rfl, rfl, rfl, rfl, rfl, rfl⟩ := e2
  exact ⟨h3, g, o, cl, pq, cq, h1, hc, hS.2, k2⟩
end Go.Proofs.YtgiihljiekagdaaDoor
