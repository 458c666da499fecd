/- Three cells of an address lie in a block. -/
import Derived.Test.YtehhhjkajabliaaDoorLa
namespace Go.Proofs.YtehhhjkajabliaaDoor
open Go.ChangeShapes Go.WideShapes Go.RowKit Go.Sort

/-- Three cells of an address lie in block b. -/
structure Cl (w : World) (b : Nat) (v h l : Int) : Prop where
  c0 : w.cell? ⟨b, 0, none⟩ = some (.int .i64 v)
  c1 : w.cell? ⟨b, 1, none⟩ = some (.int .u64 h)
  c2 : w.cell? ⟨b, 2, none⟩ = some (.int .u64 l)
  lt : b < w.heap.size
theorem Cl.below {w w' : World} {b : Nat} {v h l : Int} (c : Cl w b v h l) (hb : Below w.heap.size w w') : Cl w' b v h l := by
  obtain ⟨k, m⟩ := keep hb b c.lt
  exact ⟨(k 0).trans c.c0, (k 1).trans c.c1, (k 2).trans c.c2, m⟩
theorem Cl.alloc {w : World} {b : Nat} {v h l : Int} (c : Cl w b v h l) (o : Obj) : Cl (w.alloc o) b v h l := c.below ((Below.refl _ _).alloc (Nat.le_refl _) _)
theorem cl_new (w : World) (v h l : Int) : Cl (w.alloc (.cells #[.int .i64 v, .int .u64 h, .int .u64 l] 28)) w.heap.size v h l :=
  ⟨by simp [go_sem], by simp [go_sem], by simp [go_sem], by simp⟩
theorem Ad.cl {w : World} {b : Nat} {v : Int} {x : Nat} (h : Ad w b v x) : Cl w b v (hiQ x) (loQ x) := ⟨h.c0, h.c1, h.c2, h.lt⟩
end Go.Proofs.YtehhhjkajabliaaDoor
