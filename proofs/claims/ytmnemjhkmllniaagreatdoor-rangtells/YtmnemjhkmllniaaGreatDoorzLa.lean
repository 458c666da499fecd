/- The laws' own small check 'awake', and what Parse, Print and Next answer at addresses that lie in memory. -/
import Derived.Test.YtmnemjhkmllniaaGreatDoorzTp
namespace Go.Proofs.YtmnemjhkmllniaaGreatDoor
open Go.ChangeShapes Go.WideShapes Go.RowKit Go.Sort

/-- An address lies in block b. -/
structure Ad (w : World) (b : Nat) (v : Int) (x : Nat) : Prop where
  c0 : w.cell? ⟨b, 0, none⟩ = some (.int .i64 v)
  c1 : w.cell? ⟨b, 1, none⟩ = some (.int .u64 (hiQ x))
  c2 : w.cell? ⟨b, 2, none⟩ = some (.int .u64 (loQ x))
  lt : b < w.heap.size
theorem Ad.below {w w' : World} {b : Nat} {v : Int} {x : Nat} (h : Ad w b v x) (hb : Below w.heap.size w w') : Ad w' b v x := by
  obtain ⟨k, l⟩ := keep hb b h.lt
  exact ⟨(k 0).trans h.c0, (k 1).trans h.c1, (k 2).trans h.c2, l⟩
theorem Ad.alloc {w : World} {b : Nat} {v : Int} {x : Nat} (h : Ad w b v x) (o : Obj) : Ad (w.alloc o) b v x := h.below ((Below.refl _ _).alloc (Nat.le_refl _) _)
theorem ad_new (w : World) (v : Int) (x : Nat) : Ad (w.alloc (.cells #[.int .i64 v, .int .u64 (hiQ x), .int .u64 (loQ x)] 28)) w.heap.size v x :=
  ⟨by simp [go_sem], by simp [go_sem], by simp [go_sem], by simp⟩
theorem parse_some (s : ByteArray) (v x : Nat) (w : World) (hg : Gl w) (hs : s.size < 4294967281) (h : parseV s.data.toList = some (v, x)) :
    Calls Tryz.prog 33 #[.string s] w fun e w' => e = .returned (.tuple #[.agg #[.int .i64 v, .int .u64 (hiQ x), .int .u64 (loQ x)], .bool true]) ∧ Below w.heap.size w w' := by
  have := parse_x s w hg hs; rw [h] at this; exact this
theorem parse_none (s : ByteArray) (w : World) (hg : Gl w) (hs : s.size < 4294967281) (h : parseV s.data.toList = none) :
    Calls Tryz.prog 33 #[.string s] w fun e w' => e = .returned (.tuple #[.agg #[.int .i64 0, .int .u64 0, .int .u64 0], .bool false]) ∧ Below w.heap.size w w' := by
  have := parse_x s w hg hs; rw [h] at this; exact this
theorem parse_6 (s : ByteArray) (x : Nat) (w : World) (hg : Gl w) (hs : s.size < 4294967281) (h : parseV s.data.toList = some (6, x)) :
    Calls Tryz.prog 33 #[.string s] w fun e w' => e = .returned (.tuple #[.agg #[.int .i64 6, .int .u64 (hiQ x), .int .u64 (loQ x)], .bool true]) ∧ Below w.heap.size w w' := parse_some s 6 x w hg hs h
theorem parse_4 (s : ByteArray) (x : Nat) (w : World) (hg : Gl w) (hs : s.size < 4294967281) (h : parseV s.data.toList = some (4, x)) :
    Calls Tryz.prog 33 #[.string s] w fun e w' => e = .returned (.tuple #[.agg #[.int .i64 4, .int .u64 (hiQ x), .int .u64 (loQ x)], .bool true]) ∧ Below w.heap.size w w' := parse_some s 4 x w hg hs h
theorem print_is (v : Int) (x : Nat) (w : World) (hg : Gl w) (hx : x < 340282366920938463463374607431768211456) (s : ByteArray) (h : baS (tellV v x) = s) :
    Calls Tryz.prog 36 #[.agg #[.int .i64 v, .int .u64 (hiQ x), .int .u64 (loQ x)]] w fun e w' => e = .returned (.string s) ∧ Below w.heap.size w w' := h ▸ print_x v x w hg hx
theorem print_none5 (w : World) (hg : Gl w) :
    Calls Tryz.prog 36 #[.agg #[.int .i64 5, .int .u64 0, .int .u64 0]] w fun e w' => e = .returned (.string ⟨#[]⟩) ∧ Below w.heap.size w w' := print_x 5 0 w hg (by decide)
theorem next_4 (x : Nat) (w : World) (hx : x < 4294967295) :
    Calls Tryz.prog 44 #[.agg #[.int .i64 4, .int .u64 (hiQ x), .int .u64 (loQ x)]] w fun e w' => e = .returned (.tuple #[.agg #[.int .i64 4, .int .u64 (hiQ (x + 1)), .int .u64 (loQ (x + 1))], .bool true]) ∧ Below w.heap.size w w' := by
  have hb : nextB 4 x = true := by simp [nextB, okV, addB]; omega
  have := next_x 4 x w (by omega)
  rw [show nextV 4 x = 4 by simp [nextV, hb], show nextX 4 x = x + 1 by simp [nextX, hb], hb] at this
  exact this
theorem lessA_is (v : Int) (x : Nat) (u : Int) (y : Nat) (w : World) (b : Bool) (h : ltA v x u y = b) :
    Calls Tryz.prog 38 #[.agg #[.int .i64 v, .int .u64 (hiQ x), .int .u64 (loQ x)], .agg #[.int .i64 u, .int .u64 (hiQ y), .int .u64 (loQ y)]] w fun e w' => e = .returned (.bool b) ∧ Below w.heap.size w w' := h ▸ lessA_x v x u y w
end Go.Proofs.YtmnemjhkmllniaaGreatDoor

/- Three cells of an address lie in a block. -/
namespace Go.Proofs.YtmnemjhkmllniaaGreatDoor
open Go.ChangeShapes Go.WideShapes Go.RowKit Go.Sort

/-- Three cells of an address lie in block b. -/
structure Cl (w : World) (b : Nat) (v h l : Int) : Prop where
  c0 : w.cell? ⟨b, 0, none⟩ = some (.int .i64 v)
  c1 : w.cell? ⟨b, 1, none⟩ = some (.int .u64 h)
  c2 : w.cell? ⟨b, 2, none⟩ = some (.int .u64 l)
  lt : b < w.heap.size
theorem Cl.below {w w' : World} {b : Nat} {v h l : Int} (c : Cl w b v h l) (hb : Below w.heap.size w w') : Cl w' b v h l := by
  obtain ⟨k, m⟩ := keep hb b c.lt
  exact ⟨(k 0).trans c.c0, (k 1).trans c.c1, (k 2).trans c.c2, m⟩
theorem Cl.alloc {w : World} {b : Nat} {v h l : Int} (c : Cl w b v h l) (o : Obj) : Cl (w.alloc o) b v h l := c.below ((Below.refl _ _).alloc (Nat.le_refl _) _)
theorem cl_new (w : World) (v h l : Int) : Cl (w.alloc (.cells #[.int .i64 v, .int .u64 h, .int .u64 l] 28)) w.heap.size v h l :=
  ⟨by simp [go_sem], by simp [go_sem], by simp [go_sem], by simp⟩
theorem Ad.cl {w : World} {b : Nat} {v : Int} {x : Nat} (h : Ad w b v x) : Cl w b v (hiQ x) (loQ x) := ⟨h.c0, h.c1, h.c2, h.lt⟩
end Go.Proofs.YtmnemjhkmllniaaGreatDoor
