/- What single operations of a drawn region leave, in any frame. -/
import Derived.Test.YtjoiedomdliadaaDoorOo
import Derived.Test.YtjoiedomdliadaaDoorDd
namespace Go.Proofs.YtjoiedomdliadaaDoor
open Go.ChangeShapes Go.WideShapes Go.RowKit Go.Sort

theorem x_conv {a : Act} {o : Oper} {x : Operand} {v r : Value} (ho : o.op = .convert 35 9 x) (hx : a.eval x = v) {w : World} (h : (convert 35 9 v).run Tryd.prog w = .ok r w) : (execOp a.eval o).run Tryd.prog w = .ok (.value r) w := by
  unfold execOp; rw [ho]; simp only; rw [hx]; exact run_v h
theorem x_build {a : Act} {o : Oper} {x y : Operand} {p q : ByteArray} (ho : o.op = .build 37 #[(0, x), (1, y)]) (hx : a.eval x = .string p) (hy : a.eval y = .string q) (w : World) : (execOp a.eval o).run Tryd.prog w = .ok (.value (.agg #[.string p, .string q])) w := by
  unfold execOp; rw [ho]; simp only [List.map_toArray, List.map_cons, List.map_nil]; rw [hx, hy]; exact run_v (by kernel_rfl)
theorem x_sliceTo {a : Act} {o : Oper} {x y : Operand} {s : Bs} {k : Nat} (ho : o.op = .slice 9 x none (some y) none) (hx : a.eval x = .string (baS s)) (hy : a.eval y = .int .i64 (k : Int)) (hk : k ≤ s.length) (w : World) : (execOp a.eval o).run Tryd.prog w = .ok (.value (.string (baS (s.take k)))) w := by
  unfold execOp; rw [ho]; simp only [Option.map_some, Option.map_none]; rw [hx, hy]; exact run_v (sliceTo s k hk w)
theorem x_sliceFrom {a : Act} {o : Oper} {x y : Operand} {s : Bs} {k : Nat} (ho : o.op = .slice 9 x (some y) none none) (hx : a.eval x = .string (baS s)) (hy : a.eval y = .int .i64 ((k : Int) + 1)) (hk : k < s.length) (w : World) : (execOp a.eval o).run Tryd.prog w = .ok (.value (.string (baS (s.drop (k + 1))))) w := by
  unfold execOp; rw [ho]; simp only [Option.map_some, Option.map_none]; rw [hx, hy]; exact run_v (sliceFrom s (k + 1) hk w)
theorem x_one {a : Act} {o : Oper} {x : Operand} {c : UInt8} (ho : o.op = .buildSlice 35 1 #[(0, x)]) (hx : a.eval x = .int .u8 c.toNat) (w : World) : (execOp a.eval o).run Tryd.prog w = .ok (.value (.slice (some ⟨w.heap.size, 0, none⟩) 1 1)) (w.alloc (.cells #[.int .u8 c.toNat] 5)) := by
  unfold execOp; rw [ho]; simp only [List.map_toArray, List.map_cons, List.map_nil]; rw [hx]; exact run_v (by kernel_rfl)
theorem x_addS {a : Act} {o : Oper} {x y : Operand} {s t : Bs} (ho : o.op = .binOp .add 9 x y 9) (hx : a.eval x = .string (baS s)) (hy : a.eval y = .string (baS t)) (h1 : s.length ≤ 1000) (h2 : t.length ≤ 1000) (w : World) : (execOp a.eval o).run Tryd.prog w = .ok (.value (.string (baS (s ++ t)))) w := by
  unfold execOp; rw [ho]; simp only; rw [hx, hy]
  exact run_v (addS s t (by omega) (by omega) w)
theorem x_add1 {a : Act} {o : Oper} {x : Operand} {k : Nat} (ho : o.op = .binOp .add 3 x (.const (.int .i64 1)) 3) (hx : a.eval x = .int .i64 (k : Int)) (hk : k ≤ 100) (w : World) : (execOp a.eval o).run Tryd.prog w = .ok (.value (.int .i64 ((k : Int) + 1))) w := by
  have hw : IntKind.i64.wrap ((k : Int) + 1) = (k : Int) + 1 := by rw [IntKind.wrap_i64]; omega
  unfold execOp; rw [ho]; simp only; rw [hx]
  refine run_v (v := .int .i64 ((k : Int) + 1)) ?_
  conv => rhs; rw [← hw]
  kernel_rfl
theorem x_rem {a : Act} {o : Oper} {x : Operand} {c : Nat} (ho : o.op = .binOp .rem 5 x (.const (.int .u8 10)) 5) (hx : a.eval x = .int .u8 (c : Int)) (hc : c < 256) (w : World) : (execOp a.eval o).run Tryd.prog w = .ok (.value (.int .u8 ((c % 10 : Nat) : Int))) w := by
  have h10 : a.eval (.const (.int .u8 10)) = .int .u8 10 := rfl
  have ht : ((c : Int)).tmod 10 = ((c % 10 : Nat) : Int) := by rw [Int.tmod_eq_emod_of_nonneg (by omega)]; omega
  unfold execOp; rw [ho]; simp only; rw [hx, h10]
  refine run_v ?_
  simp [go_sem, ht]
theorem x_add48 {a : Act} {o : Oper} {x : Operand} {c : Nat} (ho : o.op = .binOp .add 5 (.const (.int .u8 48)) x 5) (hx : a.eval x = .int .u8 (c : Int)) (hc : c < 10) (w : World) : (execOp a.eval o).run Tryd.prog w = .ok (.value (.int .u8 ((dC c).toNat : Nat))) w := by
  have hw : IntKind.u8.wrap (48 + (c : Int)) = (((dC c).toNat : Nat) : Int) := by rw [dC_nat hc, IntKind.wrap_u8]; omega
  unfold execOp; rw [ho]; simp only; rw [hx]
  refine run_v ?_
  rw [← hw]
  kernel_rfl
theorem x_row7 {a : Act} {o : Oper} {x0 x1 x2 x3 x4 x5 x6 : Operand} {p0 q0 p1 q1 p2 q2 p3 q3 p4 q4 p5 q5 p6 q6 : ByteArray} (ho : o.op = .buildSlice 38 7 #[(0, x0), (1, x1), (2, x2), (3, x3), (4, x4), (5, x5), (6, x6)])
    (h0 : a.eval x0 = .agg #[.string p0, .string q0]) (h1 : a.eval x1 = .agg #[.string p1, .string q1]) (h2 : a.eval x2 = .agg #[.string p2, .string q2]) (h3 : a.eval x3 = .agg #[.string p3, .string q3]) (h4 : a.eval x4 = .agg #[.string p4, .string q4]) (h5 : a.eval x5 = .agg #[.string p5, .string q5]) (h6 : a.eval x6 = .agg #[.string p6, .string q6]) (w : World) :
    (execOp a.eval o).run Tryd.prog w = .ok (.value (.slice (some ⟨w.heap.size, 0, none⟩) 7 7)) (w.alloc (.cells #[.string p0, .string q0, .string p1, .string q1, .string p2, .string q2, .string p3, .string q3, .string p4, .string q4, .string p5, .string q5, .string p6, .string q6] 37)) := by
  unfold execOp; rw [ho]; simp only [List.map_toArray, List.map_cons, List.map_nil]; rw [h0, h1, h2, h3, h4, h5, h6]; exact run_v (by kernel_rfl)
theorem x_row6 {a : Act} {o : Oper} {x0 x1 x2 x3 x4 x5 : Operand} {p0 p1 p2 p3 p4 p5 : ByteArray} (ho : o.op = .buildSlice 39 6 #[(0, x0), (1, x1), (2, x2), (3, x3), (4, x4), (5, x5)])
    (h0 : a.eval x0 = .string p0) (h1 : a.eval x1 = .string p1) (h2 : a.eval x2 = .string p2) (h3 : a.eval x3 = .string p3) (h4 : a.eval x4 = .string p4) (h5 : a.eval x5 = .string p5) (w : World) :
    (execOp a.eval o).run Tryd.prog w = .ok (.value (.slice (some ⟨w.heap.size, 0, none⟩) 6 6)) (w.alloc (.cells #[.string p0, .string p1, .string p2, .string p3, .string p4, .string p5] 9)) := by
  unfold execOp; rw [ho]; simp only [List.map_toArray, List.map_cons, List.map_nil]; rw [h0, h1, h2, h3, h4, h5]; exact run_v (by kernel_rfl)
theorem x_len {a : Act} {o : Oper} {s : Nat} {T E : TypeId} {q : Option Addr} {n : Nat} (hT : ∀ w, (underlying T).run Tryd.prog w = .ok (.slice E) w) (ho : o.op = .call { callee := .builtin .len, args := #[.tmp s], argTypes := #[T] }) (hx : a.eval (.tmp s) = .slice q n n) (w : World) : (execOp a.eval o).run Tryd.prog w = .ok (.value (.int .i64 (n : Int))) w := by
  have hx' : a.tmps[s]?.getD undef = .slice q n n := by simpa [Act.eval] using hx
  unfold execOp; rw [ho]; simp [go_sem, hx', Builtin.len_, hT]
theorem x_move {a : Act} {o : Oper} {x : Operand} {v : Value} (ho : o.op = .move x) (hx : a.eval x = v) (w : World) : (execOp a.eval o).run Tryd.prog w = .ok (.value v) w := by
  unfold execOp; rw [ho]; simp only; rw [hx]; rfl
theorem sp_eqv {base : Nat} {l : List SpK} {s : Nat} {x v : Value} {w : World} (hl : l.getD (s - base) (.eqv undef) = .eqv x) (h : v = x) : spOf base l s v w := by unfold spOf; rw [hl]; exact h
theorem sp_get {base : Nat} {l : List SpK} {s : Nat} {x v : Value} {w : World} (hl : l.getD (s - base) (.eqv undef) = .eqv x) (h : spOf base l s v w) : v = x := by unfold spOf at h; rw [hl] at h; exact h
theorem sp_one {base : Nat} {l : List SpK} {s : Nat} {c : UInt8} {v : Value} {w : World} (hl : l.getD (s - base) (.eqv undef) = .one c) (h : spOf base l s v w) : ∃ G, v = .slice (some ⟨G, 0, none⟩) 1 1 ∧ G < w.heap.size ∧ w.cell? ⟨G, 0, none⟩ = some (.int .u8 c.toNat) := by unfold spOf at h; rw [hl] at h; exact h
theorem sp_one_new {base : Nat} {l : List SpK} {s : Nat} {c : UInt8} {w : World} {T : TypeId} (hl : l.getD (s - base) (.eqv undef) = .one c) : spOf base l s (.slice (some ⟨w.heap.size, 0, none⟩) 1 1) (w.alloc (.cells #[.int .u8 c.toNat] T)) := by
  unfold spOf; rw [hl]; exact ⟨w.heap.size, rfl, by simp, by simp [go_sem]⟩
theorem byteG (V : World) (g : Nat) (c : UInt8) (h : V.cell? ⟨g, 0, none⟩ = some (.int .u8 c.toNat)) : (convert 35 9 (.slice (some ⟨g, 0, none⟩) 1 1)).run Tryd.prog V = .ok (.string (baS [c])) V := by
  refine run_convert_bytes_back (P := Tryd.prog) _ 35 9 5 ⟨g, 0, none⟩ 1 [c] Tryd.underlying35 Tryd.underlying5 Tryd.underlying9 (fun j hj => ?_)
  obtain rfl : j = 0 := by simpa using hj
  exact h
end Go.Proofs.YtjoiedomdliadaaDoor
