/- Bytes put behind bytes at a step of a region that draws its order. -/
import Derived.Test.YtfmanmidihofgaaDoorUa
import Derived.Test.YtfmanmidihofgaaDoorXv
import Derived.Maps.AppendAt
namespace Go.Proofs.YtfmanmidihofgaaDoor
open Go.ChangeShapes Go.WideShapes Go.RowKit Go.Sort
set_option maxRecDepth 100000 in
theorem stepS10 {ops : Array Oper} {o : Oper} {a : Act} {K : Act → World → Prop} {Q : Exit → Act → World → Prop} {E : Prop} (w : World) (hgd : o.guard = none) (s x : Operand)
    (ho : o.op = .call { callee := .builtin .append, args := #[s, x], argTypes := #[29, 9] }) (base : Nat) (p : Option Addr) (q : Nat) (acc t : Bs) (hs : a.eval s = .slice p acc.length q) (hown : w.ownsRow base 5 1 (.slice p acc.length q) acc.length (cellsB acc))
    (hx : a.eval x = .string (baS t)) (hlen : acc.length ≤ 1000000) (hlt : t.length ≤ 1000000) (hbase : base ≤ w.heap.size)
    (h : ∀ p' q' w', AppT w base (acc ++ t) p' q' w' → K (a.put o.dst (.slice p' (acc.length + t.length) q')) w') : if Region.wanted o (yielded ops a.tmps) = true then Oper.wp Tryd.prog o a w K Q else E := by
  have hw : Region.wanted o (yielded ops a.tmps) = true := by simp [Region.wanted, hgd]
  rw [if_pos hw]
  obtain ⟨i0, hi, hz0, hz1, hz2⟩ := info_parts infoB8
  have hsz := baS_size t
  obtain ⟨v', w', hr, hown', hgrow, _⟩ := Lib.run_append_own_string (P := Tryd.prog) w base 29 9 o.type 5 i0 Tryd.underlying29 Tryd.underlying9 hi hz0 hz1 hz2 _ _ _ hown (baS t) (by unfold maxLen; omega) (by omega) hbase
  rw [hsz, strCells_is] at hown'
  obtain ⟨p', q', rfl⟩ : ∃ p' q', v' = .slice p' (acc.length + t.length) q' := by
    rcases hown'.2 with ⟨h1, h2⟩ | ⟨g, cap, cur, h1, _⟩
    · exact ⟨none, 0, by rw [h1, h2]⟩
    · exact ⟨some ⟨g, 0, none⟩, cap, h1⟩
  unfold Oper.wp execOp
  simp only [ho, resolve, invoke, builtin, Sem.run_bind, Sem.run_pure, Result.andThen_ok, List.map_toArray, List.map_cons, List.map_nil, hs, hx, hr]
  refine h p' q' w' ⟨?_, fun B X hB hX => hX.grown hgrow (by omega) (fun k hk => Nat.le_trans hB (hown.lt k hk).1)⟩
  rw [List.length_append, show cellsB (acc ++ t) = cellsB acc ++ cellsB t by simp [cellsB]]
  exact hown'
set_option maxRecDepth 100000 in
theorem stepB10 {ops : Array Oper} {o : Oper} {a : Act} {K : Act → World → Prop} {Q : Exit → Act → World → Prop} {E : Prop} (w : World) (hgd : o.guard = none) (s x : Operand)
    (ho : o.op = .call { callee := .builtin .append, args := #[s, x], argTypes := #[29, 29] }) (base : Nat) (p : Option Addr) (q : Nat) (acc : Bs) (ax : Option Addr) (c : Nat) (t : Bs) (hs : a.eval s = .slice p acc.length q) (hown : w.ownsRow base 5 1 (.slice p acc.length q) acc.length (cellsB acc))
    (hx : a.eval x = .slice ax t.length c) (base2 : Nat) (hB : w.ownsRow base2 5 1 (.slice ax t.length c) t.length (cellsB t)) (hlen : acc.length ≤ 1000000) (hlt : t.length ≤ 1000000) (hbase : base ≤ w.heap.size)
    (h : ∀ p' q' w', AppT w base (acc ++ t) p' q' w' → K (a.put o.dst (.slice p' (acc.length + t.length) q')) w') : if Region.wanted o (yielded ops a.tmps) = true then Oper.wp Tryd.prog o a w K Q else E := by
  have hw : Region.wanted o (yielded ops a.tmps) = true := by simp [Region.wanted, hgd]
  rw [if_pos hw]
  obtain ⟨i0, hi, hz0, hz1, hz2⟩ := info_parts infoB8
  have hBt := bytes_own hB
  cases ax with
  | none =>
    have ht : t = [] := by
      cases t with
      | nil => rfl
      | cons a r => obtain ⟨ad, e, _⟩ := hBt 0 a rfl; cases e
    subst ht
    have hc0 : c = 0 := by
      rcases hB.2 with ⟨hv, _⟩ | ⟨g, cap, cur, hv, _⟩
      · injection hv
      · injection hv with e _ _; cases e
    subst hc0
    have hr := run_append_owned_none (P := Tryd.prog) (w := w) base 29 o.type 5 i0 1 Tryd.underlying29 hi _ _ _ hown
    unfold Oper.wp execOp
    simp only [List.length_nil] at hx
    simp only [ho, resolve, invoke, builtin, Sem.run_bind, Sem.run_pure, Result.andThen_ok, List.map_toArray, List.map_cons, List.map_nil, hs, hx, hr]
    exact h p q w ⟨by rw [List.append_nil]; exact hown, fun B X _ hX => hX⟩
  | some ad =>
    obtain ⟨v', w', hr, hown', hgrow, _, _⟩ := run_append_own_at (P := Tryd.prog) w base 29 o.type 5 i0 (.int .u8 0) 1 1 Tryd.underlying29 hi hz0 hz1 hz2 rfl (by decide) _ _ _ hown ad t.length c (cellsB t) (by rw [cellsB_len, Nat.mul_one]) (fun j u hj => by
      unfold cellsB at hj
      rw [List.getElem?_map] at hj
      cases hb : t[j]? with
      | none => rw [hb] at hj; cases hj
      | some b =>
        rw [hb] at hj
        obtain ⟨ad', e, _, hc⟩ := hBt j b hb
        cases e
        simp at hj
        rw [hc, ← hj]) (fun u hu => by
      unfold cellsB at hu
      obtain ⟨b, _, rfl⟩ := List.mem_map.1 hu
      rfl) (by unfold maxLen; omega) (by omega) hbase
    obtain ⟨p', q', rfl⟩ : ∃ p' q', v' = .slice p' (acc.length + t.length) q' := by
      rcases hown'.2 with ⟨h1, h2⟩ | ⟨g, cap, cur, h1, _⟩
      · exact ⟨none, 0, by rw [h1, h2]⟩
      · exact ⟨some ⟨g, 0, none⟩, cap, h1⟩
    unfold Oper.wp execOp
    simp only [ho, resolve, invoke, builtin, Sem.run_bind, Sem.run_pure, Result.andThen_ok, List.map_toArray, List.map_cons, List.map_nil, hs, hx, hr]
    refine h p' q' w' ⟨?_, fun B X hB hX => hX.grown hgrow (by omega) (fun k hk => Nat.le_trans hB (hown.lt k hk).1)⟩
    rw [List.length_append, show cellsB (acc ++ t) = cellsB acc ++ cellsB t by simp [cellsB]]
    exact hown'
/-- An empty row of bytes that was just made. -/
theorem emptyB10 (w : World) (base : Nat) (hb : base ≤ w.heap.size) : (w.alloc (.cells #[] 5)).ownsRow base 5 1 (.slice (some ⟨w.heap.size, 0, none⟩) 0 0) 0 (cellsB []) :=
  ⟨rfl, Or.inr ⟨w.heap.size, 0, #[], rfl, hb, heap_new10 w _, Nat.le_refl _, Nat.zero_le _, rfl, rfl⟩⟩
/-- The rows of the third tongue, sliced. -/
theorem sizeRow (w : World) : (Go.sizeOf (Tryd.prog.elem 24)).run Tryd.prog w = .ok 3 w := by kernel_rfl
theorem underRow : Tryd.prog.underlying 24 = some (.slice (Tryd.prog.elem 24)) := by kernel_rfl
theorem rowsTo (g n c k : Nat) (hk : k ≤ c) (V : World) : (Instr.slice 24 (.slice (some ⟨g, 0, none⟩) n c) none (some (.int .i64 (k : Int))) none).run Tryd.prog V = .ok (.slice (some ⟨g, 0, none⟩) k c) V := by
  rw [run_slice_h V 24 (some ⟨g, 0, none⟩) n c underRow .i64 k (by omega) (by omega), sizeRow]
  simp [Result.andThen, sliced, Addr.add]
theorem rowsFrom (g n c k : Nat) (hk : k ≤ n) (hc : k < c) (V : World) : (Instr.slice 24 (.slice (some ⟨g, 0, none⟩) n c) (some (.int .i64 (k : Int))) none none).run Tryd.prog V = .ok (.slice (some ⟨g, k * 3, none⟩) (n - k) (c - k)) V := by
  rw [run_slice_l V 24 (some ⟨g, 0, none⟩) n c underRow .i64 k (by omega) (by omega), sizeRow]
  have : c ≠ k := by omega
  by_cases hk0 : k = 0
  · subst hk0; simp [Result.andThen, sliced, Addr.add]
  · have h3 : ¬ k * 3 = 0 := by omega
    simp [Result.andThen, sliced, Addr.add, this, h3]
end Go.Proofs.YtfmanmidihofgaaDoor
