/- Rows of texts: one text put behind others. -/
import Derived.Test.YtcfminkmidaaoaaDoorVk
namespace Go.Proofs.YtcfminkmidaaoaaDoor
open Go.ChangeShapes Go.WideShapes Go.RowKit Go.Sort
theorem infoS9 : (Tryd.prog.info? 9).map (fun i => (i.zero, i.size, i.bytes)) = some (some (.string .empty), 1, 16) := by kernel_rfl
/-- The cells of texts. -/
def cellsS (l : List Bs) : List Value := l.map fun s => .string (baS s)
theorem cellsS_snoc (l : List Bs) (s : Bs) : cellsS (l ++ [s]) = cellsS l ++ [.string (baS s)] := by simp [cellsS]
theorem strK_own {w : World} {base c : Nat} {p : Option Addr} {l : List Bs} (h : w.ownsRow base 9 1 (.slice p l.length c) l.length (cellsS l)) : StrK w p l := fun j s hj => by
  have hlt : j < l.length := (List.getElem?_eq_some_iff.1 hj).1
  have h' := h
  rcases h.2 with ⟨_, h0⟩ | ⟨g, cap, cur, hv, _, hg2, hcap, _⟩
  · omega
  · obtain ⟨rfl, rfl⟩ : p = some ⟨g, 0, none⟩ ∧ c = cap := by injection hv with a _ b; exact ⟨a, b⟩
    refine ⟨g, rfl, (Array.getElem?_eq_some_iff.1 hg2).1, ?_⟩
    rw [h'.cellAt j (by omega)]
    simp [cellsS, hj]
/-- What an append of a text leaves behind. -/
def AppU (w : World) (base : Nat) (l : List Bs) (g cap : Nat) (w' : World) : Prop := w'.ownsRow base 9 1 (.slice (some ⟨g, 0, none⟩) l.length cap) l.length (cellsS l) ∧ ∀ B X, B ≤ base → Below B X w → Below B X w'
/-- One text put behind others. -/
theorem appU {ops : Array Oper} {rest : List Oper} {o : Oper} {a : Act} {Q : Exit → Act → World → Prop} (w : World) (hgd : o.guard = none) (s x : Operand)
    (ho : o.op = .call { callee := .builtin .append, args := #[s, x], argTypes := #[43, 43] }) (base : Nat) (p : Option Addr) (q : Nat) (acc : List Bs) (hs : a.eval s = .slice p acc.length q) (hown : w.ownsRow base 9 1 (.slice p acc.length q) acc.length (cellsS acc))
    (g c : Nat) (t : Bs) (hx : a.eval x = .slice (some ⟨g, 0, none⟩) 1 c) (hnews : w.cell? ⟨g, 0, none⟩ = some (.string (baS t))) (hlen : acc.length ≤ 1000000) (hbase : base ≤ w.heap.size)
    (h : ∀ g cap w', AppU w base (acc ++ [t]) g cap w' → wpList Tryd.prog ops Q rest (a.put o.dst (.slice (some ⟨g, 0, none⟩) (acc.length + 1) cap)) w') : wpList Tryd.prog ops Q (o :: rest) a w := by
  obtain ⟨i0, hi, hz0, hz1, hz2⟩ := info_parts infoS9
  refine wpList_append_lies w hgd s x 43 ho base 9 i0 (.string .empty) 1 16 Tryd.underlying43 hi hz0 hz1 hz2 rfl (by decide) _ _ _ hs hown ⟨g, 0, none⟩ 1 c [.string (baS t)] hx rfl (fun j v hj => ?_) (fun v hv => by simp at hv; subst hv; rfl) (by decide) (by unfold maxLen; omega) (by omega) hbase w.heap.size rfl ?_
  · cases j with
    | zero => simp at hj; subst hj; simpa [Addr.add] using hnews
    | succ j => simp at hj
  · intro g' cap w' hown' hgrow hat hlt
    refine h g' cap w' ⟨?_, fun B X hB hX => hX.grown hgrow (by omega) (fun k hk => Nat.le_trans hB (hown.lt k hk).1)⟩
    rw [cellsS_snoc, List.length_append]
    exact hown'
end Go.Proofs.YtcfminkmidaaoaaDoor
