/- One row put behind other rows. -/
import Derived.Test.YtcfminkmidaaoaaDoorVk
namespace Go.Proofs.YtcfminkmidaaoaaDoor
open Go.ChangeShapes Go.WideShapes Go.RowKit Go.Sort
/-- What such an append leaves behind. -/
def AppR {α : Type} (R : RowP α) (w : World) (e : TypeId) (base : Nat) (p : Option Addr) (c : Nat) (L : List (List α)) (vs : List Value) (q : Option Addr) (cq : Nat) (row : List α) (g cap : Nat) (w' : World) : Prop :=
  OutP R w' e base (some ⟨g, 0, none⟩) cap (L ++ [row]) (vs ++ [.slice q row.length cq]) ∧ w.grownBy w' (Value.slice p L.length c).ownBlock ∧ ∀ B X, B ≤ base → Below B X w → Below B X w'
theorem appR {α : Type} (R : RowP α) {ops : Array Oper} {rest : List Oper} {o : Oper} {a : Act} {Q : Exit → Act → World → Prop} (w : World) (hgd : o.guard = none) (s x : Operand) (t e : TypeId)
    (ho : o.op = .call { callee := .builtin .append, args := #[s, x], argTypes := #[t, t] }) (ht : Tryd.prog.underlying t = some (.slice e)) (hinfo : (Tryd.prog.info? e).map (fun i => (i.zero, i.size, i.bytes)) = some (some (.slice none 0 0), 1, 24))
    (base : Nat) (p : Option Addr) (c : Nat) (L : List (List α)) (vs : List Value) (hs : a.eval s = .slice p L.length c) (hout : OutP R w e base p c L vs)
    (g c1 : Nat) (q : Option Addr) (cq : Nat) (row : List α) (hx : a.eval x = .slice (some ⟨g, 0, none⟩) 1 c1) (hnews : w.cell? ⟨g, 0, none⟩ = some (.slice q row.length cq)) (hr : R.lies w q row) (hq : ∀ g, q = some ⟨g, 0, none⟩ → g < w.heap.size ∧ (Value.slice p L.length c).ownBlock ≠ some g)
    (hlen : L.length ≤ 1000000) (hbase : base ≤ w.heap.size)
    (h : ∀ g cap w', AppR R w e base p c L vs q cq row g cap w' → wpList Tryd.prog ops Q rest (a.put o.dst (.slice (some ⟨g, 0, none⟩) (L.length + 1) cap)) w') : wpList Tryd.prog ops Q (o :: rest) a w := by
  obtain ⟨i0, hi, hz0, hz1, hz2⟩ := info_parts hinfo
  refine wpList_append_lies w hgd s x t ho base e i0 (.slice none 0 0) 1 24 ht hi hz0 hz1 hz2 rfl (by decide) _ _ _ hs hout.own ⟨g, 0, none⟩ 1 c1 [.slice q row.length cq] hx rfl (fun j v hj => ?_) (fun v hv => by simp at hv; subst hv; rfl) (by decide) (by unfold maxLen; omega) (by omega) hbase w.heap.size rfl ?_
  · cases j with
    | zero => simp at hj; subst hj; simpa [Addr.add] using hnews
    | succ j => simp at hj
  · intro g' cap w' hown' hgrow hat hlt
    refine h g' cap w' ⟨hout.snoc hr hq ?_ hgrow hat, hgrow, fun B X hB hX => hX.grown hgrow (by omega) (fun k hk => Nat.le_trans hB (hout.own.lt k hk).1)⟩
    rw [List.length_append]
    exact hown'
end Go.Proofs.YtcfminkmidaaoaaDoor
