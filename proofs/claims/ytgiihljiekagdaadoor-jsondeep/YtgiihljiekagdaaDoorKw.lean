/- Package json: a value put behind others. -/
import Derived.Test.YtgiihljiekagdaaDoorKu
import Derived.Maps.AppendAt
import Derived.Deep.RegionHeld3
import Derived.Deep.RegionLaw
import Derived.Deep.DeepCutAuto
namespace Go.Proofs.YtgiihljiekagdaaDoor
open Go.ChangeShapes Go.WideShapes Go.RowKit Go.Sort
theorem infoJ : (Tryd.prog.info? 26).map (fun i => (i.zero, i.size, i.bytes)) = some (some (.agg #[.int .i64 0, .int .i64 0, .string .empty, .slice none 0 0, .slice none 0 0, .int .i64 0]), 6, 88) := by kernel_rfl
def zeroJ : List Value := [.int .i64 0, .int .i64 0, .string { data := #[] }, .slice none 0 0, .slice none 0 0, .int .i64 0]
set_option maxRecDepth 100000 in
/-- A zero value put behind others, at a step of a region that draws its order. -/
theorem stepJ6 {ops : Array Oper} {o : Oper} {a : Act} {K : Act → World → Prop} {Q : Exit → Act → World → Prop} {E : Prop} (w : World) (hgd : o.guard = none) (s x : Operand)
    (ho : o.op = .call { callee := .builtin .append, args := #[s, x], argTypes := #[23, 23] }) (base : Nat) (v : Value) (n : Nat) (cs : List Value) (hs : a.eval s = v) (hown : w.ownsRow base 26 6 v n cs)
    (g : Nat) (hx : a.eval x = .slice (some ⟨g, 0, none⟩) 1 1) (hz : Six w g (.int .i64 0) (.int .i64 0) (.string { data := #[] }) (.slice none 0 0) (.slice none 0 0) (.int .i64 0)) (hlen : n ≤ 1000000) (hbase : base ≤ w.heap.size)
    (h : ∀ g' cap w', w'.ownsRow base 26 6 (.slice (some ⟨g', 0, none⟩) (n + 1) cap) (n + 1) (cs ++ zeroJ) → w.grownBy w' v.ownBlock → (some g' = v.ownBlock ∨ g' = w.heap.size) → K (a.put o.dst (.slice (some ⟨g', 0, none⟩) (n + 1) cap)) w') : if Region.wanted o (yielded ops a.tmps) = true then Oper.wp Tryd.prog o a w K Q else E := by
  have hw : Region.wanted o (yielded ops a.tmps) = true := by simp [Region.wanted, hgd]
  rw [if_pos hw]
  obtain ⟨i0, hi, hz0, hz1, hz2⟩ := info_parts infoJ
  obtain ⟨v', w', hr, hown', hgrow, hnil, hloc⟩ := run_append_own_at (P := Tryd.prog) w base 23 o.type 26 i0 _ 6 88 Tryd.underlying23 hi hz0 hz1 hz2 rfl (by decide) v n cs hown ⟨g, 0, none⟩ 1 1 zeroJ rfl (fun j u hj => by
    have e : ((⟨g, 0, none⟩ : Addr).add j) = ⟨g, j, none⟩ := by unfold Addr.add; split <;> simp_all
    rw [e]
    match j, hj with
    | 0, hj => cases hj; exact hz.k0
    | 1, hj => cases hj; exact hz.k1
    | 2, hj => cases hj; exact hz.k2
    | 3, hj => cases hj; exact hz.k3
    | 4, hj => cases hj; exact hz.k4
    | 5, hj => cases hj; exact hz.k5
    | j + 6, hj => simp [zeroJ] at hj) (fun u hu => by simp [zeroJ] at hu; rcases hu with rfl | rfl | rfl | rfl <;> rfl) (by unfold maxLen; omega) (by omega) hbase
  obtain ⟨g', cap, rfl⟩ : ∃ g' cap, v' = .slice (some ⟨g', 0, none⟩) (n + 1) cap := by
    rcases hown'.2 with ⟨h1, h2⟩ | ⟨g', cap, cur, h1, _⟩
    · omega
    · exact ⟨g', cap, h1⟩
  unfold Oper.wp execOp
  simp only [ho, resolve, invoke, builtin, Sem.run_bind, Sem.run_pure, Result.andThen_ok, List.map_toArray, List.map_cons, List.map_nil, hs, hx, hr]
  exact h g' cap w' hown' hgrow (by rcases hloc with h | h; exact .inl h; exact .inr (by cases h; rfl))
/-- The cells of the last of a row, and what is kept of other blocks. -/
theorem last6 {w : World} {base g n cap : Nat} {cs : List Value} {c0 c1 c2 c3 c4 c5 : Value} (h : w.ownsRow base 26 6 (.slice (some ⟨g, 0, none⟩) (n + 1) cap) (n + 1) (cs ++ [c0, c1, c2, c3, c4, c5])) :
    (w.cell? ⟨g, n * 6, none⟩ = some c0 ∧ w.cell? ⟨g, n * 6 + 1, none⟩ = some c1 ∧ w.cell? ⟨g, n * 6 + 2, none⟩ = some c2 ∧ w.cell? ⟨g, n * 6 + 3, none⟩ = some c3 ∧ w.cell? ⟨g, n * 6 + 4, none⟩ = some c4 ∧ w.cell? ⟨g, n * 6 + 5, none⟩ = some c5) ∧ (∀ o, w.frozen? ⟨g, o, none⟩ = false) ∧ base ≤ g ∧ g < w.heap.size := by
  have hl : cs.length = n * 6 := by have := h.1; simp at this; omega
  have hc : ∀ i (hi : i < 6), w.cell? ⟨g, n * 6 + i, none⟩ = ([c0, c1, c2, c3, c4, c5] : List Value)[i]? := fun i hi => by
    have := h.cellAt (n * 6 + i) (by omega)
    rw [this, List.getElem?_append_right (by omega)]
    congr 1; omega
  refine ⟨⟨hc 0 (by decide), hc 1 (by decide), hc 2 (by decide), hc 3 (by decide), hc 4 (by decide), hc 5 (by decide)⟩, fun o => ?_, ?_⟩
  · rcases h.2 with ⟨hv, _⟩ | ⟨g', cap', cur, hv, _, hg, _⟩
    · cases hv
    · cases hv
      simp [World.frozen?, hg]
  · have := h.lt g rfl
    exact this
theorem own_setat {w : World} {base e size g n cap : Nat} {xs : List Value} (h : w.ownsRow base e size (.slice (some ⟨g, 0, none⟩) n cap) n xs) (o : Nat) (_ho : o < n * size) (u : Value) : (w.setCell ⟨g, o, none⟩ u).ownsRow base e size (.slice (some ⟨g, 0, none⟩) n cap) n (xs.set o u) := by
  obtain ⟨h1, h2⟩ := h
  refine ⟨by simpa using h1, ?_⟩
  rcases h2 with ⟨hv, _⟩ | ⟨g', cap', cur, hv, hb, hg, hn, hm, hs, ht⟩
  · cases hv
  · cases hv
    refine Or.inr ⟨g, cap, cur.setIfInBounds o u, rfl, hb, ?_, hn, hm, by simpa using hs, ?_⟩
    · simp [World.setCell, Array.getElem?_modify, hg]
    · rw [← ht]
      simp [List.take_set]
/-- Six stores into the last of a row. -/
theorem own_put6 {w : World} {base g n cap : Nat} {cs : List Value} {c0 c1 c2 c3 c4 c5 : Value} (h : w.ownsRow base 26 6 (.slice (some ⟨g, 0, none⟩) (n + 1) cap) (n + 1) (cs ++ [c0, c1, c2, c3, c4, c5])) (a0 a1 a2 a3 a4 a5 : Value) :
    ((((((w.setCell ⟨g, n * 6, none⟩ a0).setCell ⟨g, n * 6 + 1, none⟩ a1).setCell ⟨g, n * 6 + 2, none⟩ a2).setCell ⟨g, n * 6 + 3, none⟩ a3).setCell ⟨g, n * 6 + 4, none⟩ a4).setCell ⟨g, n * 6 + 5, none⟩ a5).ownsRow base 26 6 (.slice (some ⟨g, 0, none⟩) (n + 1) cap) (n + 1) (cs ++ [a0, a1, a2, a3, a4, a5]) := by
  have hl : cs.length = n * 6 := by have := h.1; simp at this; omega
  have h6 := own_setat (own_setat (own_setat (own_setat (own_setat (own_setat h (n * 6) (by omega) a0) (n * 6 + 1) (by omega) a1) (n * 6 + 2) (by omega) a2) (n * 6 + 3) (by omega) a3) (n * 6 + 4) (by omega) a4) (n * 6 + 5) (by omega) a5
  have e : ((((((cs ++ [c0, c1, c2, c3, c4, c5]).set (n * 6) a0).set (n * 6 + 1) a1).set (n * 6 + 2) a2).set (n * 6 + 3) a3).set (n * 6 + 4) a4).set (n * 6 + 5) a5 = cs ++ [a0, a1, a2, a3, a4, a5] := by
    rw [← hl]
    simp
  rw [e] at h6
  exact h6
end Go.Proofs.YtgiihljiekagdaaDoor
