/- Rows of the third tongue in memory: each row three cells, its parts in a block of their own. -/
import Derived.Test.YtfmanmidihofgaaDoorTk
import Derived.Test.YtfmanmidihofgaaDoorWm
namespace Go.Proofs.YtfmanmidihofgaaDoor
open Go.ChangeShapes Go.WideShapes Go.RowKit Go.Sort
theorem infoW : (Tryd.prog.info? 32).map (fun i => (i.zero, i.size, i.bytes)) = some (some (.agg #[.string .empty, .slice none 0 0, .int .i64 0]), 3, 48) := by kernel_rfl
/-- The three cells of a row. -/
def cellsW (r : Rw) (q : Option Addr) (cq : Nat) : List Value := [.string (baS r.1), .slice q r.2.1.length cq, .int .i64 (r.2.2 : Int)]
/-- Rows that a call has made: the row of rows is its own, the parts lie elsewhere. -/
structure OutW (w : World) (base : Nat) (p : Option Addr) (c : Nat) (L : List Rw) (vs : List Value) : Prop where
  own : w.ownsRow base 32 3 (.slice p L.length c) L.length vs
  len : vs.length = L.length * 3
  each : ∀ (j : Nat) (r : Rw), L[j]? = some r → ∃ q cq, vs[j * 3]? = some (.string (baS r.1)) ∧ vs[j * 3 + 1]? = some (.slice q r.2.1.length cq) ∧ vs[j * 3 + 2]? = some (.int .i64 (r.2.2 : Int)) ∧ TokK w q r.2.1 ∧ ∀ g, q = some ⟨g, 0, none⟩ → base ≤ g ∧ g < w.heap.size ∧ (Value.slice p L.length c).ownBlock ≠ some g
theorem OutW.nil (w : World) (base : Nat) : OutW w base none 0 [] [] := ⟨World.ownsRow_nil _ _ _ _, rfl, fun j row hj => by simp at hj⟩
theorem OutW.below {w w' : World} {base c : Nat} {p : Option Addr} {L : List Rw} {vs : List Value} (h : OutW w base p c L vs) (hb : Below w.heap.size w w') : OutW w' base p c L vs :=
  ⟨own_next h.own hb, h.len, fun j r hj => by
    obtain ⟨q, cq, h1, h2, h3, h4, h5⟩ := h.each j r hj
    exact ⟨q, cq, h1, h2, h3, h4.below hb, fun g hq => ⟨(h5 g hq).1, Nat.lt_of_lt_of_le (h5 g hq).2.1 hb.size, (h5 g hq).2.2⟩⟩⟩
/-- One row more. -/
theorem OutW.snoc {w w' : World} {base c g3 cap cq : Nat} {p q : Option Addr} {L : List Rw} {vs : List Value} {r : Rw} (h : OutW w base p c L vs) (hr : TokK w q r.2.1) (hq : ∀ g, q = some ⟨g, 0, none⟩ → base ≤ g ∧ g < w.heap.size ∧ (Value.slice p L.length c).ownBlock ≠ some g)
    (hown : w'.ownsRow base 32 3 (.slice (some ⟨g3, 0, none⟩) (L ++ [r]).length cap) (L ++ [r]).length (vs ++ cellsW r q cq)) (hg : w.grownBy w' (Value.slice p L.length c).ownBlock) (hat : (Value.slice p L.length c).ownBlock = some g3 ∨ g3 = w.heap.size) :
    OutW w' base (some ⟨g3, 0, none⟩) cap (L ++ [r]) (vs ++ cellsW r q cq) := by
  have hkeep : ∀ g, g < w.heap.size → (Value.slice p L.length c).ownBlock ≠ some g → g < w'.heap.size ∧ ∀ o, w'.cell? ⟨g, o, none⟩ = w.cell? ⟨g, o, none⟩ := fun g hg1 hg2 => by
    obtain ⟨a, _, b⟩ := grown_keep hg g hg1 (fun e => hg2 e.symm)
    exact ⟨b, a⟩
  have hnew : ∀ g, g < w.heap.size → (Value.slice p L.length c).ownBlock ≠ some g → (Value.slice (some ⟨g3, 0, none⟩) (L ++ [r]).length cap).ownBlock ≠ some g := fun g hg1 hg2 he => by
    have : g3 = g := by simpa [Value.ownBlock] using he
    rcases hat with h1 | h1
    · exact hg2 (by rw [h1, this])
    · omega
  have one : ∀ q (s : List Tk), TokK w q s → (∀ g, q = some ⟨g, 0, none⟩ → base ≤ g ∧ g < w.heap.size ∧ (Value.slice p L.length c).ownBlock ≠ some g) → TokK w' q s ∧ ∀ g, q = some ⟨g, 0, none⟩ → base ≤ g ∧ g < w'.heap.size ∧ (Value.slice (some ⟨g3, 0, none⟩) (L ++ [r]).length cap).ownBlock ≠ some g := fun q s h2 h3 =>
    ⟨fun j t hj => by
      obtain ⟨g, e, hg', h0, h1, h4⟩ := h2 j t hj
      obtain ⟨a, b⟩ := hkeep g hg' (h3 g e).2.2
      exact ⟨g, e, a, (b _).trans h0, (b _).trans h1, (b _).trans h4⟩, fun g hq' => ⟨(h3 g hq').1, (hkeep g (h3 g hq').2.1 (h3 g hq').2.2).1, hnew g (h3 g hq').2.1 (h3 g hq').2.2⟩⟩
  refine ⟨hown, by simp [h.len, cellsW]; omega, fun j s hj => ?_⟩
  by_cases hjl : j < L.length
  · rw [List.getElem?_append_left hjl] at hj
    obtain ⟨q', cq', h1, h2, h3, h4, h5⟩ := h.each j s hj
    have hl := h.len
    exact ⟨q', cq', by rw [List.getElem?_append_left (by omega)]; exact h1, by rw [List.getElem?_append_left (by omega)]; exact h2, by rw [List.getElem?_append_left (by omega)]; exact h3, one q' s.2.1 h4 h5⟩
  · have hj2 := (List.getElem?_eq_some_iff.1 hj).1
    simp at hj2
    obtain rfl : j = L.length := by omega
    rw [List.getElem?_append_right (Nat.le_refl _), Nat.sub_self] at hj
    simp at hj
    subst hj
    have hl := h.len
    exact ⟨q, cq, by rw [List.getElem?_append_right (by omega), hl, Nat.sub_self]; rfl, by rw [List.getElem?_append_right (by omega), hl, Nat.add_sub_cancel_left]; rfl, by rw [List.getElem?_append_right (by omega), hl, Nat.add_sub_cancel_left]; rfl, one q r.2.1 hr hq⟩
/-- Rows that can be read. -/
def RecW (w : World) (p : Option Addr) (L : List Rw) : Prop := ∀ (j : Nat) (r : Rw), L[j]? = some r → ∃ g q cq, p = some ⟨g, 0, none⟩ ∧ g < w.heap.size ∧ w.cell? ⟨g, j * 3, none⟩ = some (.string (baS r.1)) ∧ w.cell? ⟨g, j * 3 + 1, none⟩ = some (.slice q r.2.1.length cq) ∧ w.cell? ⟨g, j * 3 + 2, none⟩ = some (.int .i64 (r.2.2 : Int)) ∧ TokK w q r.2.1
theorem RecW.below {w w' : World} {p : Option Addr} {L : List Rw} (h : RecW w p L) (hb : Below w.heap.size w w') : RecW w' p L := fun j row hj => by
  obtain ⟨g, q, cq, e, hg, h0, h1, h2, hr⟩ := h j row hj
  exact ⟨g, q, cq, e, Nat.lt_of_lt_of_le hg hb.size, (olds hb g _ hg).trans h0, (olds hb g _ hg).trans h1, (olds hb g _ hg).trans h2, hr.below hb⟩
theorem OutW.read {w : World} {base c : Nat} {p : Option Addr} {L : List Rw} {vs : List Value} (h : OutW w base p c L vs) : RecW w p L := fun j r hj => by
  obtain ⟨q, cq, h1, h2, h3, h4, _⟩ := h.each j r hj
  have hjl : j < L.length := (List.getElem?_eq_some_iff.1 hj).1
  have h' := h.own
  rcases h.own.2 with ⟨_, h0⟩ | ⟨g, cap, cur, hv, _, hg2, hcap, _⟩
  · omega
  · obtain ⟨rfl, rfl⟩ : p = some ⟨g, 0, none⟩ ∧ c = cap := by injection hv with a _ b; exact ⟨a, b⟩
    refine ⟨g, q, cq, rfl, (Array.getElem?_eq_some_iff.1 hg2).1, ?_, ?_, ?_, h4⟩
    · rw [h'.cellAt (j * 3) (by omega)]; exact h1
    · rw [h'.cellAt (j * 3 + 1) (by omega)]; exact h2
    · rw [h'.cellAt (j * 3 + 2) (by omega)]; exact h3
/-- What was made stays readable where all from a block on stands. -/
theorem OutW.readV {w w' : World} {B base c : Nat} {p : Option Addr} {L : List Rw} {vs : List Value} (h : OutW w base p c L vs) (hB : B ≤ base) (hs : w.heap.size ≤ w'.heap.size) (hc : ∀ g o, B ≤ g → w'.cell? ⟨g, o, none⟩ = w.cell? ⟨g, o, none⟩) : RecW w' p L := fun j r hj => by
  obtain ⟨q, cq, _, h2, _, _, h5⟩ := h.each j r hj
  obtain ⟨g, q', cq', e1, hg, a0, a1, a2, a3⟩ := h.read j r hj
  have hge : base ≤ g := (h.own.lt g (by rw [e1]; rfl)).1
  refine ⟨g, q', cq', e1, by omega, (hc _ _ (by omega)).trans a0, (hc _ _ (by omega)).trans a1, (hc _ _ (by omega)).trans a2, fun k t hk => ?_⟩
  obtain ⟨g2, e2, hg2, b0, b1, b2⟩ := a3 k t hk
  have hq : q' = q := by
    have hjl : j < L.length := (List.getElem?_eq_some_iff.1 hj).1
    have h' := h.own
    rcases h.own.2 with ⟨_, h0⟩ | ⟨g', cap, cur, hv, _, hgg, hcap, _⟩
    · omega
    · obtain ⟨e4, rfl⟩ : p = some ⟨g', 0, none⟩ ∧ c = cap := by injection hv with a _ b; exact ⟨a, b⟩
      rw [e1] at e4
      obtain rfl : g = g' := by injection e4 with e5; injection e5
      subst e1
      have := h'.cellAt (j * 3 + 1) (by omega)
      rw [a1, h2] at this
      injection this with e6; injection e6
  have := (h5 g2 (by rw [← hq]; exact e2)).1
  exact ⟨g2, e2, by omega, (hc _ _ (by omega)).trans b0, (hc _ _ (by omega)).trans b1, (hc _ _ (by omega)).trans b2⟩
/-- What an append of a row leaves behind. -/
def AppW (w : World) (base : Nat) (p : Option Addr) (c : Nat) (L : List Rw) (vs : List Value) (q : Option Addr) (cq : Nat) (r : Rw) (g cap : Nat) (w' : World) : Prop :=
  OutW w' base (some ⟨g, 0, none⟩) cap (L ++ [r]) (vs ++ cellsW r q cq) ∧ w.grownBy w' (Value.slice p L.length c).ownBlock ∧ ∀ B X, B ≤ base → Below B X w → Below B X w'
theorem appW {ops : Array Oper} {rest : List Oper} {o : Oper} {a : Act} {Q : Exit → Act → World → Prop} (w : World) (hgd : o.guard = none) (s x : Operand)
    (ho : o.op = .call { callee := .builtin .append, args := #[s, x], argTypes := #[24, 24] })
    (base : Nat) (p : Option Addr) (c : Nat) (L : List Rw) (vs : List Value) (hs : a.eval s = .slice p L.length c) (hout : OutW w base p c L vs)
    (g c1 : Nat) (q : Option Addr) (cq : Nat) (r : Rw) (hx : a.eval x = .slice (some ⟨g, 0, none⟩) 1 c1) (hnews : ∀ j v, (cellsW r q cq)[j]? = some v → w.cell? ((⟨g, 0, none⟩ : Addr).add j) = some v) (hr : TokK w q r.2.1) (hq : ∀ g, q = some ⟨g, 0, none⟩ → base ≤ g ∧ g < w.heap.size ∧ (Value.slice p L.length c).ownBlock ≠ some g)
    (hlen : L.length ≤ 1000000) (hbase : base ≤ w.heap.size)
    (h : ∀ g cap w', AppW w base p c L vs q cq r g cap w' → wpList Tryd.prog ops Q rest (a.put o.dst (.slice (some ⟨g, 0, none⟩) (L.length + 1) cap)) w') : wpList Tryd.prog ops Q (o :: rest) a w := by
  obtain ⟨i0, hi, hz0, hz1, hz2⟩ := info_parts infoW
  refine wpList_append_lies w hgd s x 24 ho base 32 i0 (.agg #[.string .empty, .slice none 0 0, .int .i64 0]) 3 48 Tryd.underlying24 hi hz0 hz1 hz2 rfl (by decide) _ _ _ hs hout.own ⟨g, 0, none⟩ 1 c1 (cellsW r q cq) hx rfl hnews (fun v hv => by simp [cellsW] at hv; rcases hv with rfl | rfl | rfl <;> rfl) (by decide) (by unfold maxLen; omega) (by omega) hbase w.heap.size rfl ?_
  intro g' cap w' hown' hgrow hat hlt
  refine h g' cap w' ⟨hout.snoc hr hq ?_ hgrow hat, hgrow, fun B X hB hX => hX.grown hgrow (by omega) (fun k hk => Nat.le_trans hB (hout.own.lt k hk).1)⟩
  rw [List.length_append]
  exact hown'
end Go.Proofs.YtfmanmidihofgaaDoor
