/- All signs of a text: the code's own Tokens. -/
import Derived.Test.YtfmanmidihofgaaDoorTe
namespace Go.Proofs.YtfmanmidihofgaaDoor
open Go.ChangeShapes Go.WideShapes Go.RowKit Go.Sort
/-- What Tokens hands back. -/
def TokensE (w : World) (l : Bs) (e : Ending) (w' : World) : Prop :=
  (match tokV l with
    | .ok L => ∃ p c, e = .returned (.tuple #[.slice p L.length c, .agg #[.int .i64 0, .int .i64 0]]) ∧ TokK w' p L ∧ L.length ≤ l.length
    | .bad k a => e = .returned (.tuple #[.slice none 0 0, .agg #[.int .i64 (k : Int), .int .i64 (a : Int)]])) ∧ Below w.heap.size w w'
theorem TokensE.ok {w w' : World} {l : Bs} {L : List Tk} {p : Option Addr} {c : Nat} (h : tokV l = .ok L) (ht : TokK w' p L) (hl : L.length ≤ l.length) (hb : Below w.heap.size w w') : TokensE w l (.returned (.tuple #[.slice p L.length c, .agg #[.int .i64 0, .int .i64 0]])) w' := by
  unfold TokensE; rw [h]; exact ⟨⟨p, c, rfl, ht, hl⟩, hb⟩
theorem TokensE.bad {w w' : World} {l : Bs} {k a : Nat} (h : tokV l = .bad k a) (hb : Below w.heap.size w w') : TokensE w l (.returned (.tuple #[.slice none 0 0, .agg #[.int .i64 (k : Int), .int .i64 (a : Int)]])) w' := by
  unfold TokensE; rw [h]; exact ⟨rfl, hb⟩
theorem err_plain {w w3 W : World} {B A : Nat} (hE : ErrAt w B) (hA : Below A W w) (hB : A ≤ B) {x y : Int}
    (h : (w.setCell ⟨B, 0, none⟩ (.int .i64 x)).setCell ⟨B, 1, none⟩ (.int .i64 y) = w3) : w3.cell? ⟨B, 0, none⟩ = some (.int .i64 x) ∧ w3.cell? ⟨B, 1, none⟩ = some (.int .i64 y) ∧ Below A W w3 := by
  obtain ⟨a, b⟩ := errset (x := x) (y := y) hE.c0 hE.c1
  have c := (hA.setCell (p := ⟨B, 0, none⟩) hB (.int .i64 x)).setCell (p := ⟨B, 1, none⟩) hB (.int .i64 y)
  subst h
  exact ⟨a, b, c⟩
theorem err_any {w w3 W : World} {B A : Nat} (hE : ErrAt w B) (hA : Below A W w) (hB : A ≤ B) {x y : Int}
    (h : ((w.setCell ⟨B, 0, none⟩ (.int .i64 x)).setCell ⟨B, 1, none⟩ (.int .i64 y)).drew = w3) : w3.cell? ⟨B, 0, none⟩ = some (.int .i64 x) ∧ w3.cell? ⟨B, 1, none⟩ = some (.int .i64 y) ∧ Below A W w3 := by
  obtain ⟨a, b, c⟩ := err_plain hE hA hB (x := x) (y := y) rfl
  subst h
  simp only [drew_cell]
  exact ⟨a, b, c.drew⟩
theorem three8 {w : World} {a b c : Value} {t : TypeId} : ∀ (j : Nat) (x : Value), [a, b, c][j]? = some x → (w.alloc (.cells #[a, b, c] t)).cell? ((⟨w.heap.size, 0, none⟩ : Addr).add j) = some x := by
  intro j x hj
  match j, hj with
  | 0, hj => simp at hj; subst hj; simp [Addr.add]
  | 1, hj => simp at hj; subst hj; simp [Addr.add]
  | 2, hj => simp at hj; subst hj; simp [Addr.add]
/-- What an append of signs leaves behind. -/
def AppK (w : World) (base : Nat) (l : List Tk) (g cap : Nat) (w' : World) : Prop := w'.ownsRow base 36 3 (.slice (some ⟨g, 0, none⟩) l.length cap) l.length (l.flatMap cellsK) ∧ ∀ B X, B ≤ base → Below B X w → Below B X w'
/-- One sign put behind others. -/
theorem appK {ops : Array Oper} {rest : List Oper} {o : Oper} {a : Act} {Q : Exit → Act → World → Prop} (w : World) (hgd : o.guard = none) (s x : Operand)
    (ho : o.op = .call { callee := .builtin .append, args := #[s, x], argTypes := #[30, 30] }) (base : Nat) (p : Option Addr) (q : Nat) (acc : List Tk) (hs : a.eval s = .slice p acc.length q) (hown : w.ownsRow base 36 3 (.slice p acc.length q) acc.length (acc.flatMap cellsK))
    (g c : Nat) (t : Tk) (hx : a.eval x = .slice (some ⟨g, 0, none⟩) 1 c) (hnews : ∀ j u, (cellsK t)[j]? = some u → w.cell? ((⟨g, 0, none⟩ : Addr).add j) = some u) (hlen : acc.length ≤ 1000000) (hbase : base ≤ w.heap.size)
    (h : ∀ g cap w', AppK w base (acc ++ [t]) g cap w' → wpList Tryd.prog ops Q rest (a.put o.dst (.slice (some ⟨g, 0, none⟩) (acc.length + 1) cap)) w') : wpList Tryd.prog ops Q (o :: rest) a w := by
  obtain ⟨i0, hi, hz0, hz1, hz2⟩ := info_parts infoK8
  refine wpList_append_lies w hgd s x 30 ho base 36 i0 (.agg #[.int .i64 0, .string .empty, .int .i64 0]) 3 32 Tryd.underlying30 hi hz0 hz1 hz2 rfl (by decide) _ _ _ hs hown ⟨g, 0, none⟩ 1 c (cellsK t) hx rfl hnews (fun v hv => by simp [cellsK] at hv; rcases hv with rfl | rfl | rfl <;> rfl) (by decide) (by unfold maxLen; omega) (by omega) hbase w.heap.size rfl ?_
  intro g' cap w' hown' hgrow hat hlt
  refine h g' cap w' ⟨?_, fun B X hB hX => hX.grown hgrow (by omega) (fun k hk => Nat.le_trans hB (hown.lt k hk).1)⟩
  rw [List.length_append, List.flatMap_append]
  simpa using hown'
end Go.Proofs.YtfmanmidihofgaaDoor
