/- What a text stands for: one byte put behind others, and the code's own textAt. -/
import Derived.Test.YtfmanmidihofgaaDoorTc
namespace Go.Proofs.YtfmanmidihofgaaDoor
open Go.ChangeShapes Go.WideShapes Go.RowKit Go.Sort
theorem infoB8 : (Tryd.prog.info? 5).map (fun i => (i.zero, i.size, i.bytes)) = some (some (.int .u8 0), 1, 1) := by kernel_rfl
theorem infoK8 : (Tryd.prog.info? 36).map (fun i => (i.zero, i.size, i.bytes)) = some (some (.agg #[.int .i64 0, .string .empty, .int .i64 0]), 3, 32) := by kernel_rfl
theorem cellsB_len (l : Bs) : (cellsB l).length = l.length := by simp [cellsB]
theorem cellsB_snoc (l : Bs) (b : UInt8) : cellsB (l ++ [b]) = cellsB l ++ [.int .u8 (b.toNat : Int)] := by simp [cellsB]
/-- What an append leaves behind. -/
def AppB (w : World) (base : Nat) (l : Bs) (g cap : Nat) (w' : World) : Prop := w'.ownsRow base 5 1 (.slice (some ⟨g, 0, none⟩) l.length cap) l.length (cellsB l) ∧ ∀ B X, B ≤ base → Below B X w → Below B X w'
/-- One byte put behind others. -/
theorem app1 {ops : Array Oper} {rest : List Oper} {o : Oper} {a : Act} {Q : Exit → Act → World → Prop} (w : World) (hgd : o.guard = none) (s x : Operand)
    (ho : o.op = .call { callee := .builtin .append, args := #[s, x], argTypes := #[29, 29] }) (base : Nat) (p : Option Addr) (q : Nat) (acc : Bs) (hs : a.eval s = .slice p acc.length q) (hown : w.ownsRow base 5 1 (.slice p acc.length q) acc.length (cellsB acc))
    (g c : Nat) (u : Int) (b : UInt8) (hb : u = (b.toNat : Int)) (hx : a.eval x = .slice (some ⟨g, 0, none⟩) 1 c) (hnews : w.cell? ⟨g, 0, none⟩ = some (.int .u8 u)) (hlen : acc.length ≤ 1000000) (hbase : base ≤ w.heap.size)
    (h : ∀ g cap w', AppB w base (acc ++ [b]) g cap w' → wpList Tryd.prog ops Q rest (a.put o.dst (.slice (some ⟨g, 0, none⟩) (acc.length + 1) cap)) w') : wpList Tryd.prog ops Q (o :: rest) a w := by
  subst hb
  obtain ⟨i0, hi, hz0, hz1, hz2⟩ := info_parts infoB8
  refine wpList_append_lies w hgd s x 29 ho base 5 i0 (.int .u8 0) 1 1 Tryd.underlying29 hi hz0 hz1 hz2 rfl (by decide) _ _ _ hs hown ⟨g, 0, none⟩ 1 c [.int .u8 (b.toNat : Int)] hx rfl (fun j v hj => ?_) (fun v hv => by simp at hv; subst hv; rfl) (by decide) (by unfold maxLen; omega) (by omega) hbase w.heap.size rfl ?_
  · cases j with
    | zero => simp at hj; subst hj; simpa [Addr.add] using hnews
    | succ j => simp at hj
  · intro g' cap w' hown' hgrow hat hlt
    refine h g' cap w' ⟨?_, fun B X hB hX => hX.grown hgrow (by omega) (fun k hk => Nat.le_trans hB (hown.lt k hk).1)⟩
    rw [cellsB_snoc, List.length_append]
    exact hown'
theorem t_quote {l acc : Bs} {j : Nat} (h : l[j]? = some 34) : txtG acc (l.drop j) j = .inl (acc, j + 1) := by
  rw [drop_cons8 h, txt_quote]
theorem t_end (l acc : Bs) : txtG acc (l.drop l.length) l.length = .inr l.length := by rw [List.drop_length]; rfl
theorem t_esc_end {l acc : Bs} {j : Nat} (h : l[j]? = some 92) (hj : j + 1 = l.length) : txtG acc (l.drop j) j = .inr l.length := by
  rw [drop_cons8 h, hj, List.drop_length]; unfold txtG; rw [if_neg (by decide), if_pos rfl]; simp only [hj]
theorem t_esc {l acc : Bs} {j : Nat} {d : UInt8} (h : l[j]? = some 92) (hd : l[j + 1]? = some d) : txtG acc (l.drop j) j = if escB d then txtG (acc ++ [d]) (l.drop (j + 2)) (j + 2) else .inr (j + 1) := by
  rw [drop_cons8 h, drop_cons8 hd]; conv => lhs; unfold txtG
  rw [if_neg (by decide), if_pos rfl]
  by_cases he : d = 34 ∨ d = 92
  · rw [if_pos (show escB d = true by simp [escB, he])]; simp only [if_pos he]
  · rw [if_neg (show ¬ escB d = true by simp [escB]; simpa using he)]; simp only [if_neg he]
theorem t_go {l acc : Bs} {j : Nat} {b : UInt8} (h : l[j]? = some b) (h1 : b ≠ 34) (h2 : b ≠ 92) : txtG acc (l.drop j) j = if prtB b then txtG (acc ++ [b]) (l.drop (j + 1)) (j + 1) else .inr j := by
  rw [drop_cons8 h]; conv => lhs; unfold txtG
  rw [if_neg h1, if_neg h2]
  by_cases hp : prtB b = true
  · rw [if_pos hp, if_neg (prt_not hp)]
  · rw [if_neg hp, if_pos (Classical.not_not.1 fun e => hp (prt_of e))]
theorem esc_prt {d : UInt8} (h : escB d = true) : prtB d = true := by
  simp [escB] at h; rcases h with rfl | rfl <;> decide
/-- What textAt hands back. -/
def TextE (r : (Bs × Nat) ⊕ Nat) : Value :=
  match r with
  | .inl (s, k) => .tuple #[.string (baS s), .int .i64 (k : Int), .agg #[.int .i64 0, .int .i64 0]]
  | .inr x => .tuple #[.string (baS []), .int .i64 0, .agg #[.int .i64 1, .int .i64 (x : Int)]]
/-- An empty error lies in a block. -/
structure ErrAt (w : World) (B : Nat) : Prop where
  c0 : w.cell? ⟨B, 0, none⟩ = some (.int .i64 0)
  c1 : w.cell? ⟨B, 1, none⟩ = some (.int .i64 0)
  fz : ∀ o, w.frozen? ⟨B, o, none⟩ = false
  lt : B < w.heap.size
theorem ErrAt.next {w w' : World} {B : Nat} (h : ErrAt w B) (hb : Below w.heap.size w w') : ErrAt w' B := by
  obtain ⟨k, f, m⟩ := keepf hb B h.lt
  exact ⟨(k 0).trans h.c0, (k 1).trans h.c1, fun o => (f o).trans (h.fz o), m⟩
theorem errset {w : World} {B : Nat} {u v : Value} {x y : Int} (h0 : w.cell? ⟨B, 0, none⟩ = some u) (h1 : w.cell? ⟨B, 1, none⟩ = some v) :
    ((w.setCell ⟨B, 0, none⟩ (.int .i64 x)).setCell ⟨B, 1, none⟩ (.int .i64 y)).cell? ⟨B, 0, none⟩ = some (.int .i64 x) ∧ ((w.setCell ⟨B, 0, none⟩ (.int .i64 x)).setCell ⟨B, 1, none⟩ (.int .i64 y)).cell? ⟨B, 1, none⟩ = some (.int .i64 y) := set2 h0 h1
end Go.Proofs.YtfmanmidihofgaaDoor
