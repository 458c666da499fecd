/- Numbers in memory, bytes and texts put behind others, and the law's own text of numbers. -/
import Derived.Test.YtfmanmidihofgaaDoorTd
import Derived.Laws.OwnMore
import Derived.Lib.AppendStr
import Derived.Deep.DeepCutAuto
namespace Go.Proofs.YtfmanmidihofgaaDoor
open Go.ChangeShapes Go.WideShapes Go.RowKit Go.Sort
/-- A row of numbers lies in memory. -/
def IntsAt (w : World) (p : Option Addr) (l : List Int) : Prop := ∀ (j : Nat) (z : Int), l[j]? = some z → ∃ ad, p = some ad ∧ ad.block < w.heap.size ∧ w.cell? (ad.add j) = some (.int .i64 z)
theorem IntsAt.below {w w' : World} {p : Option Addr} {l : List Int} (h : IntsAt w p l) (hb : Below w.heap.size w w') : IntsAt w' p l := fun j b hj => by
  obtain ⟨ad, e, hl, hc⟩ := h j b hj
  exact ⟨ad, e, Nat.lt_of_lt_of_le hl hb.size, (hb.cell (p := ad.add j) (by rw [add_block]; exact hl)).trans hc⟩
theorem intsAt_cell {w : World} {ad : Addr} {l : List Int} (h : IntsAt w (some ad) l) (j : Nat) (hj : j < l.length) : w.cell? (ad.add j) = some (.int .i64 (l[j]'hj)) := by
  obtain ⟨ad', e, _, hc⟩ := h j _ (List.getElem?_eq_getElem hj)
  cases e; exact hc
theorem strCells_is (t : Bs) : Lib.strCells (baS t) = cellsB t := rfl
/-- What such an append leaves behind. -/
def AppT (w : World) (base : Nat) (l : Bs) (p : Option Addr) (q : Nat) (w' : World) : Prop := w'.ownsRow base 5 1 (.slice p l.length q) l.length (cellsB l) ∧ ∀ B X, B ≤ base → Below B X w → Below B X w'
/-- A text put behind bytes. -/
theorem appS {ops : Array Oper} {rest : List Oper} {o : Oper} {a : Act} {Q : Exit → Act → World → Prop} (w : World) (hgd : o.guard = none) (s x : Operand)
    (ho : o.op = .call { callee := .builtin .append, args := #[s, x], argTypes := #[29, 9] }) (base : Nat) (p : Option Addr) (q : Nat) (acc t : Bs) (hs : a.eval s = .slice p acc.length q) (hown : w.ownsRow base 5 1 (.slice p acc.length q) acc.length (cellsB acc))
    (hx : a.eval x = .string (baS t)) (hlen : acc.length ≤ 1000000) (hlt : t.length ≤ 1000000) (hbase : base ≤ w.heap.size)
    (h : ∀ p' q' w', AppT w base (acc ++ t) p' q' w' → wpList Tryd.prog ops Q rest (a.put o.dst (.slice p' (acc.length + t.length) q')) w') : wpList Tryd.prog ops Q (o :: rest) a w := by
  obtain ⟨i0, hi, hz0, hz1, hz2⟩ := info_parts infoB8
  have hsz := baS_size t
  refine Lib.wpList_append_own_string w hgd s x 29 9 ho base 5 i0 Tryd.underlying29 Tryd.underlying9 hi hz0 hz1 hz2 _ _ _ hs hown (baS t) hx (by unfold maxLen; omega) (by omega) hbase ?_
  intro v' w' hown' hgrow _
  rw [hsz, strCells_is] at hown'
  obtain ⟨p', q', rfl⟩ : ∃ p' q', v' = .slice p' (acc.length + t.length) q' := by
    rcases hown'.2 with ⟨h1, h2⟩ | ⟨g, cap, cur, h1, _⟩
    · exact ⟨none, 0, by rw [h1, h2]⟩
    · exact ⟨some ⟨g, 0, none⟩, cap, h1⟩
  refine h p' q' w' ⟨?_, fun B X hB hX => hX.grown hgrow (by omega) (fun k hk => Nat.le_trans hB (hown.lt k hk).1)⟩
  rw [List.length_append, show cellsB (acc ++ t) = cellsB acc ++ cellsB t by simp [cellsB]]
  exact hown'
theorem ownsRow_le8 {w : World} {base base' size n : Nat} {e : TypeId} {v : Value} {xs : List Value} (h : w.ownsRow base e size v n xs) (hb : base' ≤ base) : w.ownsRow base' e size v n xs := by
  obtain ⟨h1, h2⟩ := h
  refine ⟨h1, ?_⟩
  rcases h2 with h | ⟨g, cap, cur, a, b, c⟩
  · exact Or.inl h
  · exact Or.inr ⟨g, cap, cur, a, Nat.le_trans hb b, c⟩
theorem str_at8 (l : Bs) (j : Nat) (hj : j < l.length) (w : World) : (Instr.index 9 (.string (baS l)) (.int .i64 (j : Int))).run Tryd.prog w = .ok (.int .u8 ((l[j]'hj).toNat : Int)) w := by
  rw [run_index_string w 9 (baS l) .i64 (j : Int) Tryd.underlying9, dif_pos ⟨by omega, by rw [baS_size]; omega⟩]
  rfl
/-- The pieces, by hand. -/
def pieces8 : List Bs := [[111, 112, 116, 105, 111, 110], [115, 117, 98, 110, 101, 116], [115, 117, 98, 110, 101, 116, 54], [110, 101, 116, 109, 97, 115, 107], [114, 97, 110, 103, 101], [114, 97, 110, 103, 101, 54], [104, 111, 115, 116], [104, 97, 114, 100, 119, 97, 114, 101], [101, 116, 104, 101, 114, 110, 101, 116], [102, 105, 120, 101, 100, 45, 97, 100, 100, 114, 101, 115, 115], [100, 101, 102, 97, 117, 108, 116, 45, 108, 101, 97, 115, 101, 45, 116, 105, 109, 101], [115, 104, 97, 114, 101, 100, 45, 110, 101, 116, 119, 111, 114, 107], [108, 101, 97, 115, 101], [101, 110, 100, 115], [110, 101, 118, 101, 114], [114, 111, 117, 116, 101, 114, 115], [100, 111, 109, 97, 105, 110, 45, 110, 97, 109, 101], [49, 48, 46, 48, 46, 48, 46, 48], [50, 53, 53, 46, 50, 53, 53, 46, 50, 53, 53, 46, 48], [49, 48, 46, 48, 46, 48, 46, 49], [49, 48, 46, 48, 46, 48, 46, 57], [50, 48, 48, 49, 58, 100, 98, 56, 58, 58, 47, 54, 52], [50, 48, 48, 49, 58, 100, 98, 56, 58, 58, 53], [48, 48, 58, 48, 48, 58, 48, 48, 58, 48, 48, 58, 48, 48, 58, 48, 49], [97], [95], [51, 54, 48, 48], [52], [50, 48, 50, 52, 47, 48, 50, 47, 50, 57], [50, 51, 58, 53, 57, 58, 53, 57], [34, 120, 32, 121, 34], [34, 97, 92, 34, 98, 34], [34], [123], [125], [59], [44], [35], [10], [61], [92], [195, 169]]
theorem pieces8_len : ∀ s ∈ pieces8, s.length ≤ 18 := by decide +kernel
theorem strs_new (V : World) (L : List Bs) (t : TypeId) (m : Nat × Nat) (k : Nat) (s : Bs) (hk : L[k]? = some s) : (V.alloc (.cells (L.map fun s => Value.string (baS s)).toArray t m)).cell? ⟨V.heap.size, k, none⟩ = some (.string (baS s)) := by
  rw [World.cell?_alloc_mark]
  simp [hk]
def seps8 : Bs := [32, 10, 9, 32]
theorem i64_and65535 (n : Int) : bits .and .i64 n 65535 = n % 65536 := by
  have h0 : (BitVec.ofInt 64 65535).toNat = 2 ^ 16 - 1 := by decide
  have h : (BitVec.ofInt 64 n &&& BitVec.ofInt 64 65535).toNat = (n % ((2 ^ 64 : Nat) : Int)).toNat % 2 ^ 16 := by
    rw [BitVec.toNat_and, BitVec.toNat_ofInt, h0, Nat.and_two_pow_sub_one_eq_mod]
  show IntKind.i64.wrap ((BitVec.ofInt 64 n &&& BitVec.ofInt 64 65535).toNat : Nat) = n % 65536
  rw [h, IntKind.wrap_i64]
  omega
theorem i64_and3 (n : Int) : bits .and .i64 n 3 = n % 4 := by
  have h0 : (BitVec.ofInt 64 3).toNat = 2 ^ 2 - 1 := by decide
  have h : (BitVec.ofInt 64 n &&& BitVec.ofInt 64 3).toNat = (n % ((2 ^ 64 : Nat) : Int)).toNat % 2 ^ 2 := by
    rw [BitVec.toNat_and, BitVec.toNat_ofInt, h0, Nat.and_two_pow_sub_one_eq_mod]
  show IntKind.i64.wrap ((BitVec.ofInt 64 n &&& BitVec.ofInt 64 3).toNat : Nat) = n % 4
  rw [h, IntKind.wrap_i64]
  omega
def kZ (z : Int) : Nat := (z % 65536 % 42).toNat
def sZ (z : Int) : Nat := (z / 65536 % 4).toNat
theorem kZ_is (z : Int) : (bits BinOp.and IntKind.i64 z 65535).tmod 42 = (kZ z : Int) ∧ kZ z < 42 := by
  rw [i64_and65535, Int.tmod_eq_emod_of_nonneg (by omega)]
  unfold kZ; omega
theorem sZ_is (z : Int) : bits BinOp.and IntKind.i64 (z / 65536) 3 = (sZ z : Int) ∧ sZ z < 4 := by
  rw [i64_and3]
  unfold sZ; omega
/-- What one number says. -/
def unitZ (z : Int) : Bs := pieces8.getD (kZ z) [] ++ [seps8.getD (sZ z) 0]
def textZ (zs : List Int) : Bs := (zs.take 60).flatMap unitZ
theorem textZ_snoc {zs : List Int} {j : Nat} {z : Int} (h : zs[j]? = some z) : (zs.take (j + 1)).flatMap unitZ = (zs.take j).flatMap unitZ ++ unitZ z := by
  rw [List.take_add_one, h, List.flatMap_append]; simp
/-- What Text hands back. -/
def TextZE (w : World) (l : Bs) (e : Ending) (w' : World) : Prop := Below w.heap.size w w' ∧ ∃ p q, e = .returned (.slice p l.length q) ∧ w'.ownsRow w.heap.size 5 1 (.slice p l.length q) l.length (cellsB l)
theorem own_cap {w : World} {base q : Nat} {p : Option Addr} {l : Bs} (h : w.ownsRow base 5 1 (.slice p l.length q) l.length (cellsB l)) : l.length ≤ q := by
  rcases h.2 with ⟨hv, h0⟩ | ⟨g, cap, cur, hv, _, hg, hcap, _⟩
  · omega
  · injection hv with _ _ e; subst e; omega
theorem unitZ_len (z : Int) : (unitZ z).length ≤ 19 ∧ (pieces8.getD (kZ z) []).length ≤ 18 := by
  have : (pieces8.getD (kZ z) []).length ≤ 18 := by
    rw [List.getD_eq_getElem?_getD]
    rcases Nat.lt_or_ge (kZ z) pieces8.length with h | h
    · rw [List.getElem?_eq_getElem h]; exact pieces8_len _ (List.getElem_mem h)
    · rw [List.getElem?_eq_none h]; simp
  unfold unitZ
  rw [List.length_append]
  exact ⟨by simp only [List.length_cons, List.length_nil]; omega, this⟩
theorem textZ_len (zs : List Int) : (textZ zs).length ≤ 1140 := by
  have : ∀ (q : List Int), (q.flatMap unitZ).length ≤ 19 * q.length := by
    intro q
    induction q with
    | nil => simp
    | cons a r ih => rw [List.flatMap_cons, List.length_append, List.length_cons]; have := (unitZ_len a).1; omega
  have h := this (zs.take 60)
  unfold textZ
  rw [List.length_take] at h
  omega
end Go.Proofs.YtfmanmidihofgaaDoor
