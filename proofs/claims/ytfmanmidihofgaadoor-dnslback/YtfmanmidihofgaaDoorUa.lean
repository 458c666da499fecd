/- Small facts on memory: bytes that were just laid, an error in a block, bytes put behind bytes, the second writing's Long and syntax. -/
import Derived.Test.YtfmanmidihofgaaDoorTf
import Derived.Test.YtfmanmidihofgaaDoorTl
import Derived.Lib.SlBytesConst
import Derived.Laws.AppendOwnNone
import Derived.Deep.RegionWith
namespace Go.Proofs.YtfmanmidihofgaaDoor
open Go.ChangeShapes Go.WideShapes Go.RowKit Go.Sort
/-- Bytes that were just laid. -/
theorem bytes_new (V : World) (l : Bs) (t : TypeId) (m : Nat × Nat) : BytesAt (V.alloc (.cells (l.map fun b => Value.int .u8 (b.toNat : Int)).toArray t m)) (some ⟨V.heap.size, 0, none⟩) l := fun j b hj => by
  have hlt := (List.getElem?_eq_some_iff.1 hj).1
  refine ⟨_, rfl, by simp [go_sem], ?_⟩
  have e : ((⟨V.heap.size, 0, none⟩ : Addr).add j) = ⟨V.heap.size, j, none⟩ := by
    unfold Addr.add; split <;> simp_all
  rw [e, World.cell?_alloc_mark]
  simp [hj]
/-- An error lies in a block. -/
structure ErrC (w : World) (B : Nat) (x y : Int) : Prop where
  c0 : w.cell? ⟨B, 0, none⟩ = some (.int .i64 x)
  c1 : w.cell? ⟨B, 1, none⟩ = some (.int .i64 y)
  lt : B < w.heap.size
theorem ErrC.next {w w' : World} {B : Nat} {x y : Int} (h : ErrC w B x y) (hb : Below w.heap.size w w') : ErrC w' B x y := by
  obtain ⟨k, m⟩ := keep hb B h.lt
  exact ⟨(k 0).trans h.c0, (k 1).trans h.c1, m⟩
/-- A text's bytes, where '[]byte(s)' laid them. -/
theorem bytes_conv (V : World) (l : Bs) : BytesAt (Lib.bytesWorld V 5 (baS l)) (some ⟨V.heap.size, 0, none⟩) l := fun j b hj => by
  have hlt := (List.getElem?_eq_some_iff.1 hj).1
  refine ⟨_, rfl, by rw [Lib.bytesWorld_size]; simp, ?_⟩
  have e : ((⟨V.heap.size, 0, none⟩ : Addr).add j) = ⟨V.heap.size, j, none⟩ := by
    unfold Addr.add; split <;> simp_all
  rw [e, Lib.bytesWorld_cell V _ _ j (by rw [baS_size]; exact hlt)]
  simp [baS, List.getD, hj]
theorem conv_below (V : World) (l : Bs) : Below V.heap.size V (Lib.bytesWorld V 5 (baS l)) := Joins.below_bytesWorld _ _ _ _ (Nat.le_refl _)
theorem run_v {P : Program} {s : Sem Value} {w w' : World} {v : Value} (h : s.run P w = .ok v w') : (do pure (Next.value (← s)) : Sem Next).run P w = .ok (.value v) w' := by
  simp [go_sem, h]
/-- Bytes put behind bytes. -/
theorem appB {ops : Array Oper} {rest : List Oper} {o : Oper} {a : Act} {Q : Exit → Act → World → Prop} (w : World) (hgd : o.guard = none) (s x : Operand)
    (ho : o.op = .call { callee := .builtin .append, args := #[s, x], argTypes := #[29, 29] }) (base : Nat) (p : Option Addr) (q : Nat) (acc : Bs) (ax : Option Addr) (c : Nat) (t : Bs) (hs : a.eval s = .slice p acc.length q) (hown : w.ownsRow base 5 1 (.slice p acc.length q) acc.length (cellsB acc))
    (hx : a.eval x = .slice ax t.length c) (hc : ax = none → c = 0) (hB : BytesAt w ax t) (hlen : acc.length ≤ 1000000) (hlt : t.length ≤ 1000000) (hbase : base ≤ w.heap.size)
    (h : ∀ p' q' w', AppT w base (acc ++ t) p' q' w' → wpList Tryd.prog ops Q rest (a.put o.dst (.slice p' (acc.length + t.length) q')) w') : wpList Tryd.prog ops Q (o :: rest) a w := by
  obtain ⟨i0, hi, hz0, hz1, hz2⟩ := info_parts infoB8
  cases ax with
  | none =>
    have ht : t = [] := by
      cases t with
      | nil => rfl
      | cons a r => obtain ⟨ad, e, _⟩ := hB 0 a rfl; cases e
    subst ht
    obtain rfl := hc rfl
    refine wpList_append_own_none hgd s x 29 ho base 5 i0 1 Tryd.underlying29 hi _ _ _ hs hown hx ?_
    exact h p q w ⟨by rw [List.append_nil]; exact hown, fun B X _ hX => hX⟩
  | some ad =>
    refine wpList_append_own w hgd s x 29 ho base 5 i0 (.int .u8 0) 1 1 Tryd.underlying29 hi hz0 hz1 hz2 rfl (by decide) _ _ _ hs hown ad t.length c (cellsB t) hx (by rw [cellsB_len, Nat.mul_one]) (fun j u hj => ?_) (fun u hu => ?_) (by unfold maxLen; omega) (by omega) hbase ?_
    · unfold cellsB at hj
      rw [List.getElem?_map] at hj
      cases hb : t[j]? with
      | none => rw [hb] at hj; cases hj
      | some b =>
        rw [hb] at hj
        obtain ⟨ad', e, _, hcell⟩ := hB j b hb
        cases e; cases hj; exact hcell
    · unfold cellsB at hu
      obtain ⟨b, _, rfl⟩ := List.mem_map.1 hu
      rfl
    · intro v' w' hown' hgrow _
      obtain ⟨p', q', rfl⟩ : ∃ p' q', v' = .slice p' (acc.length + t.length) q' := by
        rcases hown'.2 with ⟨h1, h2⟩ | ⟨g, cap, cur, h1, _⟩
        · exact ⟨none, 0, by rw [h1, h2]⟩
        · exact ⟨some ⟨g, 0, none⟩, cap, h1⟩
      refine h p' q' w' ⟨?_, fun B X hB hX => hX.grown hgrow (by omega) (fun k hk => Nat.le_trans hB (hown.lt k hk).1)⟩
      rw [List.length_append, show cellsB (acc ++ t) = cellsB acc ++ cellsB t by simp [cellsB]]
      exact hown'
/-- A text that lies in memory, and is not too long. -/
def Lies8 (V : World) (v : Value) : Prop := ∃ (p : Option Addr) (x : Bs) (q : Nat), v = .slice p x.length q ∧ BytesAt V p x ∧ x.length ≤ q ∧ x.length ≤ 2000
set_option maxHeartbeats 2000000 in
set_option maxRecDepth 100000 in
theorem longR_no (a : Option Addr) (n c : Nat) (w : World) (hn : n ≤ 1000000) :
    Calls Tryd.prog 18 #[.slice a n c] w fun e w' => e = .returned (.tuple #[.agg #[.int .i64 0, .int .i64 0], .bool false]) ∧ Below w.heap.size w w' := by
  go_enter Tryd.func18, Tryd.ntmps18
  go_wp2
  exact bodyPost_ret (v := .tuple #[.agg #[.int .i64 0, .int .i64 0], .bool false]) (by simp [results, Tryd.results18, go_sem]) rfl ⟨rfl, ball (Below.refl _ _)⟩
set_option maxHeartbeats 2000000 in
set_option maxRecDepth 100000 in
theorem syntaxR_x (x : Int) (w : World) :
    Calls Tryd.prog 29 #[.int .i64 x] w fun e w' => e = .returned (.agg #[.int .i64 1, .int .i64 x]) ∧ Below w.heap.size w w' := by
  go_enter Tryd.func29, Tryd.ntmps29
  go_wp2
  exact bodyPost_ret (v := .agg #[.int .i64 1, .int .i64 x]) (by simp [results, Tryd.results29, go_sem]) rfl ⟨rfl, ball (Below.refl _ _)⟩
end Go.Proofs.YtfmanmidihofgaaDoor
