/- What the laws that hold the program against the second writing share: bytes in memory as a string; the ways their texts are told. -/
import Derived.Laws.BytesArg
import Derived.Test.YtmnemjhkmllniaaGreatDoorzYh
import Derived.Test.YtmnemjhkmllniaaGreatDoorzRw
import Derived.Test.YtmnemjhkmllniaaGreatDoorzAw3
namespace Go.Proofs.YtmnemjhkmllniaaGreatDoor
open Go.ChangeShapes Go.WideShapes Go.RowKit Go.Sort

/-- A row of bytes lies in memory. -/
def BytesAt (w : World) (p : Option Addr) (l : Bs) : Prop := ∀ (j : Nat) (b : UInt8), l[j]? = some b → ∃ ad, p = some ad ∧ ad.block < w.heap.size ∧ w.cell? (ad.add j) = some (.int .u8 (b.toNat : Int))
theorem BytesAt.below {w w' : World} {p : Option Addr} {l : Bs} (h : BytesAt w p l) (hb : Below w.heap.size w w') : BytesAt w' p l := fun j b hj => by
  obtain ⟨ad, e, hl, hc⟩ := h j b hj
  exact ⟨ad, e, Nat.lt_of_lt_of_le hl hb.size, (hb.cell (p := ad.add j) (by rw [add_block]; exact hl)).trans hc⟩
theorem nums_back (l : Bs) : strOfNums (l.map fun b => (b.toNat : Int)) = baS l := by
  unfold strOfNums baS
  congr 1
  rw [List.map_map]
  have : (fun n : Int => UInt8.ofNat n.toNat) ∘ (fun b : UInt8 => (b.toNat : Int)) = id := by funext b; simp
  rw [this]; simp
theorem conv_bytes {w : World} {p : Option Addr} {l : Bs} (c : Nat) (h : BytesAt w p l) : (convert 22 9 (.slice p l.length c)).run Tryz.prog w = .ok (.string (baS l)) w := by
  cases p with
  | none =>
    have hl : l = [] := by
      cases l with
      | nil => rfl
      | cons a r => obtain ⟨ad, e, _⟩ := h 0 a rfl; cases e
    subst hl
    exact run_convert_bytes_nil w 22 5 Tryz.underlying22 Tryz.underlying5 0 c 9 Tryz.underlying9
  | some ad =>
    have hl : (loadCells ad l.length).run Tryz.prog w = .ok ((l.map fun b => (b.toNat : Int)).map (Value.int .u8)).toArray w := by
      have := run_loadCells_list (P := Tryz.prog) w ad ((l.map fun b => (b.toNat : Int)).map (Value.int .u8)) (fun j v hj => by
        rw [List.getElem?_map, List.getElem?_map] at hj
        cases hx : l[j]? with
        | none => rw [hx] at hj; cases hj
        | some b =>
          rw [hx] at hj
          obtain ⟨ad', e, _, hc⟩ := h j b hx
          cases e
          simp at hj
          rw [hc, ← hj])
      simpa using this
    rw [run_convert_bytes_string w 22 9 5 _ l.length c Tryz.underlying22 Tryz.underlying5 Tryz.underlying9, run_bytesToString w _ l.length c _ hl, foldl_push_bytes, ← nums_back]
    simp [strOfNums, ByteArray.empty, ByteArray.emptyWithCapacity]
    rfl
theorem xor_in (a b : Int) : 0 ≤ bits .xor .u64 a b ∧ bits .xor .u64 a b < 18446744073709551616 := by
  have : ∃ z : Int, bits .xor .u64 a b = IntKind.u64.wrap z := ⟨((BitVec.ofInt 64 a ^^^ BitVec.ofInt 64 b).toNat : Nat), rfl⟩
  obtain ⟨z, hz⟩ := this
  rw [hz, IntKind.wrap_u64]
  omega
def nmV (v : Int) (x : Nat) (n : Int) : Int := if nmB v x n = true then 4 else 0
def nmY (v : Int) (x : Nat) (n : Int) : Nat := if nmB v x n = true then nmX n else 0
theorem nmY_lt (v : Int) (x : Nat) (n : Int) : nmY v x n < 340282366920938463463374607431768211456 := by
  unfold nmY; split
  · have := nmX_lt n; omega
  · decide
theorem ofR_parts (v : Int) (x : Nat) (u : Int) (y : Nat) : ∃ (a h l n : Int) (b : Bool), ofR v x u y = .tuple #[.agg #[.int .i64 a, .int .u64 h, .int .u64 l, .int .i64 n], .bool b] := by
  unfold ofR
  split
  · exact ⟨_, _, _, _, _, rfl⟩
  · exact ⟨_, _, _, _, _, rfl⟩
theorem prefR_part (r : Option (Nat × Nat × Nat)) : ∃ (a h l n : Int) (b : Bool), prefR r = .tuple #[.agg #[.int .i64 a, .int .u64 h, .int .u64 l, .int .i64 n], .bool b] := by
  cases r with
  | none => exact ⟨_, _, _, _, _, rfl⟩
  | some p => exact ⟨_, _, _, _, _, rfl⟩
end Go.Proofs.YtmnemjhkmllniaaGreatDoor
