/- Strings as lists of bytes, bytes in memory. -/
import Derived.Test.YtgiihljiekagdaaDoorKb
namespace Go.Proofs.YtgiihljiekagdaaDoor
open Go.ChangeShapes Go.WideShapes Go.RowKit Go.Sort
def baS (l : Bs) : ByteArray := ⟨l.toArray⟩
theorem addS (x y : Bs) (hx : x.length ≤ 8388608) (hy : y.length ≤ 8388608) (V : World) : (Op.stringOp .add (baS x) (baS y)).run Tryd.prog V = .ok (.string (baS (x ++ y))) V :=
  run_string_add_lists V x y (by omega) (by omega)
theorem baS_size (l : Bs) : (baS l).size = l.length := by simp [baS, ByteArray.size]
theorem add_block (p : Addr) (j : Nat) : (p.add j).block = p.block := by unfold Addr.add; split <;> rfl
theorem baS_of (b : ByteArray) (l : Bs) (h : b.data.toList = l) : b = baS l := by subst h; cases b; simp [baS]
theorem sliceTo (s : Bs) (k : Nat) (hk : k ≤ s.length) (V : World) : (Instr.slice 9 (.string (baS s)) none (some (.int .i64 (k : Int))) none).run Tryd.prog V = .ok (.string (baS (s.take k))) V := by
  rw [run_slice_string_h V 9 (baS s) Tryd.underlying9 .i64 (k : Int) (by omega) (by rw [baS_size]; omega)]
  rw [baS_of ((baS s).extract 0 (k : Int).toNat) (s.take k) (by rw [Lib.extract_data]; simp [baS])]
theorem sliceFrom (s : Bs) (k : Nat) (hk : k ≤ s.length) (V : World) : (Instr.slice 9 (.string (baS s)) (some (.int .i64 (k : Int))) none none).run Tryd.prog V = .ok (.string (baS (s.drop k))) V := by
  rw [run_slice_string_l V 9 (baS s) Tryd.underlying9 .i64 (k : Int) (by omega) (by rw [baS_size]; omega)]
  rw [baS_of ((baS s).extract (k : Int).toNat (baS s).size) (s.drop k) (by rw [Lib.extract_data, baS_size]; simp [baS, List.take_of_length_le])]
theorem ne_listR {t : Bs} (h : t ≠ []) : (baS t).toList.isEmpty = false := by
  rw [← decide_eq_emptyBytes]
  exact decide_eq_false (fun e => h (by have := congrArg (fun b : ByteArray => b.data.toList) e; simpa [baS] using this))
theorem baS_len (l : Bs) : (baS l).size = l.length := by simp [baS, ByteArray.size]
def sizeS : Value → Nat
  | .string b => b.size
  | _ => 0
theorem byteE (w : World) (k : Nat) (h1 : k < 256) : (convert 29 9 (.slice (some ⟨w.heap.size, 0, none⟩) 1 1)).run Tryd.prog (w.alloc (.cells #[.int .u8 k] 5)) = .ok (.string (baS [UInt8.ofNat k])) (w.alloc (.cells #[.int .u8 k] 5)) := by
  refine run_convert_bytes_back (P := Tryd.prog) _ 29 9 5 ⟨w.heap.size, 0, none⟩ 1 [UInt8.ofNat k] Tryd.underlying29 Tryd.underlying5 Tryd.underlying9 (fun j hj => ?_)
  obtain rfl : j = 0 := by simpa using hj
  simp [go_sem]
  omega
theorem baS_at (l : Bs) (k : Nat) (hk : k < l.length) : ∀ h, (baS l)[k]'h = l[k]'hk := fun _ => rfl
theorem baS_eq (b : ByteArray) (l : Bs) (h : b.data.toList = l) : b = baS l := by subst h; cases b; simp [baS]
theorem sliceMid (s : Bs) (f k : Nat) (h1 : f ≤ k) (h2 : k ≤ s.length) (V : World) : (Instr.slice 9 (.string (baS s)) (some (.int .i64 (f : Int))) (some (.int .i64 (k : Int))) none).run Tryd.prog V = .ok (.string (baS ((s.drop f).take (k - f)))) V := by
  rw [run_slice_string V 9 (baS s) .i64 .i64 (f : Int) (k : Int) Tryd.underlying9 (by omega) (by omega) (by rw [baS_len]; omega)]
  rw [baS_eq ((baS s).extract (f : Int).toNat (k : Int).toNat) ((s.drop f).take (k - f)) (by rw [Lib.extract_data]; simp [baS, List.take_drop])]
/-- A row of bytes lies in memory. -/
def BytesAt (w : World) (p : Option Addr) (l : Bs) : Prop := ∀ (j : Nat) (b : UInt8), l[j]? = some b → ∃ ad, p = some ad ∧ ad.block < w.heap.size ∧ w.cell? (ad.add j) = some (.int .u8 (b.toNat : Int))
theorem BytesAt.below {w w' : World} {p : Option Addr} {l : Bs} (h : BytesAt w p l) (hb : Below w.heap.size w w') : BytesAt w' p l := fun j b hj => by
  obtain ⟨ad, e, hl, hc⟩ := h j b hj
  exact ⟨ad, e, Nat.lt_of_lt_of_le hl hb.size, (hb.cell (p := ad.add j) (by rw [add_block]; exact hl)).trans hc⟩
theorem nums_back (l : Bs) : strOfNums (l.map fun b => (b.toNat : Int)) = baS l := by
  unfold strOfNums baS
  congr 1
  rw [List.map_map]
  have : (fun n : Int => UInt8.ofNat n.toNat) ∘ (fun b : UInt8 => (b.toNat : Int)) = id := by funext b; simp
  rw [this]; simp
theorem conv_bytes {w : World} {p : Option Addr} {l : Bs} (c : Nat) (h : BytesAt w p l) : (convert 29 9 (.slice p l.length c)).run Tryd.prog w = .ok (.string (baS l)) w := by
  cases p with
  | none =>
    have hl : l = [] := by
      cases l with
      | nil => rfl
      | cons a r => obtain ⟨ad, e, _⟩ := h 0 a rfl; cases e
    subst hl
    exact run_convert_bytes_nil w 29 5 Tryd.underlying29 Tryd.underlying5 0 c 9 Tryd.underlying9
  | some ad =>
    have hl : (loadCells ad l.length).run Tryd.prog w = .ok ((l.map fun b => (b.toNat : Int)).map (Value.int .u8)).toArray w := by
      have := run_loadCells_list (P := Tryd.prog) w ad ((l.map fun b => (b.toNat : Int)).map (Value.int .u8)) (fun j v hj => by
        rw [List.getElem?_map, List.getElem?_map] at hj
        cases hx : l[j]? with
        | none => rw [hx] at hj; cases hj
        | some b =>
          rw [hx] at hj
          obtain ⟨ad', e, _, hc⟩ := h j b hx
          cases e
          simp at hj
          rw [hc, ← hj])
      simpa using this
    rw [run_convert_bytes_string w 29 9 5 _ l.length c Tryd.underlying29 Tryd.underlying5 Tryd.underlying9, run_bytesToString w _ l.length c _ hl, foldl_push_bytes, ← nums_back]
    simp [strOfNums, ByteArray.empty, ByteArray.emptyWithCapacity]
    rfl
end Go.Proofs.YtgiihljiekagdaaDoor
