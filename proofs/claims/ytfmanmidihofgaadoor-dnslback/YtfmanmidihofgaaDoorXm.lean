/- Rows of the third tongue told: mathematics of the walk, and a buffer's own calls. -/
import Derived.Test.YtfmanmidihofgaaDoorXk
import Derived.Test.YtfmanmidihofgaaDoorTl
import Derived.Test.YtfmanmidihofgaaDoorShelf
import Derived.Lib.BufferOld
namespace Go.Proofs.YtfmanmidihofgaaDoor
open Go.ChangeShapes Go.WideShapes Go.RowKit Go.Sort
theorem printD_take {L : List Rw} {j : Nat} {r : Rw} (h : L[j]? = some r) : printD (L.take (j + 1)) = printD (L.take j) ++ (rowT r ++ [10]) := by
  unfold printD
  rw [List.take_add_one, h, List.flatMap_append]; simp
theorem printD_le (L : List Rw) (j : Nat) : (printD (L.take j)).length ≤ (printD L).length := by
  conv => rhs; rw [← List.take_append_drop j L]
  unfold printD
  rw [List.flatMap_append, List.length_append]; omega
theorem printD_ge (L : List Rw) : L.length ≤ (printD L).length := by
  induction L with
  | nil => simp
  | cons a q ih =>
    have e : printD (a :: q) = (rowT a ++ [10]) ++ printD q := by simp [printD]
    rw [e, List.length_append, List.length_append, List.length_cons]; simp; omega
def textsOf (ts : List Tk) : List Bs := ts.map fun t => t.2.1
theorem rowT_is (r : Rw) : rowT r = r.1 ++ [61] ++ joinP (fun s => s) (textsOf r.2.1) := by simp [rowT, textsOf]
theorem texts_at {ts : List Tk} {k : Nat} {t : Tk} (h : ts[k]? = some t) : (textsOf ts)[k]? = some t.2.1 := by simp [textsOf, h]
theorem texts_len (ts : List Tk) : (textsOf ts).length = ts.length := by simp [textsOf]
theorem joinP_take (f : Bs → Bs) {row : List Bs} {k : Nat} {s : Bs} (h : row[k]? = some s) : joinP f (row.take (k + 1)) = joinP f (row.take k) ++ (if k = 0 then [] else [44]) ++ f s := by
  have hk := (List.getElem?_eq_some_iff.1 h).1
  rw [List.take_add_one, h]
  show joinP f (row.take k ++ [s]) = _
  rw [joinP_snoc]
  by_cases h0 : k = 0
  · subst h0; simp
  · rw [if_neg h0, if_neg (by intro e; have := congrArg List.length e; rw [List.length_take, List.length_nil] at this; omega)]
theorem joinP_le (f : Bs → Bs) (row : List Bs) (k : Nat) : (joinP f (row.take k)).length ≤ (joinP f row).length := by
  unfold joinP
  rw [List.length_drop, List.length_drop]
  conv => rhs; rw [← List.take_append_drop k row]
  rw [List.flatMap_append, List.length_append]; omega
theorem joinP_ge (f : Bs → Bs) (row : List Bs) : row.length ≤ (joinP f row).length + 1 := by
  have : row.length ≤ (row.flatMap (fun s => 44 :: f s)).length := by
    induction row with
    | nil => simp
    | cons a q ih => rw [List.flatMap_cons, List.length_append, List.length_cons, List.length_cons]; omega
  unfold joinP
  rw [List.length_drop]; omega
/-- What Print hands back. -/
def PrintE (w : World) (l : Bs) (e : Ending) (w' : World) : Prop := Below w.heap.size w w' ∧ ∃ p q, e = .returned (.slice p l.length q) ∧ w'.ownsRow w.heap.size 5 1 (.slice p l.length q) l.length (cellsB l)
/-- A buffer that a call has made, and what was written into it. -/
def BufAt (w : World) (B : Nat) (l : Bs) : Prop := Lib.IsBuffer 56 5 B B (cellsB l) w
theorem wb_x (acc : Bs) (c : UInt8) (u : Int) (hu : u = (c.toNat : Int)) (B : Nat) (w : World) (h : BufAt w B acc) (hl : acc.length ≤ 3000000) :
    Calls Tryd.prog 23 #[.pointer (some ⟨B, 0, none⟩), .int .u8 u] w fun e w' => e = .returned .nilIface ∧ BufAt w' B (acc ++ [c]) ∧ Below B w w' := by
  subst hu
  have hlen : (cellsB acc).length = acc.length := by simp [cellsB]
  refine (Tryd.Buffer_WriteByte_k B B (cellsB acc) (c.toNat : Int) w h (Nat.le_of_lt (Lib.IsBuffer.lt h)) (Lib.byteCells_one acc) (by rw [hlen]; omega)).mono ?_
  rintro e w' ⟨h1, h2, h3, _⟩
  exact ⟨h1, by unfold BufAt; rw [cellsB_snoc]; exact h2, h3⟩
theorem ws_x (acc t : Bs) (B : Nat) (w : World) (h : BufAt w B acc) (hl : acc.length ≤ 3000000) (ht : t.length ≤ 3000000) :
    Calls Tryd.prog 22 #[.pointer (some ⟨B, 0, none⟩), .string (baS t)] w fun e w' => (∃ v, e = .returned v) ∧ BufAt w' B (acc ++ t) ∧ Below B w w' := by
  have hlen : (cellsB acc).length = acc.length := by simp [cellsB]
  refine (Tryd.Buffer_WriteString_k B B (cellsB acc) (baS t) w h (Nat.le_of_lt (Lib.IsBuffer.lt h)) (Lib.byteCells_one acc) (by rw [hlen, baS_size]; omega)).mono ?_
  rintro e w' ⟨h1, h2, h3, _⟩
  refine ⟨⟨_, h1⟩, ?_, h3⟩
  unfold BufAt
  rw [show cellsB (acc ++ t) = cellsB acc ++ cellsB t by simp [cellsB]]
  have e : (baS t).data.toList = t := by simp [baS]
  rw [e] at h2
  exact h2
theorem bb_x (acc : Bs) (B : Nat) (w : World) (h : BufAt w B acc) :
    Calls Tryd.prog 24 #[.pointer (some ⟨B, 0, none⟩)] w fun e w' => (∃ p q, e = .returned (.slice p acc.length q) ∧ w'.ownsRow B 5 1 (.slice p acc.length q) acc.length (cellsB acc)) ∧ Below w.heap.size w w' := by
  have hlen : (cellsB acc).length = acc.length := by simp [cellsB]
  refine (Tryd.Buffer_Bytes B B (cellsB acc) w h).mono ?_
  rintro e w' ⟨v, h1, h2, n, h3⟩
  rw [hlen] at h2
  refine ⟨?_, h3 ▸ bdrew (Below.refl _ _) n⟩
  rcases h2.2 with ⟨hv, h0⟩ | ⟨g, cap, cur, hv, _⟩
  · exact ⟨none, 0, by rw [h1, hv, h0], by rw [h0]; rw [hv, h0] at h2; exact h2⟩
  · exact ⟨some ⟨g, 0, none⟩, cap, by rw [h1, hv], by rw [← hv]; exact h2⟩
theorem own_le9 {w : World} {base : Nat} {l l' : Bs} {p : Option Addr} {q : Nat} (e : l = l') (h : w.ownsRow base 5 1 (.slice p l.length q) l.length (cellsB l)) : w.ownsRow base 5 1 (.slice p l'.length q) l'.length (cellsB l') := e ▸ h
/-- Bytes that a call has put together. -/
def OutB (w : World) (base : Nat) (v : Value) (l : Bs) : Prop := ∃ p q, v = .slice p l.length q ∧ w.ownsRow base 5 1 (.slice p l.length q) l.length (cellsB l)
theorem OutB.of {w : World} {base : Nat} {v : Value} {l l' : Bs} (h : OutB w base v l) (e : l = l') : OutB w base v l' := e ▸ h
theorem heap_new10 (w : World) (o : Obj) : (w.alloc o).heap[w.heap.size]? = some o := by
  show (w.heap.push o)[w.heap.size]? = some o
  simp
/-- What else lies stays as it is. -/
def Rest (B : Nat) (w w' : World) : Prop := ∀ (X : Nat) (cs : Array Value) (t : TypeId), t ≠ 5 → X ≠ B → w.heap[X]? = some (.cells cs t (0, 0)) → w'.heap[X]? = some (.cells cs t (0, 0))
theorem rest_of {B : Nat} {w w' : World} (h : Lib.OthersKept 5 (some B) w w') : Rest B w w' := fun X cs t ht hX hc => h X _ hc (by simpa using hX) (fun c fz e => by injection e with e1 e2 e3; exact ht e2)
theorem wb2_x (acc : Bs) (c : UInt8) (u : Int) (hu : u = (c.toNat : Int)) (B : Nat) (w : World) (h : BufAt w B acc) (hl : acc.length ≤ 3000000) :
    Calls Tryd.prog 23 #[.pointer (some ⟨B, 0, none⟩), .int .u8 u] w fun e w' => e = .returned .nilIface ∧ BufAt w' B (acc ++ [c]) ∧ Below B w w' ∧ Rest B w w' := by
  subst hu
  have hlen : (cellsB acc).length = acc.length := by simp [cellsB]
  refine (Tryd.Buffer_WriteByte_k B B (cellsB acc) (c.toNat : Int) w h (Nat.le_of_lt (Lib.IsBuffer.lt h)) (Lib.byteCells_one acc) (by rw [hlen]; omega)).mono ?_
  rintro e w' ⟨h1, h2, h3, h4⟩
  exact ⟨h1, by unfold BufAt; rw [cellsB_snoc]; exact h2, h3, rest_of h4⟩
theorem ws2_x (acc t : Bs) (B : Nat) (w : World) (h : BufAt w B acc) (hl : acc.length ≤ 3000000) (ht : t.length ≤ 3000000) :
    Calls Tryd.prog 22 #[.pointer (some ⟨B, 0, none⟩), .string (baS t)] w fun e w' => (∃ v, e = .returned v) ∧ BufAt w' B (acc ++ t) ∧ Below B w w' ∧ Rest B w w' := by
  have hlen : (cellsB acc).length = acc.length := by simp [cellsB]
  refine (Tryd.Buffer_WriteString_k B B (cellsB acc) (baS t) w h (Nat.le_of_lt (Lib.IsBuffer.lt h)) (Lib.byteCells_one acc) (by rw [hlen, baS_size]; omega)).mono ?_
  rintro e w' ⟨h1, h2, h3, h4⟩
  refine ⟨⟨_, h1⟩, ?_, h3, rest_of h4⟩
  unfold BufAt
  rw [show cellsB (acc ++ t) = cellsB acc ++ cellsB t by simp [cellsB]]
  have e : (baS t).data.toList = t := by simp [baS]
  rw [e] at h2
  exact h2
theorem three_heap {W : World} {X : Nat} {a b c : Value} {t : TypeId} (h : W.heap[X]? = some (.cells #[a, b, c] t (0, 0))) : W.cell? ⟨X, 0, none⟩ = some a ∧ W.cell? ⟨X, 1, none⟩ = some b ∧ W.cell? ⟨X, 2, none⟩ = some c := by
  refine ⟨?_, ?_, ?_⟩ <;> simp [World.cell?, h]
end Go.Proofs.YtfmanmidihofgaaDoor
