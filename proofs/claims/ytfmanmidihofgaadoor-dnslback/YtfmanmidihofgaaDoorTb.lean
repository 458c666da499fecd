/- Where a word ends, where blanks and comments end: the code's own wordEnd and skip. -/
import Derived.Test.YtfmanmidihofgaaDoorTa
namespace Go.Proofs.YtfmanmidihofgaaDoor
open Go.ChangeShapes Go.WideShapes Go.RowKit Go.Sort
/-- The piece of a text from one place to another. -/
def pieceV (l : Bs) (f i : Nat) : Bs := (l.take i).drop f
theorem take_snoc8 {l : Bs} {i : Nat} {c : UInt8} (h : l[i]? = some c) : l.take (i + 1) = l.take i ++ [c] := by
  rw [List.take_add_one, h]; rfl
theorem piece_len {l : Bs} {f i : Nat} (hi : i ≤ l.length) : (pieceV l f i).length = i - f := by
  unfold pieceV; rw [List.length_drop, List.length_take]; omega
theorem piece_snoc {l : Bs} {f i : Nat} {c : UInt8} (h : l[i]? = some c) (hf : f ≤ i) : pieceV l f (i + 1) = pieceV l f i ++ [c] := by
  have hi := (List.getElem?_eq_some_iff.1 h).1
  unfold pieceV
  rw [take_snoc8 h, List.drop_append_of_le_length (by rw [List.length_take]; omega)]
theorem piece_nil (l : Bs) (i : Nat) : pieceV l i i = [] := by
  unfold pieceV; apply List.drop_eq_nil_of_le; rw [List.length_take]; omega
theorem piece_drop {l : Bs} {f i : Nat} (h : f ≤ i) (hi : i ≤ l.length) : l.drop f = pieceV l f i ++ l.drop i := by
  unfold pieceV
  conv => lhs; rw [← List.take_append_drop i l]
  rw [List.drop_append_of_le_length (by rw [List.length_take]; omega)]
set_option maxRecDepth 100000 in
theorem piece_at {w : World} {a : Option Addr} {l : Bs} {c : Nat} (h : BytesAt w a l) (hc : l.length ≤ c) (f i : Nat) (hi : i ≤ l.length) : (convert 29 9 (.slice (adv a c f) (i - f) (c - f))).run Tryd.prog w = .ok (.string (baS (pieceV l f i))) w := by
  have h1 := (h.take i).drop c f (by rw [List.length_take]; omega)
  have h2 := conv_bytes (c - f) h1
  have h3 := piece_len (f := f) hi
  unfold pieceV at h3 ⊢
  rwa [h3] at h2
/-- A word stands from one place to another. -/
def WordTo (l : Bs) (i j : Nat) : Prop := i ≤ j ∧ j ≤ l.length ∧ (∀ c ∈ pieceV l i j, wordB c = true) ∧ ∀ c, l[j]? = some c → wordB c = false
theorem drop_head {l : Bs} {j : Nat} {c : UInt8} {q : Bs} (h : l.drop j = c :: q) : l[j]? = some c := by
  have := congrArg (·[0]?) h
  simpa using this
theorem word_at {l : Bs} {i j : Nat} (h : WordTo l i j) (hij : i < j) : tokA .top i (l.drop i) = if 255 < j - i then .bad 2 i else (tokA .top j (l.drop j)).pre [(2, pieceV l i j, i)] := by
  obtain ⟨h1, h2, h3, h4⟩ := h
  rw [piece_drop h1 h2]
  have := top_words (p := pieceV l i j) (fun e => by have := congrArg List.length e; rw [piece_len h2] at this; simp at this; omega) h3 i (l.drop j) (fun c q e => h4 c (drop_head e))
  rw [this, piece_len h2, show i + (j - i) = j by omega]
/-- Blanks and comments stand from one place to another. -/
def SkipTo (l : Bs) (i j : Nat) : Prop := i ≤ j ∧ j ≤ l.length ∧ tokA .top i (l.drop i) = tokA .top j (l.drop j) ∧ ∀ c, l[j]? = some c → blankB c = false ∧ c ≠ 35
theorem drop_cons8 {l : Bs} {j : Nat} {c : UInt8} (h : l[j]? = some c) : l.drop j = c :: l.drop (j + 1) := by
  have hj := (List.getElem?_eq_some_iff.1 h).1
  rw [List.drop_eq_getElem_cons hj, (List.getElem?_eq_some_iff.1 h).2]
theorem blank_at {l : Bs} {j : Nat} {c : UInt8} (h : l[j]? = some c) (hb : blankB c = true) : tokA .top j (l.drop j) = tokA .top (j + 1) (l.drop (j + 1)) := by
  rw [drop_cons8 h, tok_blank hb]
/-- How long a comment is, from its sign on. -/
def comN (l : Bs) (j : Nat) : Nat := ((l.drop j).takeWhile (fun c => c != 10)).length
theorem take_while_append (p : UInt8 → Bool) (l : Bs) : l = l.takeWhile p ++ l.dropWhile p := (List.takeWhile_append_dropWhile).symm
theorem no10 : ∀ l : Bs, 10 ∉ l.takeWhile (fun c => c != 10)
  | [] => by simp
  | c :: q => by
    rw [List.takeWhile_cons]
    split
    · rename_i h; simp at h; simp; exact ⟨fun e => h e.symm, by simpa using no10 q⟩
    · simp
theorem all10 : ∀ l : Bs, 10 ∉ l → l.takeWhile (fun c => c != 10) = l
  | [], _ => rfl
  | c :: q, h => by
    simp at h
    rw [List.takeWhile_cons, if_pos (by simp; exact fun e => h.1 e.symm), all10 q h.2]
theorem com_at {l : Bs} {j : Nat} (h : l[j]? = some 35) : tokA .top j (l.drop j) = tokA .top (j + comN l j) (l.drop (j + comN l j)) ∧ 0 < comN l j ∧ j + comN l j ≤ l.length := by
  have hd := drop_cons8 h
  have hj := (List.getElem?_eq_some_iff.1 h).1
  have hn : comN l j = ((l.drop (j + 1)).takeWhile (fun c => c != 10)).length + 1 := by
    unfold comN; rw [hd, List.takeWhile_cons, if_pos (by decide), List.length_cons]
  have hle : ((l.drop (j + 1)).takeWhile (fun c => c != 10)).length ≤ (l.drop (j + 1)).length := (List.takeWhile_sublist _).length_le
  rw [List.length_drop] at hle
  refine ⟨?_, by omega, by omega⟩
  rw [hd, top_com, hn]
  conv => lhs; rw [take_while_append (fun c => c != 10) (l.drop (j + 1))]
  rw [tok_com _ _ _ (no10 _), show j + 1 + ((l.drop (j + 1)).takeWhile (fun c => c != 10)).length = j + (((l.drop (j + 1)).takeWhile (fun c => c != 10)).length + 1) by omega]
  have e : l.drop (j + (((l.drop (j + 1)).takeWhile (fun c => c != 10)).length + 1)) = (l.drop (j + 1)).dropWhile (fun c => c != 10) := by
    rw [show j + (((l.drop (j + 1)).takeWhile (fun c => c != 10)).length + 1) = (j + 1) + ((l.drop (j + 1)).takeWhile (fun c => c != 10)).length by omega, ← List.drop_drop]
    conv => lhs; arg 2; rw [take_while_append (fun c => c != 10) (l.drop (j + 1))]
    rw [List.drop_left]
  rw [e]
  apply com_end
  intro c q hq
  have := List.head?_dropWhile_not (fun c : UInt8 => c != 10) (l.drop (j + 1))
  rw [hq] at this
  simpa using this
end Go.Proofs.YtfmanmidihofgaaDoor
