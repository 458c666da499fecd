/- Rows of signs, and rows of bytes that were put one behind the other, in memory. -/
import Derived.Test.YtfmanmidihofgaaDoorTo
import Derived.Test.YtfmanmidihofgaaDoorBas
import Derived.OneCell
namespace Go.Proofs.YtfmanmidihofgaaDoor
open Go.ChangeShapes Go.WideShapes Go.RowKit Go.Sort
/-- The cells of a sign. -/
def cellsK (t : Tk) : List Value := [.int .i64 (t.1 : Int), .string (baS t.2.1), .int .i64 (t.2.2 : Int)]
/-- A row of signs lies in memory. -/
def TokK (w : World) (p : Option Addr) (l : List Tk) : Prop := ∀ (j : Nat) (t : Tk), l[j]? = some t → ∃ g, p = some ⟨g, 0, none⟩ ∧ g < w.heap.size ∧ w.cell? ⟨g, j * 3, none⟩ = some (.int .i64 (t.1 : Int)) ∧ w.cell? ⟨g, j * 3 + 1, none⟩ = some (.string (baS t.2.1)) ∧ w.cell? ⟨g, j * 3 + 2, none⟩ = some (.int .i64 (t.2.2 : Int))
theorem TokK.below {w w' : World} {p : Option Addr} {l : List Tk} (h : TokK w p l) (hb : Below w.heap.size w w') : TokK w' p l := fun j t hj => by
  obtain ⟨g, e, hg, h0, h1, h2⟩ := h j t hj
  exact ⟨g, e, Nat.lt_of_lt_of_le hg hb.size, (olds hb g _ hg).trans h0, (olds hb g _ hg).trans h1, (olds hb g _ hg).trans h2⟩
theorem TokK.nil (w : World) : TokK w none [] := fun j t hj => by simp at hj
theorem flatK : ∀ (l : List Tk) (j i : Nat) (p : Tk), l[j]? = some p → i < 3 → (l.flatMap cellsK)[j * 3 + i]? = (cellsK p)[i]?
  | [], j, i, p, h, _ => by simp at h
  | q :: r, 0, i, p, h, hi => by
    simp at h; subst h
    rw [List.flatMap_cons, List.getElem?_append_left (by simp [cellsK]; omega), Nat.zero_mul, Nat.zero_add]
  | q :: r, j + 1, i, p, h, hi => by
    rw [List.flatMap_cons, List.getElem?_append_right (by simp [cellsK]; omega), show (j + 1) * 3 + i - (cellsK q).length = j * 3 + i by simp [cellsK]; omega]
    exact flatK r j i p (by simpa using h) hi
theorem tokK_own {w : World} {base c : Nat} {p : Option Addr} {l : List Tk} (h : w.ownsRow base 36 3 (.slice p l.length c) l.length (l.flatMap cellsK)) : TokK w p l := fun j t hj => by
  have hlt : j < l.length := (List.getElem?_eq_some_iff.1 hj).1
  have h' := h
  rcases h.2 with ⟨_, h0⟩ | ⟨g, cap, cur, hv, b, hg2, hcap, _⟩
  · omega
  · obtain ⟨rfl, rfl⟩ : p = some ⟨g, 0, none⟩ ∧ c = cap := by injection hv with a _ b; exact ⟨a, b⟩
    refine ⟨g, rfl, (Array.getElem?_eq_some_iff.1 hg2).1, ?_, ?_, ?_⟩
    · have := h'.cellAt (j * 3) (by omega); rw [this]; exact flatK l j 0 _ hj (by decide)
    · rw [h'.cellAt (j * 3 + 1) (by omega), flatK l j 1 _ hj (by decide)]; rfl
    · rw [h'.cellAt (j * 3 + 2) (by omega), flatK l j 2 _ hj (by decide)]; rfl
/-- The cells of bytes. -/
def cellsB (l : Bs) : List Value := l.map fun b => .int .u8 (b.toNat : Int)
/-- Bytes that a call put one behind the other. -/
theorem bytes_own {w : World} {base c : Nat} {p : Option Addr} {l : Bs} (h : w.ownsRow base 5 1 (.slice p l.length c) l.length (cellsB l)) : BytesAt w p l := fun j b hj => by
  have hlt : j < l.length := (List.getElem?_eq_some_iff.1 hj).1
  have h' := h
  rcases h.2 with ⟨_, h0⟩ | ⟨g, cap, cur, hv, _, hg2, hcap, _⟩
  · omega
  · obtain ⟨rfl, rfl⟩ : p = some ⟨g, 0, none⟩ ∧ c = cap := by injection hv with a _ b; exact ⟨a, b⟩
    refine ⟨⟨g, 0, none⟩, rfl, (Array.getElem?_eq_some_iff.1 hg2).1, ?_⟩
    have e : ((⟨g, 0, none⟩ : Addr).add j) = ⟨g, j, none⟩ := by unfold Addr.add; split <;> simp_all
    rw [e]
    have := h'.cellAt j (by omega)
    rw [this]
    simp [cellsB, hj]
set_option maxHeartbeats 4000000 in
set_option maxRecDepth 100000 in
theorem same_k (L : List Tk) (p q : Option Addr) (c d : Nat) (w : World) (h : TokK w p L) (k : TokK w q L) (hl : L.length ≤ 1000000) :
    Calls Tryd.prog 21 #[.slice p L.length c, .slice q L.length d] w fun e w' => e = .returned (.bool true) ∧ Below w.heap.size w w' := by
  have HP := Lib.hid h
  have HQ := Lib.hid k
  by_cases hL : L = []
  · subst hL
    clear h k
    go_enter Tryd.func21, Tryd.ntmps21
    go_wp2
    go_loopw [5] (fun iv wr => iv = .int .i64 0 ∧ wr = w) (fun _ _ => 0)
    case atStart => exact ⟨rfl, rfl⟩
    case round =>
      obtain ⟨rfl, rfl⟩ := hrel
      go_wp2
      go_ret
      exact ⟨rfl, Below.refl _ _⟩
  · obtain ⟨t, ht⟩ : ∃ x, L[0]? = some x := ⟨L[0]'(List.length_pos_iff.2 hL), List.getElem?_eq_getElem _⟩
    obtain ⟨g, rfl, _⟩ := h 0 t ht
    obtain ⟨g', rfl, _⟩ := k 0 t ht
    clear h k ht
    go_enter Tryd.func21, Tryd.ntmps21
    go_wp2
    go_loopw [5] (fun iv wr => ∃ i : Nat, iv = .int .i64 (i : Int) ∧ i ≤ L.length ∧ Below w.heap.size w wr) (fun iv _ => L.length + 1 - (match iv with | .int _ n => (n + 1).toNat | _ => 0))
    case atStart => exact ⟨0, rfl, Nat.zero_le _, Below.refl _ _⟩
    case round =>
      obtain ⟨i, rfl, hi, hb⟩ := hrel
      by_cases hlt : i < L.length
      · obtain ⟨t, hx⟩ : ∃ x, L[i]? = some x := ⟨_, List.getElem?_eq_getElem hlt⟩
        obtain ⟨_, e, _, c0, c1, c2⟩ := (HP.out.below hb) i t hx
        cases e
        obtain ⟨_, e, _, d0, d1, d2⟩ := (HQ.out.below hb) i t hx
        cases e
        clear hx
        generalize L.length = z at *
        generalize baS t.2.1 = B at *
        generalize t.1 = K at *
        generalize t.2.2 = N at *
        go_wp2
        go_quiet (fail)
        go_wp2
        go_roundw
        case rel => exact ⟨i + 1, by simp, by omega, bdrew hb _⟩
        case measure => simp; omega
      · obtain rfl : i = L.length := by omega
        go_wp2
        go_ret
        exact ⟨rfl, hb⟩
end Go.Proofs.YtfmanmidihofgaaDoor
