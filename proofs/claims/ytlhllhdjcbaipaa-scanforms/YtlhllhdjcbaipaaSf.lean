/- The second writing's Where and SameToks. -/
import Derived.Test.YtlhllhdjcbaipaaSe
namespace Go.Proofs.Ytlhllhdjcbaipaa
open Go.ChangeShapes Go.WideShapes Go.RowKit Go.Sort
theorem is10 {b : UInt8} (h : ((b.toNat : Int) == 10) = true) : b = 10 := by
  apply UInt8.toNat_inj.1
  have : (b.toNat : Int) = 10 := by simpa using h
  show b.toNat = 10
  omega
theorem not10 {b : UInt8} (h : ((b.toNat : Int) == 10) = false) : b ≠ 10 := fun e => by subst e; simp at h
set_option maxRecDepth 100000 in
theorem whereR_none (c : Nat) (t : Int) (w : World) :
    Calls Try.prog 11 #[.slice none 0 c, .int .i64 t] w fun e w' => e = .returned (.tuple #[.int .i64 1, .int .i64 1]) ∧ w' = w := by
  have hi : min (max t 0) 0 = 0 := by omega
  go_enter Try.func11, Try.ntmps11
  go_wp2
  go_loopw [6, 7, 8] (fun lv cv iv wr => lv = .int .i64 1 ∧ cv = .int .i64 1 ∧ iv = .int .i64 0 ∧ wr = w) (fun _ _ _ _ => 0)
  case atStart => exact ⟨rfl, rfl, rfl, rfl⟩
  case round =>
    obtain ⟨rfl, rfl, rfl, rfl⟩ := hrel
    go_wp2
    go_ret2
    exact ⟨rfl, rfl⟩
set_option maxHeartbeats 4000000 in
set_option maxRecDepth 100000 in
theorem whereR_some (l : Bs) (ad : Addr) (c : Nat) (t : Int) (w : World) (h : BytesAt w (some ad) l) (hl : l.length ≤ 1000000) :
    Calls Try.prog 11 #[.slice (some ad) l.length c, .int .i64 t] w fun e w' => e = .returned (.tuple #[.int .i64 (1 + (lfs (l.take (heldAt l t)) : Int)), .int .i64 (1 + (since (l.take (heldAt l t)) : Int))]) ∧ w' = w := by
  have hk := heldAt_le l t
  have hi := heldAt_is l t
  generalize heldAt l t = k at *
  have HH := Lib.hid h
  clear h
  go_enter Try.func11, Try.ntmps11
  go_wp2
  go_loopw [6, 7, 8] (fun lv cv iv wr => ∃ i : Nat, lv = .int .i64 (1 + (lfs (l.take i) : Int)) ∧ cv = .int .i64 (1 + (since (l.take i) : Int)) ∧ iv = .int .i64 (i : Int) ∧ i ≤ k ∧ wr = w) (fun _ _ iv _ => k + 1 - intN iv)
  case atStart => exact ⟨0, by simp [lfs], by simp [since], rfl, Nat.zero_le _, rfl⟩
  case round =>
    obtain ⟨i, rfl, rfl, rfl, hik, rfl⟩ := hrel
    by_cases hlt : i < k
    · have hil : i < l.length := by omega
      have hcell := bytesAt_cell HH.out i hil
      have hs := since_le (l.take i)
      have hf := lfs_le (l.take i)
      rw [List.length_take] at hs hf
      have e1 := lfs_snoc (l.take i) (l[i]'hil)
      have e2 := since_snoc (l.take i) (l[i]'hil)
      rw [← take_snoc (List.getElem?_eq_getElem hil)] at e1 e2
      have E1 := Lib.hid e1
      have E2 := Lib.hid e2
      have hs' : since (l.take i) ≤ 1000000 := by omega
      have hf' : lfs (l.take i) ≤ 1000000 := by omega
      clear e1 e2 hs hf
      generalize since (l.take i) = s at *
      generalize lfs (l.take i) = f at *
      go_wp2
      · rename_i h10
        have h10 := is10 h10
        have e1 := E1.out
        have e2 := E2.out
        rw [if_pos h10] at e1 e2
        refine ⟨⟨i + 1, ?_, ?_, by simp, by omega, trivial⟩, by simp [intN]; omega⟩
        · rw [e1]; congr 1 <;> omega
        · rw [e2]; rfl
      · rename_i h10
        have h10 := not10 h10
        have e1 := E1.out
        have e2 := E2.out
        rw [if_neg h10] at e1 e2
        refine ⟨⟨i + 1, ?_, ?_, by simp, by omega, trivial⟩, by simp [intN]; omega⟩
        · rw [e1]; rfl
        · rw [e2]; congr 1 <;> omega
    · obtain rfl : i = k := by omega
      go_wp2
      go_ret2
      exact ⟨rfl, rfl⟩
theorem whereR_x (l : Bs) (a : Option Addr) (c : Nat) (t : Int) (w : World) (h : BytesAt w a l) (hl : l.length ≤ 1000000) :
    Calls Try.prog 11 #[.slice a l.length c, .int .i64 t] w fun e w' => e = .returned (.tuple #[.int .i64 (1 + (lfs (l.take (heldAt l t)) : Int)), .int .i64 (1 + (since (l.take (heldAt l t)) : Int))]) ∧ w' = w := by
  cases a with
  | some ad => exact whereR_some l ad c t w h hl
  | none =>
    have hn : l = [] := by
      cases l with
      | nil => rfl
      | cons a r => obtain ⟨ad, e, _⟩ := h 0 a rfl; cases e
    subst hn
    have e : heldAt [] t = 0 := Nat.le_zero.1 (heldAt_le [] t)
    rw [e]
    exact whereR_none c t w
set_option maxHeartbeats 4000000 in
set_option maxRecDepth 100000 in
theorem same_x (L : List (Bs × Nat)) (p q : Option Addr) (c d : Nat) (w : World) (h : TokAt w p L) (k : TokAt w q L) (hl : L.length ≤ 1000000) :
    Calls Try.prog 12 #[.slice p L.length c, .slice q L.length d] w fun e w' => e = .returned (.bool true) ∧ Below w.heap.size w w' := by
  have HP := Lib.hid h
  have HQ := Lib.hid k
  by_cases hL : L = []
  · subst hL
    clear h k
    go_enter Try.func12, Try.ntmps12
    go_wp2
    go_loopw [5] (fun iv wr => iv = .int .i64 0 ∧ wr = w) (fun _ _ => 0)
    case atStart => exact ⟨rfl, rfl⟩
    case round =>
      obtain ⟨rfl, rfl⟩ := hrel
      go_wp2
      go_ret
      exact ⟨rfl, Below.refl _ _⟩
  · obtain ⟨⟨t, n⟩, ht⟩ : ∃ x, L[0]? = some x := ⟨L[0]'(List.length_pos_iff.2 hL), List.getElem?_eq_getElem _⟩
    obtain ⟨g, rfl, _⟩ := h 0 t n ht
    obtain ⟨g', rfl, _⟩ := k 0 t n ht
    clear h k ht
    go_enter Try.func12, Try.ntmps12
    go_wp2
    go_loopw [5] (fun iv wr => ∃ i : Nat, iv = .int .i64 (i : Int) ∧ i ≤ L.length ∧ Below w.heap.size w wr) (fun iv _ => L.length + 1 - intN iv)
    case atStart => exact ⟨0, rfl, Nat.zero_le _, Below.refl _ _⟩
    case round =>
      obtain ⟨i, rfl, hi, hb⟩ := hrel
      by_cases hlt : i < L.length
      · obtain ⟨⟨T, N⟩, hx⟩ : ∃ x, L[i]? = some x := ⟨_, List.getElem?_eq_getElem hlt⟩
        obtain ⟨_, e, _, c0, c1, c2⟩ := (HP.out.below hb) i T N hx
        cases e
        obtain ⟨_, e, _, d0, d1, d2⟩ := (HQ.out.below hb) i T N hx
        cases e
        clear hx
        generalize L.length = z at *
        generalize baS T = B at *
        go_wp2
        go_quiet (fail)
        go_wp2
        go_roundw
        case rel => exact ⟨i + 1, by simp, by omega, bdrew hb _⟩
        case measure => simp [intN]; omega
      · obtain rfl : i = L.length := by omega
        go_wp2
        go_ret
        exact ⟨rfl, hb⟩
end Go.Proofs.Ytlhllhdjcbaipaa
