/- The second writing's Where and SameToks. -/
import Derived.Test.YtfmanmidihofgaaDoorSe
namespace Go.Proofs.YtfmanmidihofgaaDoor
open Go.ChangeShapes Go.WideShapes Go.RowKit Go.Sort
theorem is10 {b : UInt8} (h : ((b.toNat : Int) == 10) = true) : b = 10 := by
  apply UInt8.toNat_inj.1
  have : (b.toNat : Int) = 10 := by simpa using h
  show b.toNat = 10
  omega
theorem not10 {b : UInt8} (h : ((b.toNat : Int) == 10) = false) : b ≠ 10 := fun e => by subst e; simp at h
set_option maxHeartbeats 4000000 in
set_option maxRecDepth 100000 in
theorem same_x (L : List (Bs × Nat)) (p q : Option Addr) (c d : Nat) (w : World) (h : TokAt w p L) (k : TokAt w q L) (hl : L.length ≤ 1000000) :
    Calls Tryd.prog 21 #[.slice p L.length c, .slice q L.length d] w fun e w' => e = .returned (.bool true) ∧ Below w.heap.size w w' := by
  have HP := Lib.hid h
  have HQ := Lib.hid k
  by_cases hL : L = []
  · subst hL
    clear h k
    go_enter Tryd.func21, Tryd.ntmps21
    go_wp2
    go_loopw [5] (fun iv wr => iv = .int .i64 0 ∧ wr = w) (fun _ _ => 0)
    case atStart => exact ⟨rfl, rfl⟩
    case round =>
      obtain ⟨rfl, rfl⟩ := hrel
      go_wp2
      go_ret
      exact ⟨rfl, Below.refl _ _⟩
  · obtain ⟨⟨t, n⟩, ht⟩ : ∃ x, L[0]? = some x := ⟨L[0]'(List.length_pos_iff.2 hL), List.getElem?_eq_getElem _⟩
    obtain ⟨g, rfl, _⟩ := h 0 t n ht
    obtain ⟨g', rfl, _⟩ := k 0 t n ht
    clear h k ht
    go_enter Tryd.func21, Tryd.ntmps21
    go_wp2
    go_loopw [5] (fun iv wr => ∃ i : Nat, iv = .int .i64 (i : Int) ∧ i ≤ L.length ∧ Below w.heap.size w wr) (fun iv _ => L.length + 1 - intN iv)
    case atStart => exact ⟨0, rfl, Nat.zero_le _, Below.refl _ _⟩
    case round =>
      obtain ⟨i, rfl, hi, hb⟩ := hrel
      by_cases hlt : i < L.length
      · obtain ⟨⟨T, N⟩, hx⟩ : ∃ x, L[i]? = some x := ⟨_, List.getElem?_eq_getElem hlt⟩
        obtain ⟨_, e, _, c0, c1, c2⟩ := (HP.out.below hb) i T N hx
        cases e
        obtain ⟨_, e, _, d0, d1, d2⟩ := (HQ.out.below hb) i T N hx
        cases e
        clear hx
        generalize L.length = z at *
        generalize baS T = B at *
        go_wp2
        go_quiet (fail)
        go_wp2
        go_roundw
        case rel => exact ⟨i + 1, by simp, by omega, bdrew hb _⟩
        case measure => simp [intN]; omega
      · obtain rfl : i = L.length := by omega
        go_wp2
        go_ret
        exact ⟨rfl, hb⟩
end Go.Proofs.YtfmanmidihofgaaDoor
