/- Rows of texts that a law makes: how long they are when told; a text of bytes that may stand in a field. -/
import Derived.Test.YtcfminkmidaaoaaDoorVu
import Derived.Test.YtcfminkmidaaoaaDoorVx
import Derived.Test.YtcfminkmidaaoaaDoorVr
import Derived.Test.YtcfminkmidaaoaaDoorTl
namespace Go.Proofs.YtcfminkmidaaoaaDoor
open Go.ChangeShapes Go.WideShapes Go.RowKit Go.Sort
def totS (R : List (List Bs)) : Nat := (R.map List.length).sum
theorem totS_snoc (R : List (List Bs)) (row : List Bs) : totS (R ++ [row]) = totS R + row.length := by simp [totS]
theorem joinP_bound (f : Bs → Bs) (m : Nat) : ∀ row : List Bs, (∀ s ∈ row, (f s).length ≤ m) → (joinP f row).length ≤ (m + 1) * row.length := by
  intro row h
  have : (row.flatMap (fun s => 44 :: f s)).length ≤ (m + 1) * row.length := by
    induction row with
    | nil => simp
    | cons a q ih =>
      have h1 := h a (by simp)
      have h2 := ih (fun s hs => h s (by simp [hs]))
      rw [List.flatMap_cons, List.length_append, List.length_cons, List.length_cons, Nat.mul_add]; omega
  unfold joinP
  rw [List.length_drop]; omega
theorem print_bound {m : Nat} : ∀ R : List (List Bs), (∀ row ∈ R, ∀ s ∈ row, s.length ≤ m) → (printV R).length ≤ R.length + (2 * m + 3) * totS R
  | [], _ => by simp [printV]
  | row :: q, h => by
    have ih := print_bound q (fun r hr => h r (by simp [hr]))
    have h1 := joinP_bound (fieldP (row.length == 1)) (2 * m + 2) row (fun s hs => Nat.le_trans (fieldP_len _ s) (by have := h row (by simp) s hs; omega))
    have e : printV (row :: q) = rowP row ++ printV q := by simp [printV]
    have e2 : (rowP row).length = (joinP (fieldP (row.length == 1)) row).length + 1 := by unfold rowP; simp
    have e3 : totS (row :: q) = row.length + totS q := by simp [totS]
    rw [show 2 * m + 2 + 1 = 2 * m + 3 from rfl] at h1
    rw [e, List.length_append, e2, e3, List.length_cons, Nat.mul_add]; omega
theorem RecP.belowX {α : Type} {R : RowP α} {w w' : World} {p : Option Addr} {L : List (List α)} (h : RecP R w p L) (hb : Below w.heap.size w w') : RecP R w' p L := h.below hb
theorem infoSR : (Tryd.prog.info? 43).map (fun i => (i.zero, i.size, i.bytes)) = some (some (.slice none 0 0), 1, 24) := by kernel_rfl
/-- A byte of ten that may stand in a field. -/
def alphas : Bs := [10, 13, 34, 44, 97, 98, 32, 48, 49, 57]
def alphaB (c : UInt8) : UInt8 := alphas.getD (c.toNat % 10) 0
theorem alpha_ok (c : UInt8) : qokB (alphaB c) = true := by
  have : ∀ n, n < 256 → qokB (alphaB (UInt8.ofNat n)) = true := by decide +kernel
  have e := this c.toNat c.toNat_lt
  rwa [show UInt8.ofNat c.toNat = c by simp] at e
theorem alpha_take {l : Bs} {k : Nat} {c : UInt8} (h : l[k]? = some c) : (l.take (k + 1)).map alphaB = (l.take k).map alphaB ++ [alphaB c] := by
  rw [List.take_add_one, h]; simp
theorem u8_and255 (c : UInt8) : bits .and .u8 (c.toNat : Int) 255 = (c.toNat : Int) := by
  have : ∀ n : Nat, n < 256 → bits .and .u8 (n : Int) 255 = (n : Int) := by decide +kernel
  exact this c.toNat c.toNat_lt
theorem u8_mod10 (c : UInt8) : ((c.toNat : Int)).tmod 10 = ((c.toNat % 10 : Nat) : Int) := by
  rw [Int.tmod_eq_emod_of_nonneg (by omega)]; omega
end Go.Proofs.YtcfminkmidaaoaaDoor
