/- The library's LastIndexByte, Cut, TrimSuffix at one byte. -/
import Derived.Test.YtcfminkmidaaoaaDoorSb
namespace Go.Proofs.YtcfminkmidaaoaaDoor
open Go.ChangeShapes Go.WideShapes Go.RowKit Go.Sort
def intN : Value → Nat
  | .int _ i => (i + 1).toNat
  | _ => 0
theorem bytesAt_cell {w : World} {ad : Addr} {l : Bs} (h : BytesAt w (some ad) l) (j : Nat) (hj : j < l.length) : w.cell? (ad.add j) = some (.int .u8 (((l[j]'hj).toNat : Nat) : Int)) := by
  obtain ⟨ad', e, _, hc⟩ := h j _ (List.getElem?_eq_getElem hj)
  cases e; exact hc
/-- What bytes.Cut hands back at one line feed. -/
def cutE (l : Bs) (a : Option Addr) (c : Nat) : Value :=
  if 10 ∈ l then .tuple #[.slice a (l.takeWhile (fun c => c != 10)).length c, .slice (adv a c ((l.takeWhile (fun c => c != 10)).length + 1)) (l.length - ((l.takeWhile (fun c => c != 10)).length + 1)) (c - ((l.takeWhile (fun c => c != 10)).length + 1)), .bool true] else .tuple #[.slice a l.length c, .slice none 0 0, .bool false]
theorem drop_last {l : Bs} {k : Nat} (h : l.length = k + 1) : (l.drop k = [13]) ↔ l.getLast? = some 13 := by
  have hk : k < l.length := by omega
  rw [List.getLast?_eq_getElem?, h, Nat.add_sub_cancel, List.getElem?_eq_getElem hk, List.drop_eq_getElem_cons hk, List.drop_eq_nil_of_le (by omega)]
  simp
theorem one13 {w : World} {g : Nat} (hs : w.cell? ⟨g, 0, none⟩ = some (.int .u8 13)) : BytesAt w (some ⟨g, 0, none⟩) [13] := fun j b hj => by
  cases j with
  | zero =>
    simp at hj; subst hj
    exact ⟨_, rfl, World.block_lt_of_cell? _ _ hs, by simpa [Addr.add] using hs⟩
  | succ j => simp at hj
end Go.Proofs.YtcfminkmidaaoaaDoor
