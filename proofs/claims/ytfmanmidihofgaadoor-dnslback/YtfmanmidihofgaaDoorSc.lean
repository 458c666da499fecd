/- The library's LastIndexByte, Cut, TrimSuffix at one byte. -/
import Derived.Test.YtfmanmidihofgaaDoorSb
namespace Go.Proofs.YtfmanmidihofgaaDoor
open Go.ChangeShapes Go.WideShapes Go.RowKit Go.Sort
def intN : Value → Nat
  | .int _ i => (i + 1).toNat
  | _ => 0
theorem bytesAt_cell {w : World} {ad : Addr} {l : Bs} (h : BytesAt w (some ad) l) (j : Nat) (hj : j < l.length) : w.cell? (ad.add j) = some (.int .u8 (((l[j]'hj).toNat : Nat) : Int)) := by
  obtain ⟨ad', e, _, hc⟩ := h j _ (List.getElem?_eq_getElem hj)
  cases e; exact hc
/-- What bytes.Cut hands back at one line feed. -/
def cutE (l : Bs) (a : Option Addr) (c : Nat) : Value :=
  if 10 ∈ l then .tuple #[.slice a (l.takeWhile (fun c => c != 10)).length c, .slice (adv a c ((l.takeWhile (fun c => c != 10)).length + 1)) (l.length - ((l.takeWhile (fun c => c != 10)).length + 1)) (c - ((l.takeWhile (fun c => c != 10)).length + 1)), .bool true] else .tuple #[.slice a l.length c, .slice none 0 0, .bool false]
set_option maxHeartbeats 2000000 in
set_option maxRecDepth 100000 in
theorem bcut_x (l : Bs) (a : Option Addr) (c g : Nat) (w : World) (h : BytesAt w a l) (hc : l.length ≤ c) (hl : l.length ≤ 1000000) (hs : w.cell? ⟨g, 0, none⟩ = some (.int .u8 10)) :
    Calls Tryd.prog 32 #[.slice a l.length c, .slice (some ⟨g, 0, none⟩) 1 1] w fun e w' => e = .returned (cutE l a c) ∧ ∃ q, w' = w.drewN q := by
  have H := Lib.hid (bindex_x l a c g w h hs)
  by_cases hm : Lib.indexByte l 10 = -1
  · have hn : 10 ∉ l := fun e => by
      obtain ⟨k, hk⟩ := List.mem_iff_getElem?.1 e
      exact Lib.indexByte_none hm k hk
    rw [hm] at H
    unfold cutE
    rw [if_neg hn]
    clear h hm
    go_enter Tryd.func32, Tryd.ntmps32
    go_wp2_with fail
    refine H.out.mono ?_
    rintro e w' ⟨rfl, rfl⟩
    go_wp2
    go_ret3
    exact ⟨rfl, 0, rfl⟩
  · obtain ⟨o, ho⟩ : ∃ o : Nat, Lib.indexByte l 10 = o := ⟨(Lib.indexByte l 10).toNat, by have := Lib.indexByte_ge l 10; omega⟩
    obtain ⟨h1, h2⟩ := Lib.indexByte_some ho
    obtain ⟨e1, e2⟩ := take_while h1 h2
    have ho2 : o < l.length := (List.getElem?_eq_some_iff.1 h1).1
    rw [ho] at H
    unfold cutE
    rw [if_pos e2, e1, show (l.take o).length = o by rw [List.length_take]; omega]
    have e3 : IntKind.i64.wrap ((o : Int) + 1) = (o : Int) + 1 := by rw [IntKind.wrap_i64]; omega
    clear h hm h1 h2 e1 e2 ho
    go_enter Tryd.func32, Tryd.ntmps32
    go_wp2_with fail
    refine H.out.mono ?_
    rintro e w' ⟨rfl, rfl⟩
    go_wp2
    go_quiet (fail)
    all_goals go_wp2
    all_goals go_ret3
    all_goals refine ⟨?_, _, rfl⟩
    all_goals simp [adv, Addr.add, *]
set_option maxHeartbeats 2000000 in
set_option maxRecDepth 100000 in
theorem bequal_x (x y : Bs) (a b : Option Addr) (c d : Nat) (w : World) (h : BytesAt w a x) (k : BytesAt w b y) :
    Calls Tryd.prog 47 #[.slice a x.length c, .slice b y.length d] w fun e w' => e = .returned (.bool (decide (x = y))) ∧ w' = w := by
  have h1 := conv_bytes c h
  have h2 := conv_bytes d k
  clear h k
  generalize x.length = m at *
  generalize y.length = n at *
  go_enter Tryd.func47, Tryd.ntmps47
  go_wp2
  go_ret
  refine ⟨?_, rfl⟩
  show Ending.returned (Value.bool ((baS x).toList == (baS y).toList)) = _
  have e : ∀ l : Bs, (baS l).toList = l := fun l => by rw [Lib.toList_data]; simp [baS]
  rw [e, e]
  congr 2
  by_cases hxy : x = y <;> simp [hxy]
theorem drop_last {l : Bs} {k : Nat} (h : l.length = k + 1) : (l.drop k = [13]) ↔ l.getLast? = some 13 := by
  have hk : k < l.length := by omega
  rw [List.getLast?_eq_getElem?, h, Nat.add_sub_cancel, List.getElem?_eq_getElem hk, List.drop_eq_getElem_cons hk, List.drop_eq_nil_of_le (by omega)]
  simp
theorem one13 {w : World} {g : Nat} (hs : w.cell? ⟨g, 0, none⟩ = some (.int .u8 13)) : BytesAt w (some ⟨g, 0, none⟩) [13] := fun j b hj => by
  cases j with
  | zero =>
    simp at hj; subst hj
    exact ⟨_, rfl, World.block_lt_of_cell? _ _ hs, by simpa [Addr.add] using hs⟩
  | succ j => simp at hj
set_option maxHeartbeats 2000000 in
set_option maxRecDepth 100000 in
theorem bsuffix_x (l : Bs) (a : Option Addr) (c g : Nat) (w : World) (h : BytesAt w a l) (hc : l.length ≤ c) (hl : l.length ≤ 1000000) (hs : w.cell? ⟨g, 0, none⟩ = some (.int .u8 13)) :
    Calls Tryd.prog 42 #[.slice a l.length c, .slice (some ⟨g, 0, none⟩) 1 1] w fun e w' => e = .returned (.bool (decide (l.getLast? = some 13))) ∧ w' = w := by
  cases hk : l.length with
  | zero =>
    obtain rfl := List.length_eq_zero_iff.1 hk
    go_enter Tryd.func42, Tryd.ntmps42
    go_wp2
    go_ret
    exact ⟨rfl, rfl⟩
  | succ k =>
    have H := bequal_x (l.drop k) [13] (adv a c k) (some ⟨g, 0, none⟩) (c - k) 1 w (h.drop c k hc) (one13 hs)
    rw [show (l.drop k).length = 1 by rw [List.length_drop]; omega, show [(13 : UInt8)].length = 1 from rfl, decide_eq_decide.2 (drop_last hk)] at H
    have H := Lib.hid H
    have S := fun V => sl_l a (k + 1) c k (by omega) V
    rw [show k + 1 - k = 1 by omega] at S
    have e3 : IntKind.i64.wrap ((((k + 1 : Nat)) : Int) - 1) = (k : Int) := by rw [IntKind.wrap_i64]; omega
    have e4 : IntKind.i64.wrap ((k : Int) + 1 - 1) = (k : Int) := by rw [IntKind.wrap_i64]; omega
    generalize decide (l.getLast? = some 13) = b at *
    generalize adv a c k = a2 at *
    generalize c - k = c2 at *
    have hk2 : k ≤ 1000000 := by omega
    clear h hc hl hk
    go_enter Tryd.func42, Tryd.ntmps42
    go_wp2_with fail
    refine H.out.mono ?_
    rintro e w' ⟨rfl, rfl⟩
    go_wp2
    go_ret
    exact ⟨rfl, rfl⟩
set_option maxHeartbeats 2000000 in
set_option maxRecDepth 100000 in
theorem btrim_x (l : Bs) (a : Option Addr) (c g : Nat) (w : World) (h : BytesAt w a l) (hc : l.length ≤ c) (hl : l.length ≤ 1000000) (hs : w.cell? ⟨g, 0, none⟩ = some (.int .u8 13)) :
    Calls Tryd.prog 33 #[.slice a l.length c, .slice (some ⟨g, 0, none⟩) 1 1] w fun e w' => e = .returned (.slice a (trimV l).length c) ∧ w' = w := by
  have H := bsuffix_x l a c g w h hc hl hs
  by_cases ht : l.getLast? = some 13
  · rw [decide_eq_true ht] at H
    have H := Lib.hid H
    have hp : 0 < l.length := by cases l with | nil => simp at ht | cons a r => simp
    have S := fun V => sl_h a l.length c (l.length - 1) (by omega) V
    have e3 : IntKind.i64.wrap ((l.length : Int) - 1) = ((l.length - 1 : Nat) : Int) := by rw [IntKind.wrap_i64]; omega
    have e5 : (trimV l).length = l.length - 1 := by unfold trimV; rw [if_pos ht]; simp
    rw [e5]
    clear h hc hl ht e5
    generalize l.length - 1 = m at *
    go_enter Tryd.func33, Tryd.ntmps33
    go_wp2_with fail
    refine H.out.mono ?_
    rintro e w' ⟨rfl, rfl⟩
    go_wp2
    go_ret
    exact ⟨rfl, rfl⟩
  · rw [decide_eq_false ht] at H
    have H := Lib.hid H
    rw [show trimV l = l from if_neg ht]
    clear h hc hl ht
    go_enter Tryd.func33, Tryd.ntmps33
    go_wp2_with fail
    refine H.out.mono ?_
    rintro e w' ⟨rfl, rfl⟩
    go_wp2
    go_ret
    exact ⟨rfl, rfl⟩
end Go.Proofs.YtfmanmidihofgaaDoor
