/- ScanTells: for any bytes and any place the law answers true. -/
import Derived.Test.YtlhllhdjcbaipaaSh
namespace Go.Proofs.Ytlhllhdjcbaipaa
open Go.ChangeShapes Go.WideShapes Go.RowKit Go.Sort
set_option maxHeartbeats 4000000 in
set_option maxRecDepth 100000 in
theorem stells_short (a : Option Addr) (l : Bs) (c : Nat) (t0 : Int) (w : World) (h : BytesAt w a l) (hc : l.length ≤ c) (hl : l.length ≤ 500) :
    Calls Try.prog 5 #[.slice a l.length c, .int .i64 t0] w fun e w' => e = .returned (.bool true) ∧ Below w.heap.size w w' := by
  have HH := Lib.hid h
  have HW : Hid (∀ (V : World) (t : Int), BytesAt V a l → Calls Try.prog 7 #[.slice a l.length c, .int .i64 t] V fun e w' => e = .returned (.tuple #[.int .i64 (1 + (lfs (l.take (heldAt l t)) : Int)), .int .i64 (1 + (since (l.take (heldAt l t)) : Int))]) ∧ Below V.heap.size V w') := fun V t hV => where_x l a c t V hV hc (by omega)
  have HR : Hid (∀ (V : World) (t : Int), BytesAt V a l → Calls Try.prog 11 #[.slice a l.length c, .int .i64 t] V fun e w' => e = .returned (.tuple #[.int .i64 (1 + (lfs (l.take (heldAt l t)) : Int)), .int .i64 (1 + (since (l.take (heldAt l t)) : Int))]) ∧ w' = V) := fun V t hV => whereR_x l a c t V hV (by omega)
  have HL : Hid (∀ V : World, BytesAt V a l → Calls Try.prog 9 #[.slice a l.length c] V fun e w' => LinesE V (linesV l) e w') := fun V hV => lines_x l a c V hV hc (by omega)
  have HS : Hid (∀ V : World, BytesAt V a l → Calls Try.prog 13 #[.slice a l.length c] V fun e w' => LinesE V (linesV l) e w') := fun V hV => linesR_x l a c V hV hc (by omega)
  have HN : Hid ((linesV l).length ≤ 1000000) := Nat.le_trans (linesV_len l) (by omega)
  have hw1 : IntKind.i64.wrap ((l.length : Int) + 1) = (l.length : Int) + 1 := by rw [IntKind.wrap_i64]; omega
  clear h
  generalize linesV l = L at *
  go_enter Try.func5, Try.ntmps5
  go_wp2_with fail
  go_loopw [1, 5] (fun tv iv wr => ∃ (t : Int) (i : Nat), tv = .int .i64 t ∧ iv = .int .i64 (i : Int) ∧ i ≤ 2 ∧ Below w.heap.size w wr) (fun _ iv _ => 3 - intN iv)
  case atStart => exact ⟨t0, 0, rfl, rfl, by omega, Below.refl _ _⟩
  case round =>
    obtain ⟨t, i, rfl, rfl, hi, hb⟩ := hrel
    by_cases hlt : i < 2
    · go_wp2_with fail
      refine (HW.out wr t (HH.out.below hb)).mono ?_
      rintro e w1 ⟨rfl, hb1⟩
      have B1 := below_next hb hb1
      go_wp2_with fail
      refine (HR.out w1 t (HH.out.below B1)).mono ?_
      rintro e w2 ⟨rfl, rfl⟩
      clear hb hb1 HW HR HL HS
      generalize lfs (l.take (heldAt l t)) = f at *
      generalize since (l.take (heldAt l t)) = s at *
      go_wp2
      go_roundw
      case rel => exact ⟨_, i + 1, rfl, by simp, by omega, B1⟩
      case measure => simp [intN]; omega
    · obtain rfl : i = 2 := by omega
      go_wp2_with fail
      refine (HL.out wr (HH.out.below hb)).mono ?_
      rintro e w1 ⟨hb1, p, d, rfl, ht1⟩
      have B1 := below_next hb hb1
      go_wp2_with fail
      refine (HS.out w1 (HH.out.below B1)).mono ?_
      rintro e w2 ⟨hb2, q, d2, rfl, ht2⟩
      have B2 := below_next B1 hb2
      have ht1' := ht1.below hb2
      have HX := Lib.hid (same_x L p q d d2 w2 ht1' ht2 HN.out)
      clear hb hb1 hb2 HW HR HL HS ht1 ht2 ht1' B1
      go_wp2_with fail
      refine HX.out.mono ?_
      rintro e w3 ⟨rfl, hb3⟩
      have B3 := below_next B2 hb3
      clear hb3 B2 HX
      go_wp2_with fail
      refine (awake7_x w3).mono ?_
      rintro e w4 ⟨rfl, hb4⟩
      go_wp2
      go_ret
      exact ⟨rfl, below_next B3 hb4⟩
set_option maxHeartbeats 4000000 in
set_option maxRecDepth 100000 in
theorem stells_long (a : Option Addr) (n c : Nat) (t0 : Int) (w : World) (hn : 500 < n) :
    Calls Try.prog 5 #[.slice a n c, .int .i64 t0] w fun e w' => e = .returned (.bool true) ∧ Below w.heap.size w w' := by
  go_enter Try.func5, Try.ntmps5
  go_wp2_with fail
  refine (awake7_x w).mono ?_
  rintro e w3 ⟨rfl, hb3⟩
  go_wp2
  go_ret
  exact ⟨rfl, hb3⟩
theorem stells_walk (a : Option Addr) (l : Bs) (c : Nat) (t : Int) (w : World) (hc : l.length ≤ c) (h : BytesAt w a l) :
    Calls Try.prog 5 #[.slice a l.length c, .int .i64 t] w fun e w' => e = .returned (.bool true) ∧ Below w.heap.size w w' := by
  by_cases hl : l.length ≤ 500
  · exact stells_short a l c t w h hc hl
  · exact stells_long a l.length c t w (by omega)
end Go.Proofs.Ytlhllhdjcbaipaa
