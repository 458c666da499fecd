/- Package json: digit, digits. -/
import Derived.Test.YtgiihljiekagdaaDoorKg
namespace Go.Proofs.YtgiihljiekagdaaDoor
open Go.ChangeShapes Go.WideShapes Go.RowKit Go.Sort
/-- A digit at a place. -/
def digOf (l : Bs) (i : Nat) : Option Nat := (l[i]?).bind hexJ
set_option maxHeartbeats 4000000 in
set_option maxRecDepth 100000 in
theorem digit_x {l : Bs} {b o c R : Nat} {w : World} {i : Nat} (hs : Src l b o c R w) (h : Rd l.length b o c R w i 0 0) (hi : i ≤ l.length) :
    Calls Tryd.prog 98 #[.pointer (some ⟨R, 0, none⟩)] w fun e w' => But R w w' ∧
      ((∃ d, digOf l i = some d ∧ i < l.length ∧ e = .returned (.tuple #[.int .i32 (d : Int), .bool true]) ∧ Rd l.length b o c R w' (i + 1) 0 0) ∨
       (digOf l i = none ∧ e = .returned (.tuple #[.int .i32 0, .bool false]) ∧ Rd l.length b o c R w' i 1 (i : Int))) := by
  have HS := Lib.hid hs
  have HR := Lib.hid h
  have hsm := hs.small
  have hcap := hs.cap
  clear hs
  obtain ⟨c0, c1, c2, c3, fz, lt⟩ := h
  by_cases hlt : i < l.length
  · have hget := List.getElem?_eq_getElem hlt
    have hcell := HS.out.byte hget
    have hd : Hid (digOf l i = hexJ (l[i]'hlt)) := Lib.hid (by unfold digOf; rw [hget]; rfl)
    have HX := Lib.hid (fun V => hexDigit_x (l[i]'hlt) V)
    generalize l[i]'hlt = y at *
    have HC : Hid (∀ V, Calls Tryd.prog 100 #[.int .u8 (y.toNat : Int)] V fun e w' => e = .returned (hexE (hexJ y)) ∧ Below V.heap.size V w') := Lib.hid (fun V => (HX.out V).mono fun e w' ⟨h1, h2⟩ => ⟨h1, h2 ▸ Below.refl _ _⟩)
    clear HX hget
    have hw : IntKind.i64.wrap ((i : Int) + 1) = ((i + 1 : Nat) : Int) := by rw [IntKind.wrap_i64]; omega
    have HW := Lib.hid hw
    clear hw
    cases hh : hexJ y with
    | some d =>
      rw [hh] at hd HC
      replace HC : Hid (∀ V, Calls Tryd.prog 100 #[.int .u8 (y.toNat : Int)] V fun e w' => e = .returned (.tuple #[.int .i32 (d : Int), .bool true]) ∧ Below V.heap.size V w') := HC
      clear hh
      go_enter Tryd.func98, Tryd.ntmps98
      go_wp2_with fail
      go_quiet (fail)
      go_wp2_with fail
      generalize hW : w.drewN _ = V1
      have BQ : Below w.heap.size w V1 := hW ▸ bdrew (Below.refl _ _) _
      clear hW
      obtain ⟨d0, d1, d2, d3, dz, dl⟩ := HR.out.below BQ
      have r0 := cell_regrown d0
      have r1 := cell_regrown d1
      have r2 := cell_regrown ((olds BQ b (o + i) HS.out.ltb).trans hcell)
      clear c0 c1 c2 c3 fz lt hcell d0 d1 d2 d3 dz dl
      refine wp_region_quiet_below (by kernel_rfl) (by kernel_rfl) ?_
      repeat (go_big_quiet_step (first | (go_at_call 100; exact Calls.regrown_of (HC.out _))))
      refine wpQuiet_nil ?_
      intro _ hw'
      obtain ⟨⟨dq, osq⟩, hw''⟩ := hw'
      subst hw''
      have BR := below_next BQ (below_regrown V1 dq osq)
      clear r0 r1 r2
      generalize grow (redrawn V1 dq) osq = V at *
      have HV := Lib.hid (HR.out.below BR)
      have hw := HW.out
      obtain ⟨d0, d1, d2, d3, dz, dl⟩ := HR.out.below BR
      go_wp2_with fail
      go_ret2
      exact ⟨(But.of R BR).set _ _, .inl ⟨d, hd.out, hlt, rfl, HV.out.at_ (i + 1)⟩⟩
    | none =>
      rw [hh] at hd HC
      replace HC : Hid (∀ V, Calls Tryd.prog 100 #[.int .u8 (y.toNat : Int)] V fun e w' => e = .returned (.tuple #[.int .i32 0, .bool false]) ∧ Below V.heap.size V w') := HC
      clear hh
      go_enter Tryd.func98, Tryd.ntmps98
      go_wp2_with fail
      go_quiet (fail)
      go_wp2_with fail
      generalize hW : w.drewN _ = V1
      have BQ : Below w.heap.size w V1 := hW ▸ bdrew (Below.refl _ _) _
      clear hW
      obtain ⟨d0, d1, d2, d3, dz, dl⟩ := HR.out.below BQ
      have r0 := cell_regrown d0
      have r1 := cell_regrown d1
      have r2 := cell_regrown ((olds BQ b (o + i) HS.out.ltb).trans hcell)
      clear c0 c1 c2 c3 fz lt hcell d0 d1 d2 d3 dz dl
      refine wp_region_quiet_below (by kernel_rfl) (by kernel_rfl) ?_
      repeat (go_big_quiet_step (first | (go_at_call 100; exact Calls.regrown_of (HC.out _))))
      refine wpQuiet_nil ?_
      intro _ hw'
      obtain ⟨⟨dq, osq⟩, hw''⟩ := hw'
      subst hw''
      have BR := below_next BQ (below_regrown V1 dq osq)
      clear r0 r1 r2
      generalize grow (redrawn V1 dq) osq = V at *
      have HV := Lib.hid (HR.out.below BR)
      have hw := HW.out
      obtain ⟨d0, d1, d2, d3, dz, dl⟩ := HR.out.below BR
      go_wp2_with fail
      refine (fail_x HV.out 1 (i : Int)).mono ?_
      rintro e w5 ⟨rfl, h1, h2⟩
      go_wp2_with fail
      go_ret2
      exact ⟨(But.of R BR).trans h2, .inr ⟨hd.out, rfl, h1⟩⟩
  · have hd : Hid (digOf l i = none) := Lib.hid (by unfold digOf; rw [List.getElem?_eq_none (by omega)]; rfl)
    have hd2 : decide (i < l.length) = false := by simpa using hlt
    generalize hn : l.length = n at *
    go_enter Tryd.func98, Tryd.ntmps98
    go_wp2_with fail
    go_quiet (fail)
    go_wp2_with fail
    generalize hW : w.drewN _ = V1
    have BQ : Below w.heap.size w V1 := hW ▸ bdrew (Below.refl _ _) _
    clear hW
    have HV := Lib.hid (HR.out.below BQ)
    obtain ⟨d0, d1, d2, d3, dz, dl⟩ := HR.out.below BQ
    go_wp2_with fail
    refine (fail_x HV.out 1 (i : Int)).mono ?_
    rintro e w5 ⟨rfl, h1, h2⟩
    go_wp2_with fail
    go_ret2
    exact ⟨(But.of R BQ).trans h2, .inr ⟨hd.out, rfl, h1⟩⟩
end Go.Proofs.YtgiihljiekagdaaDoor
