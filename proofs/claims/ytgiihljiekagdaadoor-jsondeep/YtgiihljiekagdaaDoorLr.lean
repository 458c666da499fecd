/- Package json: bare. -/
import Derived.Test.YtgiihljiekagdaaDoorLq
import Derived.Test.YtgiihljiekagdaaDoorLo
namespace Go.Proofs.YtgiihljiekagdaaDoor
open Go.ChangeShapes Go.WideShapes Go.RowKit Go.Sort
def InR (room : Nat) : Int := ((64 - room : Nat) : Int)
theorem nil_x {room : Nat} {l : Bs} {b o c R : Nat} {w : World} {i : Nat} (hs : Src l b o c R w) (h : Rd l.length b o c R w i 0 0) (hi : i ≤ l.length) (h0 : l[i]? = none) (X : Int) :
    Calls Tryd.prog 27 #[.pointer (some ⟨R, 0, none⟩), .int .i64 X] w fun e w' => ValP (room + 1) l b o c R w (bareR room l i) e w' := by
  have hE := Lib.hid (bareR_nil (room := room) h0)
  have hil : i = l.length := Nat.le_antisymm hi (List.getElem?_eq_none_iff.1 h0)
  have HIL := Lib.hid hil
  have HS := Lib.hid hs
  have HRL : Hid (R < w.heap.size) := h.lt
  have HR : Hid (Rd i b o c R w i 0 0) := by rw [hil] at h ⊢; exact h
  clear hs h hi h0 hil
  go_enter Tryd.func27, Tryd.ntmps27
  go_wp2_with fail
  have Z0 := Six.zero w
  have B0 : Below w.heap.size w (w.alloc (.cells #[.int .i64 0, .int .i64 0, .string { data := #[] }, .slice none 0 0, .slice none 0 0, .int .i64 0] 26)) := ball (Below.refl _ _)
  have HJJ : Hid (w.heap.size = w.heap.size) := rfl
  have R0 := HR.out.below B0
  generalize w.alloc (.cells #[.int .i64 0, .int .i64 0, .string { data := #[] }, .slice none 0 0, .slice none 0 0, .int .i64 0] 26) = w0 at *
  generalize hJ : w.heap.size = J at *
  replace HJJ : Hid (w.heap.size = J) := hJ
  have RZ := Lib.hid R0
  obtain ⟨c0, c1, c2, c3, fz, lt⟩ := R0
  go_quiet (fail)
  go_wp2_with fail
  generalize hW : w0.drewN _ = w1
  have BQ : Below w0.heap.size w0 w1 := hW ▸ bdrew (Below.refl _ _) _
  have BB : Hid (But R w w1) := Lib.hid (.of R (hJ ▸ below_next (hJ ▸ B0) BQ))
  have R1 := Lib.hid (RZ.out.below BQ)
  have Z1 := Lib.hid (Z0.below BQ)
  have hl1 : Hid (J < w1.heap.size) := Z1.out.lt
  clear hW hJ B0 BQ RZ Z0 HR c0 c1 c2 c3 fz lt
  obtain ⟨c0, c1, c2, c3, fz, lt⟩ := R1.out
  go_wp2_with fail
  refine (fail_x (by simpa using R1.out) 1 (i : Int)).mono ?_
  rintro e w5 ⟨rfl, k1, k2⟩
  have ZZ := Lib.hid (Z1.out.but k2 (by have := HRL.out; omega))
  obtain ⟨z0, z1, z2, z3, z4, z5, zf, zl⟩ := ZZ.out
  obtain ⟨y0, y1, y2, y3, y4, y5, yf, yl⟩ := ZZ.out.put (.int .i64 0) (.int .i64 0) (.string { data := #[] }) (.slice none 0 0) (.slice none 0 0) (.int .i64 0)
  unfold put6 at y0 y1 y2 y3 y4 y5
  have K2 := Lib.hid (BB.out.trans k2)
  have K1 := Lib.hid k1
  clear k1 k2 Z1
  go_wp2_with fail
  refine bodyPost_ret (v := .tuple #[aggJ 0 0 [] none 0 0 none 0 0 0, .bool false]) (by simp [results, Tryd.results27, go_sem, aggJ, y0, y1, y2, y3, y4, y5]; rfl) rfl ?_
  exact leaf_bad (RES := J) (j := i) (t0 := []) K2.out ⟨Nat.le_of_eq HJJ.out, by have := HRL.out; have := HJJ.out; omega⟩ hE.out (by rw [← HIL.out]; exact K1.out) (by unfold put6; rfl) rfl
theorem null_x {room : Nat} {l : Bs} {b o c R : Nat} {w : World} {i : Nat} (hs : Src l b o c R w) (h : Rd l.length b o c R w i 0 0) (h0 : l[i]? = some 110) :
    Calls Tryd.prog 27 #[.pointer (some ⟨R, 0, none⟩), .int .i64 (InR room)] w fun e w' => ValP (room + 1) l b o c R w (bareR room l i) e w' := by
  have hE := Lib.hid (bareR_word (room := room) h0 [110, 117, 108, 108] 1 (.inl ⟨rfl, rfl, rfl⟩))
  have H0 := Lib.hid h0
  have hi := (List.getElem?_eq_some_iff.1 h0).1
  have HI := Lib.hid hi
  have hcap := hs.cap
  have hsm := hs.small
  have HS := Lib.hid hs
  have HR := Lib.hid h
  have HRL : Hid (R < w.heap.size) := h.lt
  have HBY := Lib.hid (hs.byte h0)
  have HNE : Hid (¬ ((i : Int) = (l.length : Int))) := Lib.hid (by omega)
  have HLT : Hid ((i : Int) < (l.length : Int)) := Lib.hid (by omega)
  clear hs h h0
  go_enter Tryd.func27, Tryd.ntmps27
  go_wp2_with fail
  have Z0 := Six.zero w
  have B0 : Below w.heap.size w (w.alloc (.cells #[.int .i64 0, .int .i64 0, .string { data := #[] }, .slice none 0 0, .slice none 0 0, .int .i64 0] 26)) := ball (Below.refl _ _)
  have HJJ : Hid (w.heap.size = w.heap.size) := rfl
  have R0 := HR.out.below B0
  generalize w.alloc (.cells #[.int .i64 0, .int .i64 0, .string { data := #[] }, .slice none 0 0, .slice none 0 0, .int .i64 0] 26) = w0 at *
  generalize hJ : w.heap.size = J at *
  replace HJJ : Hid (w.heap.size = J) := hJ
  have RZ := Lib.hid R0
  obtain ⟨c0, c1, c2, c3, fz, lt⟩ := R0
  have hne := HNE.out
  go_quiet (fail)
  go_wp2_with fail
  generalize hW : w0.drewN _ = w1
  have BQ : Below w0.heap.size w0 w1 := hW ▸ bdrew (Below.refl _ _) _
  have BB : Hid (But R w w1) := Lib.hid (.of R (hJ ▸ below_next (hJ ▸ B0) BQ))
  have R1 := Lib.hid (RZ.out.below BQ)
  have Z1 := Lib.hid (Z0.below BQ)
  have hl1 : Hid (J < w1.heap.size) := Z1.out.lt
  have BY1 := Lib.hid ((keepf BQ b (by have := HS.out.ltb; have := B0.size; omega)).1 (o + i) |>.trans ((keepf (hJ ▸ B0) b (by have := HS.out.ltb; omega)).1 (o + i) |>.trans HBY.out))
  clear hne hW hJ B0 BQ RZ Z0 HR c0 c1 c2 c3 fz lt
  obtain ⟨c0, c1, c2, c3, fz, lt⟩ := R1.out
  have hby := BY1.out
  have hlt := HLT.out
  have hlt2 : ¬ ((l.length : Int) ≤ (i : Int)) := by omega
  go_quiet (fail)
  go_wp2_with fail
  generalize hW : w1.drewN _ = w2
  have BQ2 : Below w1.heap.size w1 w2 := hW ▸ bdrew (Below.refl _ _) _
  have B2 := Lib.hid (BB.out.trans (.of R BQ2))
  have S2 := Lib.hid (HS.out.but B2.out)
  have R2 := Lib.hid (R1.out.below BQ2)
  have Z2 := Lib.hid (Z1.out.below BQ2)
  have hl2 : Hid (J < w2.heap.size) := Z2.out.lt
  clear hW BQ2 BB R1 Z1 hl1 BY1 hby HBY HNE HLT hlt hlt2 c0 c1 c2 c3 fz lt
  refine (spell_x S2.out R2.out (Nat.le_of_lt HI.out) [110, 117, 108, 108] (by decide)).mono ?_
  rintro e w5 ⟨k2, hx⟩
  rcases hx with ⟨j, q1, q2, rfl, q3⟩ | ⟨a, q1, _, rfl, q3⟩
  · have Q3 := Lib.hid q3
    have HE : Hid (bareR room l i = .ok (.mk 1 0 [] [] [] 0) j (l.drop j)) := Lib.hid (by rw [hE.out, q1, PJ.andThen_ok])
    clear q1 q3
    have ZZ := Lib.hid (Z2.out.but k2 (by have := HRL.out; have := HJJ.out; omega))
    obtain ⟨z0, z1, z2, z3, z4, z5, zf, zl⟩ := ZZ.out
    obtain ⟨y0, y1, y2, y3, y4, y5, yf, yl⟩ := ZZ.out.put (.int .i64 1) (.int .i64 0) (.string { data := #[] }) (.slice none 0 0) (.slice none 0 0) (.int .i64 0)
    unfold put6 at y0 y1 y2 y3 y4 y5
    have K2 := Lib.hid k2
    clear k2 Z2
    go_wp2_with fail
    refine bodyPost_ret (v := .tuple #[.agg #[(.int .i64 1), (.int .i64 0), (.string { data := #[] }), (.slice none 0 0), (.slice none 0 0), (.int .i64 0)], .bool true]) (by simp [results, Tryd.results27, go_sem, y0, y1, y2, y3, y4, y5]) rfl ?_
    exact leaf_fin (RES := J) (t := []) (B2.out.trans K2.out) ⟨Nat.le_of_eq HJJ.out, by have := HRL.out; have := HJJ.out; omega⟩ HE.out q2 Q3.out (by unfold put6; rfl) rfl
  · have Q3 := Lib.hid q3
    have HE : Hid (bareR room l i = .bad 1 a) := Lib.hid (by rw [hE.out, q1, PJ.andThen_bad])
    clear q1 q3
    have ZZ := Lib.hid (Z2.out.but k2 (by have := HRL.out; have := HJJ.out; omega))
    obtain ⟨z0, z1, z2, z3, z4, z5, zf, zl⟩ := ZZ.out
    obtain ⟨y0, y1, y2, y3, y4, y5, yf, yl⟩ := ZZ.out.put (.int .i64 1) (.int .i64 0) (.string { data := #[] }) (.slice none 0 0) (.slice none 0 0) (.int .i64 0)
    unfold put6 at y0 y1 y2 y3 y4 y5
    have K2 := Lib.hid k2
    clear k2 Z2
    go_wp2_with fail
    refine bodyPost_ret (v := .tuple #[.agg #[(.int .i64 1), (.int .i64 0), (.string { data := #[] }), (.slice none 0 0), (.slice none 0 0), (.int .i64 0)], .bool false]) (by simp [results, Tryd.results27, go_sem, y0, y1, y2, y3, y4, y5]) rfl ?_
    exact leaf_bad (RES := J) (t0 := []) (B2.out.trans K2.out) ⟨Nat.le_of_eq HJJ.out, by have := HRL.out; have := HJJ.out; omega⟩ HE.out Q3.out (by unfold put6; rfl) rfl
theorem true_x {room : Nat} {l : Bs} {b o c R : Nat} {w : World} {i : Nat} (hs : Src l b o c R w) (h : Rd l.length b o c R w i 0 0) (h0 : l[i]? = some 116) :
    Calls Tryd.prog 27 #[.pointer (some ⟨R, 0, none⟩), .int .i64 (InR room)] w fun e w' => ValP (room + 1) l b o c R w (bareR room l i) e w' := by
  have hE := Lib.hid (bareR_word (room := room) h0 [116, 114, 117, 101] 3 (.inr <| .inl ⟨rfl, rfl, rfl⟩))
  have H0 := Lib.hid h0
  have hi := (List.getElem?_eq_some_iff.1 h0).1
  have HI := Lib.hid hi
  have hcap := hs.cap
  have hsm := hs.small
  have HS := Lib.hid hs
  have HR := Lib.hid h
  have HRL : Hid (R < w.heap.size) := h.lt
  have HBY := Lib.hid (hs.byte h0)
  have HNE : Hid (¬ ((i : Int) = (l.length : Int))) := Lib.hid (by omega)
  have HLT : Hid ((i : Int) < (l.length : Int)) := Lib.hid (by omega)
  clear hs h h0
  go_enter Tryd.func27, Tryd.ntmps27
  go_wp2_with fail
  have Z0 := Six.zero w
  have B0 : Below w.heap.size w (w.alloc (.cells #[.int .i64 0, .int .i64 0, .string { data := #[] }, .slice none 0 0, .slice none 0 0, .int .i64 0] 26)) := ball (Below.refl _ _)
  have HJJ : Hid (w.heap.size = w.heap.size) := rfl
  have R0 := HR.out.below B0
  generalize w.alloc (.cells #[.int .i64 0, .int .i64 0, .string { data := #[] }, .slice none 0 0, .slice none 0 0, .int .i64 0] 26) = w0 at *
  generalize hJ : w.heap.size = J at *
  replace HJJ : Hid (w.heap.size = J) := hJ
  have RZ := Lib.hid R0
  obtain ⟨c0, c1, c2, c3, fz, lt⟩ := R0
  have hne := HNE.out
  go_quiet (fail)
  go_wp2_with fail
  generalize hW : w0.drewN _ = w1
  have BQ : Below w0.heap.size w0 w1 := hW ▸ bdrew (Below.refl _ _) _
  have BB : Hid (But R w w1) := Lib.hid (.of R (hJ ▸ below_next (hJ ▸ B0) BQ))
  have R1 := Lib.hid (RZ.out.below BQ)
  have Z1 := Lib.hid (Z0.below BQ)
  have hl1 : Hid (J < w1.heap.size) := Z1.out.lt
  have BY1 := Lib.hid ((keepf BQ b (by have := HS.out.ltb; have := B0.size; omega)).1 (o + i) |>.trans ((keepf (hJ ▸ B0) b (by have := HS.out.ltb; omega)).1 (o + i) |>.trans HBY.out))
  clear hne hW hJ B0 BQ RZ Z0 HR c0 c1 c2 c3 fz lt
  obtain ⟨c0, c1, c2, c3, fz, lt⟩ := R1.out
  have hby := BY1.out
  have hlt := HLT.out
  have hlt2 : ¬ ((l.length : Int) ≤ (i : Int)) := by omega
  go_quiet (fail)
  go_wp2_with fail
  generalize hW : w1.drewN _ = w2
  have BQ2 : Below w1.heap.size w1 w2 := hW ▸ bdrew (Below.refl _ _) _
  have B2 := Lib.hid (BB.out.trans (.of R BQ2))
  have S2 := Lib.hid (HS.out.but B2.out)
  have R2 := Lib.hid (R1.out.below BQ2)
  have Z2 := Lib.hid (Z1.out.below BQ2)
  have hl2 : Hid (J < w2.heap.size) := Z2.out.lt
  clear hW BQ2 BB R1 Z1 hl1 BY1 hby HBY HNE HLT hlt hlt2 c0 c1 c2 c3 fz lt
  refine (spell_x S2.out R2.out (Nat.le_of_lt HI.out) [116, 114, 117, 101] (by decide)).mono ?_
  rintro e w5 ⟨k2, hx⟩
  rcases hx with ⟨j, q1, q2, rfl, q3⟩ | ⟨a, q1, _, rfl, q3⟩
  · have Q3 := Lib.hid q3
    have HE : Hid (bareR room l i = .ok (.mk 3 0 [] [] [] 0) j (l.drop j)) := Lib.hid (by rw [hE.out, q1, PJ.andThen_ok])
    clear q1 q3
    have ZZ := Lib.hid (Z2.out.but k2 (by have := HRL.out; have := HJJ.out; omega))
    obtain ⟨z0, z1, z2, z3, z4, z5, zf, zl⟩ := ZZ.out
    obtain ⟨y0, y1, y2, y3, y4, y5, yf, yl⟩ := ZZ.out.put (.int .i64 3) (.int .i64 0) (.string { data := #[] }) (.slice none 0 0) (.slice none 0 0) (.int .i64 0)
    unfold put6 at y0 y1 y2 y3 y4 y5
    have K2 := Lib.hid k2
    clear k2 Z2
    go_wp2_with fail
    refine bodyPost_ret (v := .tuple #[.agg #[(.int .i64 3), (.int .i64 0), (.string { data := #[] }), (.slice none 0 0), (.slice none 0 0), (.int .i64 0)], .bool true]) (by simp [results, Tryd.results27, go_sem, y0, y1, y2, y3, y4, y5]) rfl ?_
    exact leaf_fin (RES := J) (t := []) (B2.out.trans K2.out) ⟨Nat.le_of_eq HJJ.out, by have := HRL.out; have := HJJ.out; omega⟩ HE.out q2 Q3.out (by unfold put6; rfl) rfl
  · have Q3 := Lib.hid q3
    have HE : Hid (bareR room l i = .bad 1 a) := Lib.hid (by rw [hE.out, q1, PJ.andThen_bad])
    clear q1 q3
    have ZZ := Lib.hid (Z2.out.but k2 (by have := HRL.out; have := HJJ.out; omega))
    obtain ⟨z0, z1, z2, z3, z4, z5, zf, zl⟩ := ZZ.out
    obtain ⟨y0, y1, y2, y3, y4, y5, yf, yl⟩ := ZZ.out.put (.int .i64 3) (.int .i64 0) (.string { data := #[] }) (.slice none 0 0) (.slice none 0 0) (.int .i64 0)
    unfold put6 at y0 y1 y2 y3 y4 y5
    have K2 := Lib.hid k2
    clear k2 Z2
    go_wp2_with fail
    refine bodyPost_ret (v := .tuple #[.agg #[(.int .i64 3), (.int .i64 0), (.string { data := #[] }), (.slice none 0 0), (.slice none 0 0), (.int .i64 0)], .bool false]) (by simp [results, Tryd.results27, go_sem, y0, y1, y2, y3, y4, y5]) rfl ?_
    exact leaf_bad (RES := J) (t0 := []) (B2.out.trans K2.out) ⟨Nat.le_of_eq HJJ.out, by have := HRL.out; have := HJJ.out; omega⟩ HE.out Q3.out (by unfold put6; rfl) rfl
theorem false_x {room : Nat} {l : Bs} {b o c R : Nat} {w : World} {i : Nat} (hs : Src l b o c R w) (h : Rd l.length b o c R w i 0 0) (h0 : l[i]? = some 102) :
    Calls Tryd.prog 27 #[.pointer (some ⟨R, 0, none⟩), .int .i64 (InR room)] w fun e w' => ValP (room + 1) l b o c R w (bareR room l i) e w' := by
  have hE := Lib.hid (bareR_word (room := room) h0 [102, 97, 108, 115, 101] 2 (.inr <| .inr ⟨rfl, rfl, rfl⟩))
  have H0 := Lib.hid h0
  have hi := (List.getElem?_eq_some_iff.1 h0).1
  have HI := Lib.hid hi
  have hcap := hs.cap
  have hsm := hs.small
  have HS := Lib.hid hs
  have HR := Lib.hid h
  have HRL : Hid (R < w.heap.size) := h.lt
  have HBY := Lib.hid (hs.byte h0)
  have HNE : Hid (¬ ((i : Int) = (l.length : Int))) := Lib.hid (by omega)
  have HLT : Hid ((i : Int) < (l.length : Int)) := Lib.hid (by omega)
  clear hs h h0
  go_enter Tryd.func27, Tryd.ntmps27
  go_wp2_with fail
  have Z0 := Six.zero w
  have B0 : Below w.heap.size w (w.alloc (.cells #[.int .i64 0, .int .i64 0, .string { data := #[] }, .slice none 0 0, .slice none 0 0, .int .i64 0] 26)) := ball (Below.refl _ _)
  have HJJ : Hid (w.heap.size = w.heap.size) := rfl
  have R0 := HR.out.below B0
  generalize w.alloc (.cells #[.int .i64 0, .int .i64 0, .string { data := #[] }, .slice none 0 0, .slice none 0 0, .int .i64 0] 26) = w0 at *
  generalize hJ : w.heap.size = J at *
  replace HJJ : Hid (w.heap.size = J) := hJ
  have RZ := Lib.hid R0
  obtain ⟨c0, c1, c2, c3, fz, lt⟩ := R0
  have hne := HNE.out
  go_quiet (fail)
  go_wp2_with fail
  generalize hW : w0.drewN _ = w1
  have BQ : Below w0.heap.size w0 w1 := hW ▸ bdrew (Below.refl _ _) _
  have BB : Hid (But R w w1) := Lib.hid (.of R (hJ ▸ below_next (hJ ▸ B0) BQ))
  have R1 := Lib.hid (RZ.out.below BQ)
  have Z1 := Lib.hid (Z0.below BQ)
  have hl1 : Hid (J < w1.heap.size) := Z1.out.lt
  have BY1 := Lib.hid ((keepf BQ b (by have := HS.out.ltb; have := B0.size; omega)).1 (o + i) |>.trans ((keepf (hJ ▸ B0) b (by have := HS.out.ltb; omega)).1 (o + i) |>.trans HBY.out))
  clear hne hW hJ B0 BQ RZ Z0 HR c0 c1 c2 c3 fz lt
  obtain ⟨c0, c1, c2, c3, fz, lt⟩ := R1.out
  have hby := BY1.out
  have hlt := HLT.out
  have hlt2 : ¬ ((l.length : Int) ≤ (i : Int)) := by omega
  go_quiet (fail)
  go_wp2_with fail
  generalize hW : w1.drewN _ = w2
  have BQ2 : Below w1.heap.size w1 w2 := hW ▸ bdrew (Below.refl _ _) _
  have B2 := Lib.hid (BB.out.trans (.of R BQ2))
  have S2 := Lib.hid (HS.out.but B2.out)
  have R2 := Lib.hid (R1.out.below BQ2)
  have Z2 := Lib.hid (Z1.out.below BQ2)
  have hl2 : Hid (J < w2.heap.size) := Z2.out.lt
  clear hW BQ2 BB R1 Z1 hl1 BY1 hby HBY HNE HLT hlt hlt2 c0 c1 c2 c3 fz lt
  refine (spell_x S2.out R2.out (Nat.le_of_lt HI.out) [102, 97, 108, 115, 101] (by decide)).mono ?_
  rintro e w5 ⟨k2, hx⟩
  rcases hx with ⟨j, q1, q2, rfl, q3⟩ | ⟨a, q1, _, rfl, q3⟩
  · have Q3 := Lib.hid q3
    have HE : Hid (bareR room l i = .ok (.mk 2 0 [] [] [] 0) j (l.drop j)) := Lib.hid (by rw [hE.out, q1, PJ.andThen_ok])
    clear q1 q3
    have ZZ := Lib.hid (Z2.out.but k2 (by have := HRL.out; have := HJJ.out; omega))
    obtain ⟨z0, z1, z2, z3, z4, z5, zf, zl⟩ := ZZ.out
    obtain ⟨y0, y1, y2, y3, y4, y5, yf, yl⟩ := ZZ.out.put (.int .i64 2) (.int .i64 0) (.string { data := #[] }) (.slice none 0 0) (.slice none 0 0) (.int .i64 0)
    unfold put6 at y0 y1 y2 y3 y4 y5
    have K2 := Lib.hid k2
    clear k2 Z2
    go_wp2_with fail
    refine bodyPost_ret (v := .tuple #[.agg #[(.int .i64 2), (.int .i64 0), (.string { data := #[] }), (.slice none 0 0), (.slice none 0 0), (.int .i64 0)], .bool true]) (by simp [results, Tryd.results27, go_sem, y0, y1, y2, y3, y4, y5]) rfl ?_
    exact leaf_fin (RES := J) (t := []) (B2.out.trans K2.out) ⟨Nat.le_of_eq HJJ.out, by have := HRL.out; have := HJJ.out; omega⟩ HE.out q2 Q3.out (by unfold put6; rfl) rfl
  · have Q3 := Lib.hid q3
    have HE : Hid (bareR room l i = .bad 1 a) := Lib.hid (by rw [hE.out, q1, PJ.andThen_bad])
    clear q1 q3
    have ZZ := Lib.hid (Z2.out.but k2 (by have := HRL.out; have := HJJ.out; omega))
    obtain ⟨z0, z1, z2, z3, z4, z5, zf, zl⟩ := ZZ.out
    obtain ⟨y0, y1, y2, y3, y4, y5, yf, yl⟩ := ZZ.out.put (.int .i64 2) (.int .i64 0) (.string { data := #[] }) (.slice none 0 0) (.slice none 0 0) (.int .i64 0)
    unfold put6 at y0 y1 y2 y3 y4 y5
    have K2 := Lib.hid k2
    clear k2 Z2
    go_wp2_with fail
    refine bodyPost_ret (v := .tuple #[.agg #[(.int .i64 2), (.int .i64 0), (.string { data := #[] }), (.slice none 0 0), (.slice none 0 0), (.int .i64 0)], .bool false]) (by simp [results, Tryd.results27, go_sem, y0, y1, y2, y3, y4, y5]) rfl ?_
    exact leaf_bad (RES := J) (t0 := []) (B2.out.trans K2.out) ⟨Nat.le_of_eq HJJ.out, by have := HRL.out; have := HJJ.out; omega⟩ HE.out Q3.out (by unfold put6; rfl) rfl
theorem textv_x {room : Nat} {l : Bs} {b o c R : Nat} {w : World} {i : Nat} (hs : Src l b o c R w) (h : Rd l.length b o c R w i 0 0) (h0 : l[i]? = some 34) :
    Calls Tryd.prog 27 #[.pointer (some ⟨R, 0, none⟩), .int .i64 (InR room)] w fun e w' => ValP (room + 1) l b o c R w (bareR room l i) e w' := by
  have hE := Lib.hid (bareR_text (room := room) h0)
  have H0 := Lib.hid h0
  have hi := (List.getElem?_eq_some_iff.1 h0).1
  have HI := Lib.hid hi
  have hcap := hs.cap
  have hsm := hs.small
  have HS := Lib.hid hs
  have HR := Lib.hid h
  have HRL : Hid (R < w.heap.size) := h.lt
  have HBY := Lib.hid (hs.byte h0)
  have HNE : Hid (¬ ((i : Int) = (l.length : Int))) := Lib.hid (by omega)
  have HLT : Hid ((i : Int) < (l.length : Int)) := Lib.hid (by omega)
  clear hs h h0
  go_enter Tryd.func27, Tryd.ntmps27
  go_wp2_with fail
  have Z0 := Six.zero w
  have B0 : Below w.heap.size w (w.alloc (.cells #[.int .i64 0, .int .i64 0, .string { data := #[] }, .slice none 0 0, .slice none 0 0, .int .i64 0] 26)) := ball (Below.refl _ _)
  have HJJ : Hid (w.heap.size = w.heap.size) := rfl
  have R0 := HR.out.below B0
  generalize w.alloc (.cells #[.int .i64 0, .int .i64 0, .string { data := #[] }, .slice none 0 0, .slice none 0 0, .int .i64 0] 26) = w0 at *
  generalize hJ : w.heap.size = J at *
  replace HJJ : Hid (w.heap.size = J) := hJ
  have RZ := Lib.hid R0
  obtain ⟨c0, c1, c2, c3, fz, lt⟩ := R0
  have hne := HNE.out
  go_quiet (fail)
  go_wp2_with fail
  generalize hW : w0.drewN _ = w1
  have BQ : Below w0.heap.size w0 w1 := hW ▸ bdrew (Below.refl _ _) _
  have BB : Hid (But R w w1) := Lib.hid (.of R (hJ ▸ below_next (hJ ▸ B0) BQ))
  have R1 := Lib.hid (RZ.out.below BQ)
  have Z1 := Lib.hid (Z0.below BQ)
  have hl1 : Hid (J < w1.heap.size) := Z1.out.lt
  have BY1 := Lib.hid ((keepf BQ b (by have := HS.out.ltb; have := B0.size; omega)).1 (o + i) |>.trans ((keepf (hJ ▸ B0) b (by have := HS.out.ltb; omega)).1 (o + i) |>.trans HBY.out))
  clear hne hW hJ B0 BQ RZ Z0 HR c0 c1 c2 c3 fz lt
  obtain ⟨c0, c1, c2, c3, fz, lt⟩ := R1.out
  have hby := BY1.out
  have hlt := HLT.out
  have hlt2 : ¬ ((l.length : Int) ≤ (i : Int)) := by omega
  go_quiet (fail)
  go_wp2_with fail
  generalize hW : w1.drewN _ = w2
  have BQ2 : Below w1.heap.size w1 w2 := hW ▸ bdrew (Below.refl _ _) _
  clear hW
  have HD : Hid (digitJ (34 : UInt8) = false) := Lib.hid (by decide)
  refine (isDigit_x 34 w2).mono ?_
  rintro e w3 ⟨rfl, hw3⟩
  subst w3
  rw [HD.out]
  have B2 := Lib.hid (BB.out.trans (.of R BQ2))
  have S2 := Lib.hid (HS.out.but B2.out)
  have R2 := Lib.hid (R1.out.below BQ2)
  have Z2 := Lib.hid (Z1.out.below BQ2)
  have hl2 : Hid (J < w2.heap.size) := Z2.out.lt
  clear BQ2 BB R1 Z1 hl1 BY1 hby HBY HNE HLT hlt hlt2 c0 c1 c2 c3 fz lt
  go_wp2_with fail
  refine (text_f S2.out R2.out H0.out).mono ?_
  rintro e w5 ⟨k2, hx⟩
  rcases hx with ⟨x, j, q1, q0, q2, q9, rfl, q3⟩ | ⟨k, a, j, q1, rfl, q3⟩
  · have Q3 := Lib.hid q3
    have HE : Hid (bareR room l i = .ok (.mk 5 0 x [] [] 0) j (l.drop j)) := Lib.hid (by rw [hE.out, q1, PJ.andThen_ok])
    clear q1 q3
    have ZZ := Lib.hid (Z2.out.but k2 (by have := HRL.out; have := HJJ.out; omega))
    obtain ⟨z0, z1, z2, z3, z4, z5, zf, zl⟩ := ZZ.out
    obtain ⟨y0, y1, y2, y3, y4, y5, yf, yl⟩ := ZZ.out.put (.int .i64 5) (.int .i64 0) (.string (baS x)) (.slice none 0 0) (.slice none 0 0) (.int .i64 0)
    unfold put6 at y0 y1 y2 y3 y4 y5
    have K2 := Lib.hid k2
    clear k2 Z2
    go_wp2_with fail
    refine bodyPost_ret (v := .tuple #[.agg #[(.int .i64 5), (.int .i64 0), (.string (baS x)), (.slice none 0 0), (.slice none 0 0), (.int .i64 0)], .bool true]) (by simp [results, Tryd.results27, go_sem, y0, y1, y2, y3, y4, y5]) rfl ?_
    exact leaf_fin (RES := J) (t := x) (B2.out.trans K2.out) ⟨Nat.le_of_eq HJJ.out, by have := HRL.out; have := HJJ.out; omega⟩ HE.out q2 Q3.out (by unfold put6; rfl) rfl
  · have Q3 := Lib.hid q3
    have HE : Hid (bareR room l i = .bad k a) := Lib.hid (by rw [hE.out, q1, PJ.andThen_bad])
    clear q1 q3
    have ZZ := Lib.hid (Z2.out.but k2 (by have := HRL.out; have := HJJ.out; omega))
    obtain ⟨z0, z1, z2, z3, z4, z5, zf, zl⟩ := ZZ.out
    obtain ⟨y0, y1, y2, y3, y4, y5, yf, yl⟩ := ZZ.out.put (.int .i64 5) (.int .i64 0) (.string { data := #[] }) (.slice none 0 0) (.slice none 0 0) (.int .i64 0)
    unfold put6 at y0 y1 y2 y3 y4 y5
    have K2 := Lib.hid k2
    clear k2 Z2
    go_wp2_with fail
    refine bodyPost_ret (v := .tuple #[.agg #[(.int .i64 5), (.int .i64 0), (.string { data := #[] }), (.slice none 0 0), (.slice none 0 0), (.int .i64 0)], .bool false]) (by simp [results, Tryd.results27, go_sem, y0, y1, y2, y3, y4, y5]) rfl ?_
    exact leaf_bad (RES := J) (t0 := []) (B2.out.trans K2.out) ⟨Nat.le_of_eq HJJ.out, by have := HRL.out; have := HJJ.out; omega⟩ HE.out Q3.out (by unfold put6; rfl) rfl
theorem barelist_x {room : Nat} {l : Bs} {b o c R : Nat} {w : World} {i : Nat} (hs : Src l b o c R w) (h : Rd l.length b o c R w i 0 0) (h0 : l[i]? = some 91) (hroom : room ≤ 64) (hv : room ≠ 0 → ∀ w i, Src l b o c R w → Rd l.length b o c R w i 0 0 → i ≤ l.length → Calls Tryd.prog 21 #[.pointer (some ⟨R, 0, none⟩), .int .i64 ((64 - room + 1 : Nat) : Int)] w fun e w' => ValP room l b o c R w ((valueJ (room - 1) i (l.drop i)).andThen fun v j t => (skipJ 0 0 j t).andThen fun _ j2 t2 => .ok v j2 t2) e w') :
    Calls Tryd.prog 27 #[.pointer (some ⟨R, 0, none⟩), .int .i64 (InR room)] w fun e w' => ValP (room + 1) l b o c R w (bareR room l i) e w' := by
  have hE := Lib.hid (bareR_list h0 hroom)
  have HV := Lib.hid hv
  clear hv
  have H0 := Lib.hid h0
  have hi := (List.getElem?_eq_some_iff.1 h0).1
  have HI := Lib.hid hi
  have hcap := hs.cap
  have hsm := hs.small
  have HS := Lib.hid hs
  have HR := Lib.hid h
  have HRL : Hid (R < w.heap.size) := h.lt
  have HBY := Lib.hid (hs.byte h0)
  have HNE : Hid (¬ ((i : Int) = (l.length : Int))) := Lib.hid (by omega)
  have HLT : Hid ((i : Int) < (l.length : Int)) := Lib.hid (by omega)
  clear hs h h0
  go_enter Tryd.func27, Tryd.ntmps27
  go_wp2_with fail
  have Z0 := Six.zero w
  have B0 : Below w.heap.size w (w.alloc (.cells #[.int .i64 0, .int .i64 0, .string { data := #[] }, .slice none 0 0, .slice none 0 0, .int .i64 0] 26)) := ball (Below.refl _ _)
  have HJJ : Hid (w.heap.size = w.heap.size) := rfl
  have R0 := HR.out.below B0
  generalize w.alloc (.cells #[.int .i64 0, .int .i64 0, .string { data := #[] }, .slice none 0 0, .slice none 0 0, .int .i64 0] 26) = w0 at *
  generalize hJ : w.heap.size = J at *
  replace HJJ : Hid (w.heap.size = J) := hJ
  have RZ := Lib.hid R0
  obtain ⟨c0, c1, c2, c3, fz, lt⟩ := R0
  have hne := HNE.out
  go_quiet (fail)
  go_wp2_with fail
  generalize hW : w0.drewN _ = w1
  have BQ : Below w0.heap.size w0 w1 := hW ▸ bdrew (Below.refl _ _) _
  have BB : Hid (But R w w1) := Lib.hid (.of R (hJ ▸ below_next (hJ ▸ B0) BQ))
  have R1 := Lib.hid (RZ.out.below BQ)
  have Z1 := Lib.hid (Z0.below BQ)
  have hl1 : Hid (J < w1.heap.size) := Z1.out.lt
  have BY1 := Lib.hid ((keepf BQ b (by have := HS.out.ltb; have := B0.size; omega)).1 (o + i) |>.trans ((keepf (hJ ▸ B0) b (by have := HS.out.ltb; omega)).1 (o + i) |>.trans HBY.out))
  clear hne hW hJ B0 BQ RZ Z0 HR c0 c1 c2 c3 fz lt
  obtain ⟨c0, c1, c2, c3, fz, lt⟩ := R1.out
  have hby := BY1.out
  have hlt := HLT.out
  have hlt2 : ¬ ((l.length : Int) ≤ (i : Int)) := by omega
  go_quiet (fail)
  go_wp2_with fail
  generalize hW : w1.drewN _ = w2
  have BQ2 : Below w1.heap.size w1 w2 := hW ▸ bdrew (Below.refl _ _) _
  clear hW
  have HD : Hid (digitJ (91 : UInt8) = false) := Lib.hid (by decide)
  refine (isDigit_x 91 w2).mono ?_
  rintro e w3 ⟨rfl, hw3⟩
  subst w3
  rw [HD.out]
  have B2 := Lib.hid (BB.out.trans (.of R BQ2))
  have S2 := Lib.hid (HS.out.but B2.out)
  have R2 := Lib.hid (R1.out.below BQ2)
  have Z2 := Lib.hid (Z1.out.below BQ2)
  have hl2 : Hid (J < w2.heap.size) := Z2.out.lt
  clear BQ2 BB R1 Z1 hl1 BY1 hby HBY HNE HLT hlt hlt2 c0 c1 c2 c3 fz lt
  go_wp2_with fail
  refine (list_x (n := room) (inn := 64 - room) (valueJ (room - 1)) S2.out R2.out H0.out (fun hne => HV.out (fun e => hne (by omega))) (value_fwd _) (by omega)).mono ?_
  rintro e w5 ⟨k2, hx⟩
  rcases hx with ⟨x, v, j, q1, q2, rfl, q4, q3⟩ | ⟨k, a, j, k0, x0, a0, t0, pl, nl, cl, pq, nq, cq, q1, rfl, q3⟩
  · have Q3 := Lib.hid q3
    have Q4 := Lib.hid q4
    have HE : Hid (bareR room l i = .ok x j (l.drop j)) := Lib.hid (by rw [hE.out, q1])
    obtain ⟨kx, xx, tx, lx, qx, ax⟩ := x
    obtain ⟨pl, pq, cl, cq, rfl, _⟩ := q4
    clear q1 q3
    unfold aggJ
    have ZZ := Lib.hid (Z2.out.but k2 (by have := HRL.out; have := HJJ.out; omega))
    obtain ⟨z0, z1, z2, z3, z4, z5, zf, zl⟩ := ZZ.out
    obtain ⟨y0, y1, y2, y3, y4, y5, yf, yl⟩ := ZZ.out.put (.int .i64 (kx : Int)) (.int .i64 xx) (.string (baS tx)) (.slice pl lx.length cl) (.slice pq qx.length cq) (.int .i64 (ax : Int))
    unfold put6 at y0 y1 y2 y3 y4 y5
    have K2 := Lib.hid k2
    clear k2 Z2
    go_wp2_with fail
    refine bodyPost_ret (v := .tuple #[.agg #[(.int .i64 (kx : Int)), (.int .i64 xx), (.string (baS tx)), (.slice pl lx.length cl), (.slice pq qx.length cq), (.int .i64 (ax : Int))], .bool true]) (by simp [results, Tryd.results27, go_sem, y0, y1, y2, y3, y4, y5]) rfl ?_
    exact pass_fin (RES := J) B2.out K2.out ⟨Nat.le_of_eq HJJ.out, by have := HRL.out; have := HJJ.out; omega, hl2.out⟩ HE.out q2 Q4.out Q3.out (by unfold put6; rfl) rfl
  · have Q3 := Lib.hid q3
    have HE : Hid (bareR room l i = .bad k a) := Lib.hid (by rw [hE.out, q1])
    clear q1 q3
    unfold aggJ
    have ZZ := Lib.hid (Z2.out.but k2 (by have := HRL.out; have := HJJ.out; omega))
    obtain ⟨z0, z1, z2, z3, z4, z5, zf, zl⟩ := ZZ.out
    obtain ⟨y0, y1, y2, y3, y4, y5, yf, yl⟩ := ZZ.out.put (.int .i64 k0) (.int .i64 x0) (.string (baS t0)) (.slice pl nl cl) (.slice pq nq cq) (.int .i64 a0)
    unfold put6 at y0 y1 y2 y3 y4 y5
    have K2 := Lib.hid k2
    clear k2 Z2
    go_wp2_with fail
    refine bodyPost_ret (v := .tuple #[.agg #[(.int .i64 k0), (.int .i64 x0), (.string (baS t0)), (.slice pl nl cl), (.slice pq nq cq), (.int .i64 a0)], .bool false]) (by simp [results, Tryd.results27, go_sem, y0, y1, y2, y3, y4, y5]) rfl ?_
    exact leaf_bad (RES := J) (t0 := t0) (B2.out.trans K2.out) ⟨Nat.le_of_eq HJJ.out, by have := HRL.out; have := HJJ.out; omega⟩ HE.out Q3.out (by unfold put6; rfl) rfl
theorem baremap_x {room : Nat} {l : Bs} {b o c R : Nat} {w : World} {i : Nat} (hs : Src l b o c R w) (h : Rd l.length b o c R w i 0 0) (h0 : l[i]? = some 123) (hroom : room ≤ 64) (hv : room ≠ 0 → ∀ w i, Src l b o c R w → Rd l.length b o c R w i 0 0 → i ≤ l.length → Calls Tryd.prog 21 #[.pointer (some ⟨R, 0, none⟩), .int .i64 ((64 - room + 1 : Nat) : Int)] w fun e w' => ValP room l b o c R w ((valueJ (room - 1) i (l.drop i)).andThen fun v j t => (skipJ 0 0 j t).andThen fun _ j2 t2 => .ok v j2 t2) e w') :
    Calls Tryd.prog 27 #[.pointer (some ⟨R, 0, none⟩), .int .i64 (InR room)] w fun e w' => ValP (room + 1) l b o c R w (bareR room l i) e w' := by
  have hE := Lib.hid (bareR_map h0 hroom)
  have HV := Lib.hid hv
  clear hv
  have H0 := Lib.hid h0
  have hi := (List.getElem?_eq_some_iff.1 h0).1
  have HI := Lib.hid hi
  have hcap := hs.cap
  have hsm := hs.small
  have HS := Lib.hid hs
  have HR := Lib.hid h
  have HRL : Hid (R < w.heap.size) := h.lt
  have HBY := Lib.hid (hs.byte h0)
  have HNE : Hid (¬ ((i : Int) = (l.length : Int))) := Lib.hid (by omega)
  have HLT : Hid ((i : Int) < (l.length : Int)) := Lib.hid (by omega)
  clear hs h h0
  go_enter Tryd.func27, Tryd.ntmps27
  go_wp2_with fail
  have Z0 := Six.zero w
  have B0 : Below w.heap.size w (w.alloc (.cells #[.int .i64 0, .int .i64 0, .string { data := #[] }, .slice none 0 0, .slice none 0 0, .int .i64 0] 26)) := ball (Below.refl _ _)
  have HJJ : Hid (w.heap.size = w.heap.size) := rfl
  have R0 := HR.out.below B0
  generalize w.alloc (.cells #[.int .i64 0, .int .i64 0, .string { data := #[] }, .slice none 0 0, .slice none 0 0, .int .i64 0] 26) = w0 at *
  generalize hJ : w.heap.size = J at *
  replace HJJ : Hid (w.heap.size = J) := hJ
  have RZ := Lib.hid R0
  obtain ⟨c0, c1, c2, c3, fz, lt⟩ := R0
  have hne := HNE.out
  go_quiet (fail)
  go_wp2_with fail
  generalize hW : w0.drewN _ = w1
  have BQ : Below w0.heap.size w0 w1 := hW ▸ bdrew (Below.refl _ _) _
  have BB : Hid (But R w w1) := Lib.hid (.of R (hJ ▸ below_next (hJ ▸ B0) BQ))
  have R1 := Lib.hid (RZ.out.below BQ)
  have Z1 := Lib.hid (Z0.below BQ)
  have hl1 : Hid (J < w1.heap.size) := Z1.out.lt
  have BY1 := Lib.hid ((keepf BQ b (by have := HS.out.ltb; have := B0.size; omega)).1 (o + i) |>.trans ((keepf (hJ ▸ B0) b (by have := HS.out.ltb; omega)).1 (o + i) |>.trans HBY.out))
  clear hne hW hJ B0 BQ RZ Z0 HR c0 c1 c2 c3 fz lt
  obtain ⟨c0, c1, c2, c3, fz, lt⟩ := R1.out
  have hby := BY1.out
  have hlt := HLT.out
  have hlt2 : ¬ ((l.length : Int) ≤ (i : Int)) := by omega
  go_quiet (fail)
  go_wp2_with fail
  generalize hW : w1.drewN _ = w2
  have BQ2 : Below w1.heap.size w1 w2 := hW ▸ bdrew (Below.refl _ _) _
  clear hW
  have HD : Hid (digitJ (123 : UInt8) = false) := Lib.hid (by decide)
  refine (isDigit_x 123 w2).mono ?_
  rintro e w3 ⟨rfl, hw3⟩
  subst w3
  rw [HD.out]
  have B2 := Lib.hid (BB.out.trans (.of R BQ2))
  have S2 := Lib.hid (HS.out.but B2.out)
  have R2 := Lib.hid (R1.out.below BQ2)
  have Z2 := Lib.hid (Z1.out.below BQ2)
  have hl2 : Hid (J < w2.heap.size) := Z2.out.lt
  clear BQ2 BB R1 Z1 hl1 BY1 hby HBY HNE HLT hlt hlt2 c0 c1 c2 c3 fz lt
  go_wp2_with fail
  refine (named_x (n := room) (inn := 64 - room) (valueJ (room - 1)) S2.out R2.out H0.out (fun hne => HV.out (fun e => hne (by omega))) (value_fwd _) (by omega)).mono ?_
  rintro e w5 ⟨k2, hx⟩
  rcases hx with ⟨x, v, j, q1, q2, rfl, q4, q3⟩ | ⟨k, a, j, k0, x0, a0, t0, pl, nl, cl, pq, nq, cq, q1, rfl, q3⟩
  · have Q3 := Lib.hid q3
    have Q4 := Lib.hid q4
    have HE : Hid (bareR room l i = .ok x j (l.drop j)) := Lib.hid (by rw [hE.out, q1])
    obtain ⟨kx, xx, tx, lx, qx, ax⟩ := x
    obtain ⟨pl, pq, cl, cq, rfl, _⟩ := q4
    clear q1 q3
    unfold aggJ
    have ZZ := Lib.hid (Z2.out.but k2 (by have := HRL.out; have := HJJ.out; omega))
    obtain ⟨z0, z1, z2, z3, z4, z5, zf, zl⟩ := ZZ.out
    obtain ⟨y0, y1, y2, y3, y4, y5, yf, yl⟩ := ZZ.out.put (.int .i64 (kx : Int)) (.int .i64 xx) (.string (baS tx)) (.slice pl lx.length cl) (.slice pq qx.length cq) (.int .i64 (ax : Int))
    unfold put6 at y0 y1 y2 y3 y4 y5
    have K2 := Lib.hid k2
    clear k2 Z2
    go_wp2_with fail
    refine bodyPost_ret (v := .tuple #[.agg #[(.int .i64 (kx : Int)), (.int .i64 xx), (.string (baS tx)), (.slice pl lx.length cl), (.slice pq qx.length cq), (.int .i64 (ax : Int))], .bool true]) (by simp [results, Tryd.results27, go_sem, y0, y1, y2, y3, y4, y5]) rfl ?_
    exact pass_fin (RES := J) B2.out K2.out ⟨Nat.le_of_eq HJJ.out, by have := HRL.out; have := HJJ.out; omega, hl2.out⟩ HE.out q2 Q4.out Q3.out (by unfold put6; rfl) rfl
  · have Q3 := Lib.hid q3
    have HE : Hid (bareR room l i = .bad k a) := Lib.hid (by rw [hE.out, q1])
    clear q1 q3
    unfold aggJ
    have ZZ := Lib.hid (Z2.out.but k2 (by have := HRL.out; have := HJJ.out; omega))
    obtain ⟨z0, z1, z2, z3, z4, z5, zf, zl⟩ := ZZ.out
    obtain ⟨y0, y1, y2, y3, y4, y5, yf, yl⟩ := ZZ.out.put (.int .i64 k0) (.int .i64 x0) (.string (baS t0)) (.slice pl nl cl) (.slice pq nq cq) (.int .i64 a0)
    unfold put6 at y0 y1 y2 y3 y4 y5
    have K2 := Lib.hid k2
    clear k2 Z2
    go_wp2_with fail
    refine bodyPost_ret (v := .tuple #[.agg #[(.int .i64 k0), (.int .i64 x0), (.string (baS t0)), (.slice pl nl cl), (.slice pq nq cq), (.int .i64 a0)], .bool false]) (by simp [results, Tryd.results27, go_sem, y0, y1, y2, y3, y4, y5]) rfl ?_
    exact leaf_bad (RES := J) (t0 := t0) (B2.out.trans K2.out) ⟨Nat.le_of_eq HJJ.out, by have := HRL.out; have := HJJ.out; omega⟩ HE.out Q3.out (by unfold put6; rfl) rfl
theorem minus_x {room : Nat} {l : Bs} {b o c R : Nat} {w : World} {i : Nat} (hs : Src l b o c R w) (h : Rd l.length b o c R w i 0 0) (h0 : l[i]? = some 45) :
    Calls Tryd.prog 27 #[.pointer (some ⟨R, 0, none⟩), .int .i64 (InR room)] w fun e w' => ValP (room + 1) l b o c R w (bareR room l i) e w' := by
  have hE := Lib.hid (bareR_num (room := room) h0 (.inl rfl))
  have H0 := Lib.hid h0
  have hi := (List.getElem?_eq_some_iff.1 h0).1
  have HI := Lib.hid hi
  have hcap := hs.cap
  have hsm := hs.small
  have HS := Lib.hid hs
  have HR := Lib.hid h
  have HRL : Hid (R < w.heap.size) := h.lt
  have HBY := Lib.hid (hs.byte h0)
  have HNE : Hid (¬ ((i : Int) = (l.length : Int))) := Lib.hid (by omega)
  have HLT : Hid ((i : Int) < (l.length : Int)) := Lib.hid (by omega)
  clear hs h h0
  go_enter Tryd.func27, Tryd.ntmps27
  go_wp2_with fail
  have Z0 := Six.zero w
  have B0 : Below w.heap.size w (w.alloc (.cells #[.int .i64 0, .int .i64 0, .string { data := #[] }, .slice none 0 0, .slice none 0 0, .int .i64 0] 26)) := ball (Below.refl _ _)
  have HJJ : Hid (w.heap.size = w.heap.size) := rfl
  have R0 := HR.out.below B0
  generalize w.alloc (.cells #[.int .i64 0, .int .i64 0, .string { data := #[] }, .slice none 0 0, .slice none 0 0, .int .i64 0] 26) = w0 at *
  generalize hJ : w.heap.size = J at *
  replace HJJ : Hid (w.heap.size = J) := hJ
  have RZ := Lib.hid R0
  obtain ⟨c0, c1, c2, c3, fz, lt⟩ := R0
  have hne := HNE.out
  go_quiet (fail)
  go_wp2_with fail
  generalize hW : w0.drewN _ = w1
  have BQ : Below w0.heap.size w0 w1 := hW ▸ bdrew (Below.refl _ _) _
  have BB : Hid (But R w w1) := Lib.hid (.of R (hJ ▸ below_next (hJ ▸ B0) BQ))
  have R1 := Lib.hid (RZ.out.below BQ)
  have Z1 := Lib.hid (Z0.below BQ)
  have hl1 : Hid (J < w1.heap.size) := Z1.out.lt
  have BY1 := Lib.hid ((keepf BQ b (by have := HS.out.ltb; have := B0.size; omega)).1 (o + i) |>.trans ((keepf (hJ ▸ B0) b (by have := HS.out.ltb; omega)).1 (o + i) |>.trans HBY.out))
  clear hne hW hJ B0 BQ RZ Z0 HR c0 c1 c2 c3 fz lt
  obtain ⟨c0, c1, c2, c3, fz, lt⟩ := R1.out
  have hby := BY1.out
  have hlt := HLT.out
  have hlt2 : ¬ ((l.length : Int) ≤ (i : Int)) := by omega
  go_quiet (fail)
  go_wp2_with fail
  generalize hW : w1.drewN _ = w2
  have BQ2 : Below w1.heap.size w1 w2 := hW ▸ bdrew (Below.refl _ _) _
  have B2 := Lib.hid (BB.out.trans (.of R BQ2))
  have S2 := Lib.hid (HS.out.but B2.out)
  have R2 := Lib.hid (R1.out.below BQ2)
  have Z2 := Lib.hid (Z1.out.below BQ2)
  have hl2 : Hid (J < w2.heap.size) := Z2.out.lt
  clear hW BQ2 BB R1 Z1 hl1 BY1 hby HBY HNE HLT hlt hlt2 c0 c1 c2 c3 fz lt
  refine (number_x S2.out R2.out (Nat.le_of_lt HI.out) room).mono ?_
  rintro e w5 ⟨k2, hx⟩
  rcases hx with ⟨x, v, j, q1, q2, rfl, q4, q3⟩ | ⟨k, a, j, k0, x0, a0, t0, pl, nl, cl, pq, nq, cq, q1, rfl, q3⟩
  · have Q3 := Lib.hid q3
    have Q4 := Lib.hid q4
    have HE : Hid (bareR room l i = .ok x j (l.drop j)) := Lib.hid (by rw [hE.out, q1])
    obtain ⟨kx, xx, tx, lx, qx, ax⟩ := x
    obtain ⟨pl, pq, cl, cq, rfl, _⟩ := q4
    clear q1 q3
    unfold aggJ
    have ZZ := Lib.hid (Z2.out.but k2 (by have := HRL.out; have := HJJ.out; omega))
    obtain ⟨z0, z1, z2, z3, z4, z5, zf, zl⟩ := ZZ.out
    obtain ⟨y0, y1, y2, y3, y4, y5, yf, yl⟩ := ZZ.out.put (.int .i64 (kx : Int)) (.int .i64 xx) (.string (baS tx)) (.slice pl lx.length cl) (.slice pq qx.length cq) (.int .i64 (ax : Int))
    unfold put6 at y0 y1 y2 y3 y4 y5
    have K2 := Lib.hid k2
    clear k2 Z2
    go_wp2_with fail
    refine bodyPost_ret (v := .tuple #[.agg #[(.int .i64 (kx : Int)), (.int .i64 xx), (.string (baS tx)), (.slice pl lx.length cl), (.slice pq qx.length cq), (.int .i64 (ax : Int))], .bool true]) (by simp [results, Tryd.results27, go_sem, y0, y1, y2, y3, y4, y5]) rfl ?_
    exact pass_fin (RES := J) B2.out K2.out ⟨Nat.le_of_eq HJJ.out, by have := HRL.out; have := HJJ.out; omega, hl2.out⟩ HE.out q2 Q4.out Q3.out (by unfold put6; rfl) rfl
  · have Q3 := Lib.hid q3
    have HE : Hid (bareR room l i = .bad k a) := Lib.hid (by rw [hE.out, q1])
    clear q1 q3
    unfold aggJ
    have ZZ := Lib.hid (Z2.out.but k2 (by have := HRL.out; have := HJJ.out; omega))
    obtain ⟨z0, z1, z2, z3, z4, z5, zf, zl⟩ := ZZ.out
    obtain ⟨y0, y1, y2, y3, y4, y5, yf, yl⟩ := ZZ.out.put (.int .i64 k0) (.int .i64 x0) (.string (baS t0)) (.slice pl nl cl) (.slice pq nq cq) (.int .i64 a0)
    unfold put6 at y0 y1 y2 y3 y4 y5
    have K2 := Lib.hid k2
    clear k2 Z2
    go_wp2_with fail
    refine bodyPost_ret (v := .tuple #[.agg #[(.int .i64 k0), (.int .i64 x0), (.string (baS t0)), (.slice pl nl cl), (.slice pq nq cq), (.int .i64 a0)], .bool false]) (by simp [results, Tryd.results27, go_sem, y0, y1, y2, y3, y4, y5]) rfl ?_
    exact leaf_bad (RES := J) (t0 := t0) (B2.out.trans K2.out) ⟨Nat.le_of_eq HJJ.out, by have := HRL.out; have := HJJ.out; omega⟩ HE.out Q3.out (by unfold put6; rfl) rfl
theorem digit_b {room : Nat} {l : Bs} {b o c R : Nat} {w : World} {i : Nat} {y : UInt8} (hs : Src l b o c R w) (h : Rd l.length b o c R w i 0 0) (h0 : l[i]? = some y) (h110 : y ≠ UInt8.ofNat 110) (h102 : y ≠ UInt8.ofNat 102) (h116 : y ≠ UInt8.ofNat 116) (h45 : y ≠ UInt8.ofNat 45) (hd : digitJ y = true) :
    Calls Tryd.prog 27 #[.pointer (some ⟨R, 0, none⟩), .int .i64 (InR room)] w fun e w' => ValP (room + 1) l b o c R w (bareR room l i) e w' := by
  have hE := Lib.hid (bareR_num (room := room) h0 (.inr hd))
  have n110 := byte_ne 110 (by decide) h110
  have n102 := byte_ne 102 (by decide) h102
  have n116 := byte_ne 116 (by decide) h116
  have n45 := byte_ne 45 (by decide) h45
  have HD := Lib.hid hd
  clear hd
  have H0 := Lib.hid h0
  have hi := (List.getElem?_eq_some_iff.1 h0).1
  have HI := Lib.hid hi
  have hcap := hs.cap
  have hsm := hs.small
  have HS := Lib.hid hs
  have HR := Lib.hid h
  have HRL : Hid (R < w.heap.size) := h.lt
  have HBY := Lib.hid (hs.byte h0)
  have HNE : Hid (¬ ((i : Int) = (l.length : Int))) := Lib.hid (by omega)
  have HLT : Hid ((i : Int) < (l.length : Int)) := Lib.hid (by omega)
  clear hs h h0
  go_enter Tryd.func27, Tryd.ntmps27
  go_wp2_with fail
  have Z0 := Six.zero w
  have B0 : Below w.heap.size w (w.alloc (.cells #[.int .i64 0, .int .i64 0, .string { data := #[] }, .slice none 0 0, .slice none 0 0, .int .i64 0] 26)) := ball (Below.refl _ _)
  have HJJ : Hid (w.heap.size = w.heap.size) := rfl
  have R0 := HR.out.below B0
  generalize w.alloc (.cells #[.int .i64 0, .int .i64 0, .string { data := #[] }, .slice none 0 0, .slice none 0 0, .int .i64 0] 26) = w0 at *
  generalize hJ : w.heap.size = J at *
  replace HJJ : Hid (w.heap.size = J) := hJ
  have RZ := Lib.hid R0
  obtain ⟨c0, c1, c2, c3, fz, lt⟩ := R0
  have hne := HNE.out
  go_quiet (fail)
  go_wp2_with fail
  generalize hW : w0.drewN _ = w1
  have BQ : Below w0.heap.size w0 w1 := hW ▸ bdrew (Below.refl _ _) _
  have BB : Hid (But R w w1) := Lib.hid (.of R (hJ ▸ below_next (hJ ▸ B0) BQ))
  have R1 := Lib.hid (RZ.out.below BQ)
  have Z1 := Lib.hid (Z0.below BQ)
  have hl1 : Hid (J < w1.heap.size) := Z1.out.lt
  have BY1 := Lib.hid ((keepf BQ b (by have := HS.out.ltb; have := B0.size; omega)).1 (o + i) |>.trans ((keepf (hJ ▸ B0) b (by have := HS.out.ltb; omega)).1 (o + i) |>.trans HBY.out))
  clear hne hW hJ B0 BQ RZ Z0 HR c0 c1 c2 c3 fz lt
  obtain ⟨c0, c1, c2, c3, fz, lt⟩ := R1.out
  have hby := BY1.out
  have hlt := HLT.out
  have hlt2 : ¬ ((l.length : Int) ≤ (i : Int)) := by omega
  go_quiet (fail)
  go_wp2_with fail
  generalize hW : w1.drewN _ = w2
  have BQ2 : Below w1.heap.size w1 w2 := hW ▸ bdrew (Below.refl _ _) _
  clear hW
  refine (isDigit_x y w2).mono ?_
  rintro e w3 ⟨rfl, hw3⟩
  subst w3
  rw [HD.out]
  have B2 := Lib.hid (BB.out.trans (.of R BQ2))
  have S2 := Lib.hid (HS.out.but B2.out)
  have R2 := Lib.hid (R1.out.below BQ2)
  have Z2 := Lib.hid (Z1.out.below BQ2)
  have hl2 : Hid (J < w2.heap.size) := Z2.out.lt
  clear BQ2 BB R1 Z1 hl1 BY1 hby HBY HNE HLT hlt hlt2 c0 c1 c2 c3 fz lt
  go_wp2_with fail
  refine (number_x S2.out R2.out (Nat.le_of_lt HI.out) room).mono ?_
  rintro e w5 ⟨k2, hx⟩
  rcases hx with ⟨x, v, j, q1, q2, rfl, q4, q3⟩ | ⟨k, a, j, k0, x0, a0, t0, pl, nl, cl, pq, nq, cq, q1, rfl, q3⟩
  · have Q3 := Lib.hid q3
    have Q4 := Lib.hid q4
    have HE : Hid (bareR room l i = .ok x j (l.drop j)) := Lib.hid (by rw [hE.out, q1])
    obtain ⟨kx, xx, tx, lx, qx, ax⟩ := x
    obtain ⟨pl, pq, cl, cq, rfl, _⟩ := q4
    clear q1 q3
    unfold aggJ
    have ZZ := Lib.hid (Z2.out.but k2 (by have := HRL.out; have := HJJ.out; omega))
    obtain ⟨z0, z1, z2, z3, z4, z5, zf, zl⟩ := ZZ.out
    obtain ⟨y0, y1, y2, y3, y4, y5, yf, yl⟩ := ZZ.out.put (.int .i64 (kx : Int)) (.int .i64 xx) (.string (baS tx)) (.slice pl lx.length cl) (.slice pq qx.length cq) (.int .i64 (ax : Int))
    unfold put6 at y0 y1 y2 y3 y4 y5
    have K2 := Lib.hid k2
    clear k2 Z2
    go_wp2_with fail
    refine bodyPost_ret (v := .tuple #[.agg #[(.int .i64 (kx : Int)), (.int .i64 xx), (.string (baS tx)), (.slice pl lx.length cl), (.slice pq qx.length cq), (.int .i64 (ax : Int))], .bool true]) (by simp [results, Tryd.results27, go_sem, y0, y1, y2, y3, y4, y5]) rfl ?_
    exact pass_fin (RES := J) B2.out K2.out ⟨Nat.le_of_eq HJJ.out, by have := HRL.out; have := HJJ.out; omega, hl2.out⟩ HE.out q2 Q4.out Q3.out (by unfold put6; rfl) rfl
  · have Q3 := Lib.hid q3
    have HE : Hid (bareR room l i = .bad k a) := Lib.hid (by rw [hE.out, q1])
    clear q1 q3
    unfold aggJ
    have ZZ := Lib.hid (Z2.out.but k2 (by have := HRL.out; have := HJJ.out; omega))
    obtain ⟨z0, z1, z2, z3, z4, z5, zf, zl⟩ := ZZ.out
    obtain ⟨y0, y1, y2, y3, y4, y5, yf, yl⟩ := ZZ.out.put (.int .i64 k0) (.int .i64 x0) (.string (baS t0)) (.slice pl nl cl) (.slice pq nq cq) (.int .i64 a0)
    unfold put6 at y0 y1 y2 y3 y4 y5
    have K2 := Lib.hid k2
    clear k2 Z2
    go_wp2_with fail
    refine bodyPost_ret (v := .tuple #[.agg #[(.int .i64 k0), (.int .i64 x0), (.string (baS t0)), (.slice pl nl cl), (.slice pq nq cq), (.int .i64 a0)], .bool false]) (by simp [results, Tryd.results27, go_sem, y0, y1, y2, y3, y4, y5]) rfl ?_
    exact leaf_bad (RES := J) (t0 := t0) (B2.out.trans K2.out) ⟨Nat.le_of_eq HJJ.out, by have := HRL.out; have := HJJ.out; omega⟩ HE.out Q3.out (by unfold put6; rfl) rfl
theorem else_x {room : Nat} {l : Bs} {b o c R : Nat} {w : World} {i : Nat} {y : UInt8} (hs : Src l b o c R w) (h : Rd l.length b o c R w i 0 0) (h0 : l[i]? = some y) (h110 : y ≠ UInt8.ofNat 110) (h102 : y ≠ UInt8.ofNat 102) (h116 : y ≠ UInt8.ofNat 116) (h45 : y ≠ UInt8.ofNat 45) (h34 : y ≠ UInt8.ofNat 34) (h91 : y ≠ UInt8.ofNat 91) (h123 : y ≠ UInt8.ofNat 123) (hd : digitJ y = false) :
    Calls Tryd.prog 27 #[.pointer (some ⟨R, 0, none⟩), .int .i64 (InR room)] w fun e w' => ValP (room + 1) l b o c R w (bareR room l i) e w' := by
  have hE := Lib.hid (bareR_else (room := room) h0 (fun e => e.elim h91 h123) h34 (fun e => e.elim h45 (fun e => by rw [hd] at e; cases e)) h110 h116 h102)
  have n110 := byte_ne 110 (by decide) h110
  have n102 := byte_ne 102 (by decide) h102
  have n116 := byte_ne 116 (by decide) h116
  have n45 := byte_ne 45 (by decide) h45
  have n34 := byte_ne 34 (by decide) h34
  have n91 := byte_ne 91 (by decide) h91
  have n123 := byte_ne 123 (by decide) h123
  have HD := Lib.hid hd
  clear hd
  have H0 := Lib.hid h0
  have hi := (List.getElem?_eq_some_iff.1 h0).1
  have HI := Lib.hid hi
  have hcap := hs.cap
  have hsm := hs.small
  have HS := Lib.hid hs
  have HR := Lib.hid h
  have HRL : Hid (R < w.heap.size) := h.lt
  have HBY := Lib.hid (hs.byte h0)
  have HNE : Hid (¬ ((i : Int) = (l.length : Int))) := Lib.hid (by omega)
  have HLT : Hid ((i : Int) < (l.length : Int)) := Lib.hid (by omega)
  clear hs h h0
  go_enter Tryd.func27, Tryd.ntmps27
  go_wp2_with fail
  have Z0 := Six.zero w
  have B0 : Below w.heap.size w (w.alloc (.cells #[.int .i64 0, .int .i64 0, .string { data := #[] }, .slice none 0 0, .slice none 0 0, .int .i64 0] 26)) := ball (Below.refl _ _)
  have HJJ : Hid (w.heap.size = w.heap.size) := rfl
  have R0 := HR.out.below B0
  generalize w.alloc (.cells #[.int .i64 0, .int .i64 0, .string { data := #[] }, .slice none 0 0, .slice none 0 0, .int .i64 0] 26) = w0 at *
  generalize hJ : w.heap.size = J at *
  replace HJJ : Hid (w.heap.size = J) := hJ
  have RZ := Lib.hid R0
  obtain ⟨c0, c1, c2, c3, fz, lt⟩ := R0
  have hne := HNE.out
  go_quiet (fail)
  go_wp2_with fail
  generalize hW : w0.drewN _ = w1
  have BQ : Below w0.heap.size w0 w1 := hW ▸ bdrew (Below.refl _ _) _
  have BB : Hid (But R w w1) := Lib.hid (.of R (hJ ▸ below_next (hJ ▸ B0) BQ))
  have R1 := Lib.hid (RZ.out.below BQ)
  have Z1 := Lib.hid (Z0.below BQ)
  have hl1 : Hid (J < w1.heap.size) := Z1.out.lt
  have BY1 := Lib.hid ((keepf BQ b (by have := HS.out.ltb; have := B0.size; omega)).1 (o + i) |>.trans ((keepf (hJ ▸ B0) b (by have := HS.out.ltb; omega)).1 (o + i) |>.trans HBY.out))
  clear hne hW hJ B0 BQ RZ Z0 HR c0 c1 c2 c3 fz lt
  obtain ⟨c0, c1, c2, c3, fz, lt⟩ := R1.out
  have hby := BY1.out
  have hlt := HLT.out
  have hlt2 : ¬ ((l.length : Int) ≤ (i : Int)) := by omega
  go_quiet (fail)
  go_wp2_with fail
  generalize hW : w1.drewN _ = w2
  have BQ2 : Below w1.heap.size w1 w2 := hW ▸ bdrew (Below.refl _ _) _
  clear hW
  refine (isDigit_x y w2).mono ?_
  rintro e w3 ⟨rfl, hw3⟩
  subst w3
  rw [HD.out]
  have B2 := Lib.hid (BB.out.trans (.of R BQ2))
  have S2 := Lib.hid (HS.out.but B2.out)
  have R2 := Lib.hid (R1.out.below BQ2)
  have Z2 := Lib.hid (Z1.out.below BQ2)
  have hl2 : Hid (J < w2.heap.size) := Z2.out.lt
  clear BQ2 BB R1 Z1 hl1 BY1 hby HBY HNE HLT hlt hlt2 c0 c1 c2 c3 fz lt
  obtain ⟨c0, c1, c2, c3, fz, lt⟩ := R2.out
  go_wp2_with fail
  refine (fail_x R2.out 1 (i : Int)).mono ?_
  rintro e w5 ⟨rfl, q3, k2⟩
  have Q3 := Lib.hid q3
  clear q3
  have ZZ := Lib.hid (Z2.out.but k2 (by have := HRL.out; have := HJJ.out; omega))
  obtain ⟨z0, z1, z2, z3, z4, z5, zf, zl⟩ := ZZ.out
  obtain ⟨y0, y1, y2, y3, y4, y5, yf, yl⟩ := ZZ.out.put (.int .i64 0) (.int .i64 0) (.string { data := #[] }) (.slice none 0 0) (.slice none 0 0) (.int .i64 0)
  unfold put6 at y0 y1 y2 y3 y4 y5
  have K2 := Lib.hid k2
  clear k2 Z2
  go_wp2_with fail
  refine bodyPost_ret (v := .tuple #[.agg #[(.int .i64 0), (.int .i64 0), (.string { data := #[] }), (.slice none 0 0), (.slice none 0 0), (.int .i64 0)], .bool false]) (by simp [results, Tryd.results27, go_sem, y0, y1, y2, y3, y4, y5]) rfl ?_
  exact leaf_bad (RES := J) (t0 := []) (B2.out.trans K2.out) ⟨Nat.le_of_eq HJJ.out, by have := HRL.out; have := HJJ.out; omega⟩ hE.out Q3.out (by unfold put6; rfl) rfl
theorem bare_x {room : Nat} {l : Bs} {b o c R : Nat} {w : World} {i : Nat} (hs : Src l b o c R w) (h : Rd l.length b o c R w i 0 0) (hi : i ≤ l.length) (hroom : room ≤ 64) (hv : room ≠ 0 → ∀ w i, Src l b o c R w → Rd l.length b o c R w i 0 0 → i ≤ l.length → Calls Tryd.prog 21 #[.pointer (some ⟨R, 0, none⟩), .int .i64 ((64 - room + 1 : Nat) : Int)] w fun e w' => ValP room l b o c R w ((valueJ (room - 1) i (l.drop i)).andThen fun v j t => (skipJ 0 0 j t).andThen fun _ j2 t2 => .ok v j2 t2) e w') :
    Calls Tryd.prog 27 #[.pointer (some ⟨R, 0, none⟩), .int .i64 (InR room)] w fun e w' => ValP (room + 1) l b o c R w (bareR room l i) e w' := by
  cases h0 : l[i]? with
  | none => exact nil_x hs h hi h0 _
  | some y =>
    by_cases h110 : y = 110
    · subst h110; exact null_x hs h h0
    by_cases h102 : y = 102
    · subst h102; exact false_x hs h h0
    by_cases h116 : y = 116
    · subst h116; exact true_x hs h h0
    by_cases h45 : y = 45
    · subst h45; exact minus_x hs h h0
    by_cases h34 : y = 34
    · subst h34; exact textv_x hs h h0
    by_cases h91 : y = 91
    · subst h91; exact barelist_x hs h h0 hroom hv
    by_cases h123 : y = 123
    · subst h123; exact baremap_x hs h h0 hroom hv
    by_cases hd : digitJ y = true
    · exact digit_b hs h h0 h110 h102 h116 h45 hd
    · exact else_x hs h h0 h110 h102 h116 h45 h34 h91 h123 (by simpa using hd)
end Go.Proofs.YtgiihljiekagdaaDoor
