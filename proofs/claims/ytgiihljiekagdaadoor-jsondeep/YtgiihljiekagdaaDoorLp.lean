/- Package json: list, and named. -/
import Derived.Test.YtgiihljiekagdaaDoorLn
import Derived.Test.YtgiihljiekagdaaDoorKy
namespace Go.Proofs.YtgiihljiekagdaaDoor
open Go.ChangeShapes Go.WideShapes Go.RowKit Go.Sort
theorem mid_keep {a b a2 b2 : Nat} {w w' : World} {RES : Nat} (h1 : a2 ≤ a) (h2 : b ≤ b2) (hR : RES < a) (hk : ∀ g, g ≠ RES → w'.heap[g]? = w.heap[g]?) : ∀ g, Mid a b g → Mid a2 b2 g ∧ ∀ o, w'.cell? ⟨g, o, none⟩ = w.cell? ⟨g, o, none⟩ := fun g hg =>
  ⟨⟨Nat.le_trans h1 hg.1, Nat.lt_of_lt_of_le hg.2 h2⟩, fun o => World.cell?_of_block (w := w) (a := ⟨g, o, none⟩) (hk g (fun e => by subst e; exact absurd hg.1 (Nat.not_le_of_lt hR)))⟩
theorem put6_keep {w : World} {J : Nat} (a0 a1 a2 a3 a4 a5 : Value) : ∀ g, g ≠ J → (put6 w J a0 a1 a2 a3 a4 a5).heap[g]? = w.heap[g]? := fun g hg => by
  unfold put6
  rw [Below.heap_setCell _ _ _ _ hg, Below.heap_setCell _ _ _ _ hg, Below.heap_setCell _ _ _ _ hg, Below.heap_setCell _ _ _ _ hg, Below.heap_setCell _ _ _ _ hg, Below.heap_setCell _ _ _ _ hg]
theorem put6_size {w : World} {J : Nat} (a0 a1 a2 a3 a4 a5 : Value) : (put6 w J a0 a1 a2 a3 a4 a5).heap.size = w.heap.size := by simp [put6, World.setCell]
theorem grp_fin {n : Nat} {l : Bs} {b o c R : Nat} {w w5 wf : World} {j RES base kk q q2 : Nat} {p p2 : Option Addr} {vs : List Js} {ks : List Bs} {rr : PJ Js} {e : Ending} {a0 a1 a2 a3 a4 a5 : Value}
    (B05 : But R w w5) (hRES : w.heap.size ≤ RES ∧ RES < base ∧ R < w.heap.size) (r : RowIn (JAt n w5 (Mid base w5.heap.size)) w5 (Mid base w5.heap.size) p vs) (hq : vs.length ≤ q) (st : StrsIn w5 (Mid base w5.heap.size) p2 ks) (hq2 : ks.length ≤ q2)
    (hr : rr = .ok (.mk kk 0 [] vs ks 0) j (l.drop j)) (hj : j ≤ l.length) (R5 : Rd l.length b o c R w5 j 0 0) (hwf : wf = put6 w5 RES a0 a1 a2 a3 a4 a5) (he : e = .returned (.tuple #[aggJ (kk : Int) 0 [] p vs.length q p2 ks.length q2 0, .bool true])) : ValP (n + 1) l b o c R w rr e wf := by
  subst hwf
  have hk := mid_keep (a := base) (b := w5.heap.size) (a2 := w.heap.size) (b2 := (put6 w5 RES a0 a1 a2 a3 a4 a5).heap.size) (w := w5) (RES := RES) (by omega) (Nat.le_of_eq (put6_size ..).symm) hRES.2.1 (put6_keep a0 a1 a2 a3 a4 a5)
  refine ⟨but_put B05 hRES.1 .., .inl ⟨_, _, j, hr, hj, he, ⟨p, p2, q, q2, rfl, hq, hq2, st.keep hk, r.keep hk⟩, rd_put R5 (by omega) ..⟩⟩
theorem grp_bad {n : Nat} {l : Bs} {b o c R : Nat} {w w5 wf : World} {j k a RES base kk m q m2 q2 : Nat} {p p2 : Option Addr} {rr : PJ Js} {e : Ending} {a0 a1 a2 a3 a4 a5 : Value}
    (B05 : But R w w5) (hRES : w.heap.size ≤ RES ∧ RES < base ∧ R < w.heap.size) (hr : rr = .bad k a) (R5 : Rd l.length b o c R w5 j (k : Int) (a : Int)) (hwf : wf = put6 w5 RES a0 a1 a2 a3 a4 a5) (he : e = .returned (.tuple #[aggJ (kk : Int) 0 [] p m q p2 m2 q2 0, .bool false])) : ValP (n + 1) l b o c R w rr e wf := by
  subst hwf
  exact ⟨but_put B05 hRES.1 .., .inr ⟨k, a, j, _, _, _, _, _, _, _, _, _, _, hr, he, rd_put R5 (by omega) ..⟩⟩
theorem lst_start {n : Nat} {l : Bs} {b o c R : Nat} {w : World} (hs : Src l b o c R w) (hR : R < w.heap.size) (inn : Nat) :
    LstI n l b o c R (((w.alloc (.cells #[.pointer (some ⟨R, 0, none⟩)] 44)).alloc (.cells #[.int .i64 (inn : Int)] 3)).alloc (.cells #[.int .i64 0, .int .i64 0, .string { data := #[] }, .slice none 0 0, .slice none 0 0, .int .i64 0] 26)) w.heap.size (w.heap.size + 1) (w.heap.size + 1 + 1 + 1) (w.heap.size + 4) inn ([], []) ((((w.alloc (.cells #[.pointer (some ⟨R, 0, none⟩)] 44)).alloc (.cells #[.int .i64 (inn : Int)] 3)).alloc (.cells #[.int .i64 0, .int .i64 0, .string { data := #[] }, .slice none 0 0, .slice none 0 0, .int .i64 0] 26)).alloc (.cells #[.int .i64 6, .int .i64 0, .string { data := #[] }, .slice none 0 0, .slice none 0 0, .int .i64 0] 26)) := by
  refine ⟨.of R (ball (Below.refl _ _)), hs.below (by exact ball (ball (ball (Below.refl _ _)))), ?_, by simp [go_sem], by simp [go_sem], ⟨.slice none 0 0, ⟨by simp [go_sem], by simp [go_sem], by simp [go_sem], by simp [go_sem], by simp [go_sem], by simp [go_sem], fun o => by simp [go_sem], by simp [go_sem]⟩, VRow.none n _ _ _⟩, rfl⟩
  simp [go_sem]
  omega
set_option maxHeartbeats 8000000 in
set_option maxRecDepth 100000 in
theorem list_x {n : Nat} {l : Bs} {b o c R : Nat} {w : World} {inn i : Nat} (vf : Nat → Bs → PJ Js) (hs : Src l b o c R w) (h : Rd l.length b o c R w i 0 0) (h0 : l[i]? = some 91)
    (hv : inn ≠ 64 → ∀ w i, Src l b o c R w → Rd l.length b o c R w i 0 0 → i ≤ l.length → Calls Tryd.prog 21 #[.pointer (some ⟨R, 0, none⟩), .int .i64 ((inn + 1 : Nat) : Int)] w fun e w' => ValP n l b o c R w ((vf i (l.drop i)).andThen fun v j t => (skipJ 0 0 j t).andThen fun _ j2 t2 => .ok v j2 t2) e w')
    (hvf : ∀ i j s v t, vf i s = .ok v j t → i < j) (hin : inn ≤ 64) :
    Calls Tryd.prog 37 #[.pointer (some ⟨R, 0, none⟩), .int .i64 (inn : Int)] w fun e w' => ValP (n + 1) l b o c R w (listR vf l inn i) e w' := by
  have HS := Lib.hid hs
  have HR := Lib.hid h
  have H0 := Lib.hid h0
  have HV := Lib.hid hv
  have HVF := Lib.hid hvf
  have HRL : Hid (R < w.heap.size) := h.lt
  clear hs h h0 hv hvf
  go_enter Tryd.func37, Tryd.ntmps37
  go_wp2_with fail
  have IS := Lib.hid (lst_start (n := n) HS.out HRL.out inn)
  have B3 : Below w.heap.size w (((w.alloc (.cells #[.pointer (some ⟨R, 0, none⟩)] 44)).alloc (.cells #[.int .i64 (inn : Int)] 3)).alloc (.cells #[.int .i64 0, .int .i64 0, .string { data := #[] }, .slice none 0 0, .slice none 0 0, .int .i64 0] 26)) := ball (ball (ball (Below.refl _ _)))
  have B4 : Below w.heap.size w ((((w.alloc (.cells #[.pointer (some ⟨R, 0, none⟩)] 44)).alloc (.cells #[.int .i64 (inn : Int)] 3)).alloc (.cells #[.int .i64 0, .int .i64 0, .string { data := #[] }, .slice none 0 0, .slice none 0 0, .int .i64 0] 26)).alloc (.cells #[.int .i64 6, .int .i64 0, .string { data := #[] }, .slice none 0 0, .slice none 0 0, .int .i64 0] 26)) := ball (ball (ball (ball (Below.refl _ _))))
  have B3 := Lib.hid B3
  have R4 := Lib.hid (HR.out.below B4)
  have Z3 : Six (((w.alloc (.cells #[.pointer (some ⟨R, 0, none⟩)] 44)).alloc (.cells #[.int .i64 (inn : Int)] 3)).alloc (.cells #[.int .i64 0, .int .i64 0, .string { data := #[] }, .slice none 0 0, .slice none 0 0, .int .i64 0] 26)) (w.heap.size + 1 + 1) (.int .i64 0) (.int .i64 0) (.string { data := #[] }) (.slice none 0 0) (.slice none 0 0) (.int .i64 0) :=
    ⟨by simp [go_sem], by simp [go_sem], by simp [go_sem], by simp [go_sem], by simp [go_sem], by simp [go_sem], fun o => by simp [go_sem], by simp [go_sem]⟩
  have Z3 := Lib.hid Z3
  clear B4 HS HR
  generalize ((((w.alloc (.cells #[.pointer (some ⟨R, 0, none⟩)] 44)).alloc (.cells #[.int .i64 (inn : Int)] 3)).alloc (.cells #[.int .i64 0, .int .i64 0, .string { data := #[] }, .slice none 0 0, .slice none 0 0, .int .i64 0] 26)).alloc (.cells #[.int .i64 6, .int .i64 0, .string { data := #[] }, .slice none 0 0, .slice none 0 0, .int .i64 0] 26)) = w4 at *
  generalize (((w.alloc (.cells #[.pointer (some ⟨R, 0, none⟩)] 44)).alloc (.cells #[.int .i64 (inn : Int)] 3)).alloc (.cells #[.int .i64 0, .int .i64 0, .string { data := #[] }, .slice none 0 0, .slice none 0 0, .int .i64 0] 26)) = w3 at *
  generalize hP2 : w.heap.size = P2 at *
  have HP2 := Lib.hid hP2
  have HX := Lib.hid (inside_L (stepJ vf false) (LstI n l b o c R w3 P2 (P2 + 1) (P2 + 1 + 1 + 1) (P2 + 4) inn) (LstB R w3 (P2 + 1 + 1 + 1) 6) (cap := #[.pointer (some ⟨P2, 0, none⟩), .pointer (some ⟨P2 + 1, 0, none⟩), .pointer (some ⟨P2 + 1 + 1 + 1, 0, none⟩)])
    (fun s w h => h.src) (fun s w w' h hb => h.next hb) (fun s w h => h.bad) (fun w w' h hb => h.next hb) (fun s => s.1.length) (fun s i t s2 j t2 h => Nat.le_of_eq (step_size h))
    inn (fun hne s w i hz hI hr hi => item_L vf s hz hI hr hi (HV.out hne) HVF.out hin) ([], []) rfl IS.out R4.out H0.out)
  clear HV HVF IS R4 H0 hP2
  refine HX.out.mono ?_
  intro e w5 hx
  clear HX
  rcases hx with ⟨s2, j, q1, q2, rfl, q4, q5⟩ | ⟨k, a, j, q1, rfl, q4, q5⟩
  · obtain ⟨v, hsix, hrow⟩ := q4.row
    obtain ⟨p, m, q, rfl⟩ : ∃ p m q, v = .slice p m q := by
      obtain ⟨cs, S, h3, _⟩ := hrow
      obtain ⟨p, q, e, _⟩ := own_slice h3
      exact ⟨p, _, q, e⟩
    obtain ⟨rfl, hq, hri⟩ := hrow.row
    have RI := Lib.hid hri
    have Q5 := Lib.hid q5
    have Q4 := Lib.hid q4.but
    have HE : Hid (listR vf l inn i = .ok (.mk 6 0 [] s2.1 [] 0) j (l.drop j)) := Lib.hid (by have hn : s2.2 = [] := q4.nok; unfold listR; rw [q1, PJ.andThen_ok, hn])
    obtain ⟨k0, k1, k2, k3, k4, k5, kf, kl⟩ := hsix
    have ZZ := Lib.hid (Z3.out.but q4.but (by have := HRL.out; have := HP2.out; omega))
    obtain ⟨z0, z1, z2, z3, z4, z5, zf, zl⟩ := ZZ.out
    obtain ⟨y0, y1, y2, y3, y4, y5, yf, yl⟩ := ZZ.out.put (.int .i64 6) (.int .i64 0) (.string { data := #[] }) (.slice p s2.1.length q) (.slice none 0 0) (.int .i64 0)
    unfold put6 at y0 y1 y2 y3 y4 y5
    clear q1 q4 q5 hri hrow Z3
    go_wp2_with fail
    refine bodyPost_ret (v := .tuple #[aggJ 6 0 [] p s2.1.length q none 0 0 0, .bool true]) (by simp [results, Tryd.results37, go_sem, aggJ, y0, y1, y2, y3, y4, y5]; rfl) rfl ?_
    exact grp_fin (RES := P2 + 1 + 1) (base := P2 + 4) (But.trans (.of R (HP2.out ▸ B3.out)) Q4.out) ⟨by have := HP2.out; omega, by omega, by have := HRL.out; have := HP2.out; omega⟩ RI.out hq (fun j s h => by simp at h) (Nat.le_refl _) HE.out q2 Q5.out (by unfold put6; rfl) rfl
  · obtain ⟨p, p2, m, q, m2, q2, hsix⟩ := q4.six
    have Q5 := Lib.hid q5
    have Q4 := Lib.hid q4.but
    have HE : Hid (listR vf l inn i = .bad k a) := Lib.hid (by unfold listR; rw [q1, PJ.andThen_bad])
    obtain ⟨k0, k1, k2, k3, k4, k5, kf, kl⟩ := hsix
    have ZZ := Lib.hid (Z3.out.but q4.but (by have := HRL.out; have := HP2.out; omega))
    obtain ⟨z0, z1, z2, z3, z4, z5, zf, zl⟩ := ZZ.out
    obtain ⟨y0, y1, y2, y3, y4, y5, yf, yl⟩ := ZZ.out.put (.int .i64 6) (.int .i64 0) (.string { data := #[] }) (.slice p m q) (.slice p2 m2 q2) (.int .i64 0)
    unfold put6 at y0 y1 y2 y3 y4 y5
    clear q1 q4 q5 Z3
    go_wp2_with fail
    refine bodyPost_ret (v := .tuple #[aggJ 6 0 [] p m q p2 m2 q2 0, .bool false]) (by simp [results, Tryd.results37, go_sem, aggJ, y0, y1, y2, y3, y4, y5]; rfl) rfl ?_
    exact grp_bad (RES := P2 + 1 + 1) (base := P2 + 4) (But.trans (.of R (HP2.out ▸ B3.out)) Q4.out) ⟨by have := HP2.out; omega, by omega, by have := HRL.out; have := HP2.out; omega⟩ HE.out Q5.out (by unfold put6; rfl) rfl
end Go.Proofs.YtgiihljiekagdaaDoor
