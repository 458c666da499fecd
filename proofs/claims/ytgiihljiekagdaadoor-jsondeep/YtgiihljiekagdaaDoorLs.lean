/- Package json: value. -/
import Derived.Test.YtgiihljiekagdaaDoorLr
namespace Go.Proofs.YtgiihljiekagdaaDoor
open Go.ChangeShapes Go.WideShapes Go.RowKit Go.Sort
/-- What a value says that is read, and what stands behind it. -/
def valR (room : Nat) (l : Bs) (i : Nat) : PJ Js := (valueJ room i (l.drop i)).andThen fun v j t => (skipJ 0 0 j t).andThen fun _ j2 t2 => .ok v j2 t2
theorem value_at : ∀ {room i j : Nat} {s t : Bs} {x : Js}, valueJ room i s = .ok x j t → ∃ k y z q p, x = .mk k y z q p i
  | room, i, j, [], t, x, h => by unfold valueJ at h; cases h
  | room, i, j, c :: r, t, x, h => by
    unfold valueJ at h
    split at h
    · cases room with
      | zero => cases h
      | succ q =>
        have h : groupJ (valueJ q) (c == 123) i (c :: r) = .ok x j t := h
        unfold groupJ at h
        obtain ⟨_, j1, t1, _, h2⟩ := PJ.then_ok h
        by_cases hh : t1.head? = some (if (c == 123) = true then 125 else 93)
        · rw [if_pos hh] at h2; cases h2; exact ⟨_, _, _, _, _, rfl⟩
        · rw [if_neg hh] at h2
          obtain ⟨_, _, _, _, h4⟩ := PJ.then_ok h2
          cases h4; exact ⟨_, _, _, _, _, rfl⟩
    · split at h
      · obtain ⟨_, _, _, _, h2⟩ := PJ.then_ok h
        cases h2; exact ⟨_, _, _, _, _, rfl⟩
      · split at h
        · split at h
          · cases h
          · cases h; exact ⟨_, _, _, _, _, rfl⟩
        · split at h
          · obtain ⟨_, _, _, _, h2⟩ := PJ.then_ok h
            cases h2; exact ⟨_, _, _, _, _, rfl⟩
          · split at h
            · obtain ⟨_, _, _, _, h2⟩ := PJ.then_ok h
              cases h2; exact ⟨_, _, _, _, _, rfl⟩
            · split at h
              · obtain ⟨_, _, _, _, h2⟩ := PJ.then_ok h
                cases h2; exact ⟨_, _, _, _, _, rfl⟩
              · cases h
theorem bareR_ok {room : Nat} {l : Bs} {i j : Nat} {y : Js} {t : Bs} (h : bareR room l i = .ok y j t) : ∃ k u z q p, y = .mk k u z q p 0 ∧ valR room l i = (skipJ 0 0 j t).andThen fun _ j2 t2 => .ok (.mk k u z q p i) j2 t2 := by
  unfold bareR at h
  obtain ⟨x, j1, t1, h1, h2⟩ := PJ.then_ok h
  obtain ⟨k, u, z, q, p, rfl⟩ := value_at h1
  cases h2
  exact ⟨k, u, z, q, p, rfl, by unfold valR; rw [h1, PJ.andThen_ok]⟩
theorem bareR_bad {room : Nat} {l : Bs} {i q a : Nat} (h : bareR room l i = .bad q a) : valR room l i = .bad q a := by
  unfold bareR at h
  unfold valR
  cases h1 : valueJ room i (l.drop i) with
  | ok x j t => rw [h1, PJ.andThen_ok] at h; cases h
  | bad q2 a2 => rw [h1, PJ.andThen_bad] at h; rw [PJ.andThen_bad]; cases h; rfl
theorem JAt.place {n : Nat} {w : World} {S : Nat → Prop} {k xx a a2 : Int} {k' a' : Nat} {x' : Int} {t t' : Bs} {pl pq : Option Addr} {nl cl nq cq : Nat} {l : List Js} {q : List Bs} (h : JAt (n + 1) w S (aggJ k xx t pl nl cl pq nq cq a) (.mk k' x' t' l q a')) (i : Nat) (e : a2 = (i : Int)) : JAt (n + 1) w S (aggJ k xx t pl nl cl pq nq cq a2) (.mk k' x' t' l q i) := by
  obtain ⟨pl', pq', cl', cq', h1, h2, h3, h4, h5⟩ := h
  subst e
  injection h1 with h1
  have h1 := congrArg Array.toList h1
  simp at h1
  obtain ⟨e1, e2, e3, ⟨e4, e5, e6⟩, ⟨e7, e8, e9⟩, e10⟩ := h1
  refine ⟨pl', pq', cl', cq', ?_, h2, h3, h4, h5⟩
  unfold aggJ
  subst e1 e2 e4 e5 e6 e7 e8 e9
  rw [e3]
theorem leaf_bad2 {n : Nat} {l : Bs} {b o c R : Nat} {w w5 wf : World} {j k a RES m q m2 q2 : Nat} {kk x0 aa : Int} {t0 : Bs} {p p2 : Option Addr} {rr : PJ Js} {e : Ending} {a0 a1 a2 a3 a4 a5 : Value}
    (B05 : But R w w5) (hRES : w.heap.size ≤ RES ∧ R < w.heap.size) (hr : rr = .bad k a) (R5 : Rd l.length b o c R w5 j (k : Int) (a : Int)) (hwf : wf = (put6 w5 RES a0 a1 a2 a3 a4 a5).drew) (he : e = .returned (.tuple #[aggJ kk x0 t0 p m q p2 m2 q2 aa, .bool false])) : ValP n l b o c R w rr e wf := by
  subst hwf
  exact ⟨(but_put B05 hRES.1 ..).drew, .inr ⟨k, a, j, _, _, _, _, _, _, _, _, _, _, hr, he, (rd_put R5 (by omega) ..).below (Below.refl _ _).drew⟩⟩
theorem val_fin {room : Nat} {l : Bs} {b o c R : Nat} {w w0 w2 w4 w5 wf : World} {i J T k : Nat} {u : Int} {z : Bs} {q : List Js} {p : List Bs} {kx xx ax : Int} {tx : Bs} {pl pq : Option Addr} {nl cl nq cq : Nat} {ok2 : Bool} {rr : PJ Js} {e : Ending} {a0 a1 a2 a3 a4 a5 : Value}
    (HJ : w.heap.size = J) (HR : R < J) (BB : But R w w0) (hl0 : J < w0.heap.size) (HK : But R w0 w2) (HT : w2.heap.size = T) (B4 : Below T w2 w4) (C5 : But R w4 w5)
    (HX : JAt (room + 1) w2 (Mid w0.heap.size T) (aggJ kx xx tx pl nl cl pq nq cq ax) (.mk k u z q p 0))
    (HF : (ok2 = true ∧ ∃ j2 : Nat, rr = .ok (.mk k u z q p i) j2 (l.drop j2) ∧ j2 ≤ l.length ∧ Rd l.length b o c R w5 j2 0 0) ∨ (ok2 = false ∧ ∃ k a j : Nat, rr = .bad k a ∧ Rd l.length b o c R w5 j (k : Int) (a : Int)))
    (hwf : wf = put6 w5 J a0 a1 a2 a3 a4 a5) (he : e = .returned (.tuple #[aggJ kx xx tx pl nl cl pq nq cq (i : Int), .bool ok2])) : ValP (room + 1) l b o c R w rr e wf := by
  subst HT
  have B25 : But R w2 w5 := (But.of R B4).trans C5
  rcases HF with ⟨rfl, j2, h1, h2, h3⟩ | ⟨rfl, k, a, j, h1, h3⟩
  · refine pass_fin (RES := J) BB (HK.trans B25) ⟨Nat.le_of_eq HJ, by omega, hl0⟩ h1 h2 ((HX.place i rfl).keep fun g hg => ⟨⟨hg.1, Nat.lt_of_lt_of_le hg.2 B25.size⟩, (B25.keep g hg.2 (fun e => by have := hg.1; omega)).1⟩) h3 hwf he
  · exact leaf_bad (RES := J) (BB.trans (HK.trans B25)) ⟨Nat.le_of_eq HJ, by omega⟩ h1 h3 hwf he
set_option maxHeartbeats 8000000 in
set_option maxRecDepth 100000 in
theorem value_step {room : Nat} {l : Bs} {b o c R : Nat} {w : World} {i : Nat} (hs : Src l b o c R w) (h : Rd l.length b o c R w i 0 0) (hi : i ≤ l.length) (hroom : room ≤ 64) (hv : room ≠ 0 → ∀ w i, Src l b o c R w → Rd l.length b o c R w i 0 0 → i ≤ l.length → Calls Tryd.prog 21 #[.pointer (some ⟨R, 0, none⟩), .int .i64 ((64 - room + 1 : Nat) : Int)] w fun e w' => ValP room l b o c R w ((valueJ (room - 1) i (l.drop i)).andThen fun v j t => (skipJ 0 0 j t).andThen fun _ j2 t2 => .ok v j2 t2) e w') :
    Calls Tryd.prog 21 #[.pointer (some ⟨R, 0, none⟩), .int .i64 (InR room)] w fun e w' => ValP (room + 1) l b o c R w (valR room l i) e w' := by
  have HS := Lib.hid hs
  have HR := Lib.hid h
  have HI := Lib.hid hi
  have HV := Lib.hid hv
  have HRL : Hid (R < w.heap.size) := h.lt
  clear hs h hi hv
  go_enter Tryd.func21, Tryd.ntmps21
  obtain ⟨c0, c1, c2, c3, fz, lt⟩ := HR.out
  go_wp2_with fail
  have Z0 := Six.zero w
  have B0 : Below w.heap.size w (w.alloc (.cells #[.int .i64 0, .int .i64 0, .string { data := #[] }, .slice none 0 0, .slice none 0 0, .int .i64 0] 26)) := ball (Below.refl _ _)
  have R0 := HR.out.below B0
  generalize w.alloc (.cells #[.int .i64 0, .int .i64 0, .string { data := #[] }, .slice none 0 0, .slice none 0 0, .int .i64 0] 26) = w0 at *
  generalize hJ : w.heap.size = J at *
  have HJJ : Hid (w.heap.size = J) := hJ
  have BB : Hid (But R w w0) := Lib.hid (.of R (hJ ▸ B0))
  have hl0 : Hid (J < w0.heap.size) := Z0.lt
  have S0 := Lib.hid (HS.out.but BB.out)
  clear hJ B0 HR HS c0 c1 c2 c3 fz lt
  refine (bare_x S0.out R0 HI.out hroom HV.out).mono ?_
  rintro e w2 ⟨k2, hx⟩
  have Z2 := Z0.but k2 (by have := HRL.out; omega)
  have HK := Lib.hid k2
  have S2 := Lib.hid (S0.out.but k2)
  have ZH := Lib.hid Z2
  clear HV R0 Z0 S0
  obtain ⟨kx, xx, tx, pl, nl, cl, pq, nq, cq, ax, okb, rfl, hcase⟩ : ∃ (kx xx : Int) (tx : Bs) (pl : Option Addr) (nl cl : Nat) (pq : Option Addr) (nq cq : Nat) (ax : Int) (okb : Bool), e = .returned (.tuple #[aggJ kx xx tx pl nl cl pq nq cq ax, .bool okb]) ∧
      ((okb = true ∧ Hid (∃ (k : Nat) (u : Int) (z : Bs) (q : List Js) (p : List Bs) (j : Nat), valR room l i = ((skipJ 0 0 j (l.drop j)).andThen fun _ j2 t2 => .ok (.mk k u z q p i) j2 t2) ∧ j ≤ l.length ∧ JAt (room + 1) w2 (Mid w0.heap.size w2.heap.size) (aggJ kx xx tx pl nl cl pq nq cq ax) (.mk k u z q p 0) ∧ Rd l.length b o c R w2 j 0 0)) ∨
      (okb = false ∧ Hid (∃ k a j : Nat, valR room l i = .bad k a ∧ Rd l.length b o c R w2 j (k : Int) (a : Int)))) := by
    rcases hx with ⟨x, v, j, q1, q2, he, q4, q5⟩ | ⟨k, a, j, k0, x0, a0, t0, pl, nl, cl, pq, nq, cq, q1, he, q5⟩
    · obtain ⟨k, u, z, q, p, rfl, hr⟩ := bareR_ok q1
      have q4' := q4
      obtain ⟨pl, pq, cl, cq, rfl, _⟩ := q4
      exact ⟨_, _, _, _, _, _, _, _, _, _, true, he, .inl ⟨rfl, Lib.hid ⟨k, u, z, q, p, j, hr, q2, q4', q5⟩⟩⟩
    · exact ⟨_, _, _, _, _, _, _, _, _, _, false, he, .inr ⟨rfl, Lib.hid ⟨k, a, j, bareR_bad q1, q5⟩⟩⟩
  clear hx
  unfold aggJ
  rcases hcase with ⟨rfl, HC⟩ | ⟨rfl, HC⟩
  · obtain ⟨z0, z1, z2, z3, z4, z5, zf, zl⟩ := Z2
    go_wp2_with fail
    have T4 : Six (w2.alloc (.cells #[.int .i64 kx, .int .i64 xx, .string (baS tx), .slice pl nl cl, .slice pq nq cq, .int .i64 (i : Int)] 26)) w2.heap.size (.int .i64 kx) (.int .i64 xx) (.string (baS tx)) (.slice pl nl cl) (.slice pq nq cq) (.int .i64 (i : Int)) :=
      ⟨by simp [go_sem], by simp [go_sem], by simp [go_sem], by simp [go_sem], by simp [go_sem], by simp [go_sem], fun o => by simp [go_sem], by simp [go_sem]⟩
    have B4 : Below w2.heap.size w2 (w2.alloc (.cells #[.int .i64 kx, .int .i64 xx, .string (baS tx), .slice pl nl cl, .slice pq nq cq, .int .i64 (i : Int)] 26)) := ball (Below.refl _ _)
    have S4 := Lib.hid (S2.out.below B4)
    have Z4 := ZH.out.below B4
    have HB4 := Lib.hid B4
    have hTs : Hid (J < w2.heap.size) := ZH.out.lt
    clear z0 z1 z2 z3 z4 z5 zf zl
    obtain ⟨k, u, z, q, p, j, q1, q2, q4, q5⟩ := HC.out
    have R4 := Lib.hid (q5.below B4)
    have HX := Lib.hid q4
    have H1 := Lib.hid q1
    clear HC q1 q4 q5 B4
    generalize w2.alloc (.cells #[.int .i64 kx, .int .i64 xx, .string (baS tx), .slice pl nl cl, .slice pq nq cq, .int .i64 (i : Int)] 26) = w4 at *
    generalize hT : w2.heap.size = T at *
    have HT := Lib.hid hT
    clear hT
    have HSK : Hid (∀ V, Below w4.heap.size w4 V → Calls Tryd.prog 20 #[.pointer (some ⟨R, 0, none⟩)] V fun e w5 => ∃ ok2 : Bool, e = .returned (.bool ok2) ∧ But R V w5 ∧ Hid ((ok2 = true ∧ ∃ j2 : Nat, valR room l i = .ok (.mk k u z q p i) j2 (l.drop j2) ∧ j2 ≤ l.length ∧ Rd l.length b o c R w5 j2 0 0) ∨ (ok2 = false ∧ ∃ k a j : Nat, valR room l i = .bad k a ∧ Rd l.length b o c R w5 j (k : Int) (a : Int)))) := Lib.hid (fun V hV => (skip_x (S4.out.below hV) (R4.out.below hV) q2).mono (by
      rintro e w5 ⟨b5, hx⟩
      rcases hx with ⟨j2, g1, g2, rfl, g3⟩ | ⟨k, a, j2, g1, rfl, g3⟩
      · exact ⟨true, rfl, b5, Lib.hid (.inl ⟨rfl, j2, by rw [H1.out, g1, PJ.andThen_ok], g2, g3⟩)⟩
      · exact ⟨false, rfl, b5, Lib.hid (.inr ⟨rfl, k, a, j2, by rw [H1.out, g1, PJ.andThen_bad], g3⟩)⟩))
    have hTR : T ≠ R := by have := HRL.out; have := hTs.out; omega
    have hJR : J ≠ R := by have := HRL.out; omega
    have hTJ : ¬ (T = J) := by have := hTs.out; omega
    have hJT : ¬ (J = T) := by have := hTs.out; omega
    have HT4 := Lib.hid T4
    have HZ4 := Lib.hid Z4
    obtain ⟨t0, t1, t2, t3, t4, t5, tf, tl⟩ := T4
    obtain ⟨z0, z1, z2, z3, z4, z5, zf, zl⟩ := Z4
    go_region_with (go_at_call 20; refine (HSK.out _ (by repeat (first | exact Below.refl _ _ | apply Below.drew))).mono ?_; rintro e w5 ⟨ok2, rfl, b5, HF⟩; have C5 : But R w4 w5 := (But.of R (by repeat (first | exact Below.refl _ _ | apply Below.drew))).trans b5; have T5 := HT4.out.but C5 hTR; have Z5 := HZ4.out.but C5 hJR; have HZ5 := Lib.hid Z5; obtain ⟨r0, r1, r2, r3, r4, r5, rf, rl⟩ := T5; obtain ⟨s0, s1, s2, s3, s4, s5, sf, sl⟩ := Z5)
    all_goals go_wp2_with fail
    all_goals obtain ⟨y0, y1, y2, y3, y4, y5, yf, yl⟩ := HZ5.out.put (.int .i64 kx) (.int .i64 xx) (.string (baS tx)) (.slice pl nl cl) (.slice pq nq cq) (.int .i64 (i : Int))
    all_goals unfold put6 at y0 y1 y2 y3 y4 y5
    all_goals refine bodyPost_ret (v := .tuple #[.agg #[.int .i64 kx, .int .i64 xx, .string (baS tx), .slice pl nl cl, .slice pq nq cq, .int .i64 (i : Int)], .bool ok2]) (by simp [results, Tryd.results21, go_sem, y0, y1, y2, y3, y4, y5]) rfl ?_
    all_goals exact val_fin HJJ.out HRL.out BB.out hl0.out HK.out HT.out HB4.out C5 HX.out HF.out (by unfold put6; rfl) rfl
  · obtain ⟨z0, z1, z2, z3, z4, z5, zf, zl⟩ := Z2
    go_wp2_with fail
    have T4 : Six (w2.alloc (.cells #[.int .i64 kx, .int .i64 xx, .string (baS tx), .slice pl nl cl, .slice pq nq cq, .int .i64 (i : Int)] 26)) w2.heap.size (.int .i64 kx) (.int .i64 xx) (.string (baS tx)) (.slice pl nl cl) (.slice pq nq cq) (.int .i64 (i : Int)) :=
      ⟨by simp [go_sem], by simp [go_sem], by simp [go_sem], by simp [go_sem], by simp [go_sem], by simp [go_sem], fun o => by simp [go_sem], by simp [go_sem]⟩
    have B4 : Below w2.heap.size w2 (w2.alloc (.cells #[.int .i64 kx, .int .i64 xx, .string (baS tx), .slice pl nl cl, .slice pq nq cq, .int .i64 (i : Int)] 26)) := ball (Below.refl _ _)
    have S4 := Lib.hid (S2.out.below B4)
    have Z4 := ZH.out.below B4
    have HB4 := Lib.hid B4
    have hTs : Hid (J < w2.heap.size) := ZH.out.lt
    clear z0 z1 z2 z3 z4 z5 zf zl
    obtain ⟨k, a, j, q1, q5⟩ := HC.out
    have R4 := Lib.hid (q5.below B4)
    have H1 := Lib.hid q1
    clear HC q1 q5 B4
    generalize w2.alloc (.cells #[.int .i64 kx, .int .i64 xx, .string (baS tx), .slice pl nl cl, .slice pq nq cq, .int .i64 (i : Int)] 26) = w4 at *
    generalize hT : w2.heap.size = T at *
    have HT := Lib.hid hT
    clear hT
    have hTJ : ¬ (T = J) := by have := hTs.out; omega
    have hJT : ¬ (J = T) := by have := hTs.out; omega
    have HZ4 := Lib.hid Z4
    obtain ⟨t0, t1, t2, t3, t4, t5, tf, tl⟩ := T4
    obtain ⟨z0, z1, z2, z3, z4, z5, zf, zl⟩ := Z4
    go_region
    all_goals go_wp2_with fail
    obtain ⟨y0, y1, y2, y3, y4, y5, yf, yl⟩ := HZ4.out.put (.int .i64 kx) (.int .i64 xx) (.string (baS tx)) (.slice pl nl cl) (.slice pq nq cq) (.int .i64 (i : Int))
    unfold put6 at y0 y1 y2 y3 y4 y5
    refine bodyPost_ret (v := .tuple #[.agg #[.int .i64 kx, .int .i64 xx, .string (baS tx), .slice pl nl cl, .slice pq nq cq, .int .i64 (i : Int)], .bool false]) (by simp [results, Tryd.results21, go_sem, y0, y1, y2, y3, y4, y5]) rfl ?_
    have hb : But R w2 w4 := .of R (HT.out ▸ HB4.out)
    exact leaf_bad2 (RES := J) (t0 := tx) (w5 := w4) (BB.out.trans (HK.out.trans hb)) ⟨Nat.le_of_eq HJJ.out, by have := HRL.out; have := HJJ.out; omega⟩ H1.out R4.out (by unfold put6; with_reducible rfl) rfl
end Go.Proofs.YtgiihljiekagdaaDoor
