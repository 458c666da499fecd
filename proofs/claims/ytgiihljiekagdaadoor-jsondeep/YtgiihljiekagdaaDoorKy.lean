/- Package json: one item of a list. -/
import Derived.Test.YtgiihljiekagdaaDoorKx
namespace Go.Proofs.YtgiihljiekagdaaDoor
open Go.ChangeShapes Go.WideShapes Go.RowKit Go.Sort
set_option maxHeartbeats 8000000 in
set_option maxRecDepth 100000 in
theorem item_L {n : Nat} {l : Bs} {b o c R : Nat} {w0 w : World} {P2 P3 J base inn i : Nat} (vf : Nat → Bs → PJ Js) (s : List Js × List Bs) (hz : s.1.length ≤ i) (hI : LstI n l b o c R w0 P2 P3 J base inn s w) (hr : Rd l.length b o c R w i 0 0) (hi : i ≤ l.length)
    (hv : ∀ w i, Src l b o c R w → Rd l.length b o c R w i 0 0 → i ≤ l.length → Calls Tryd.prog 21 #[.pointer (some ⟨R, 0, none⟩), .int .i64 ((inn + 1 : Nat) : Int)] w fun e w' => ValP n l b o c R w ((vf i (l.drop i)).andThen fun v j t => (skipJ 0 0 j t).andThen fun _ j2 t2 => .ok v j2 t2) e w')
    (hvf : ∀ i j s v t, vf i s = .ok v j t → i < j) (hin : inn ≤ 64) :
    Calls Tryd.prog 50 #[.pointer (some ⟨P2, 0, none⟩), .pointer (some ⟨P3, 0, none⟩), .pointer (some ⟨J, 0, none⟩)] w fun e w' => ItemP (stepJ vf false) (LstI n l b o c R w0 P2 P3 J base inn) (LstB R w0 J 6) l b o c R s i e w' := by
  have HI := Lib.hid hI
  have HR := Lib.hid hr
  have hw : IntKind.i64.wrap ((inn : Int) + 1) = ((inn + 1 : Nat) : Int) := by rw [IntKind.wrap_i64]; omega
  have p2 := hI.p2
  have p3 := hI.p3
  have HV := Lib.hid (hv w i hI.src hr hi)
  have HVF := Lib.hid hvf
  obtain ⟨v0, hsix0, cs, S, hown0, hvals, hS⟩ := hI.row
  obtain ⟨pv, qv, rfl, _⟩ := own_slice hown0
  have HX0 := Lib.hid hsix0
  have HO0 := Lib.hid hown0
  have HVS := Lib.hid hvals
  have HSS := Lib.hid hS
  have hlo := Lib.hid hI.lo
  clear hsix0 hown0 hvals hS
  clear hI hr hv hvf
  generalize inn + 1 = in1 at *
  go_enter Tryd.func50, Tryd.ntmps50
  go_wp2_with fail
  refine HV.out.mono ?_
  rintro e w1 ⟨B1, hx⟩
  have I1 := Lib.hid (HI.out.next B1)
  clear HV p2 p3
  obtain ⟨k0, x0, t0, pl, nl, cl, pq, nq, cq, a0, okb, rfl, hcase⟩ : ∃ (k0 x0 : Int) (t0 : Bs) (pl : Option Addr) (nl cl : Nat) (pq : Option Addr) (nq cq : Nat) (a0 : Int) (okb : Bool), e = .returned (.tuple #[.agg #[.int .i64 k0, .int .i64 x0, .string (baS t0), .slice pl nl cl, .slice pq nq cq, .int .i64 a0], .bool okb]) ∧
      Hid ((okb = true ∧ ∃ (x : Js) (j : Nat), stepJ vf false s i (l.drop i) = .ok (s.1 ++ [x], s.2) j (l.drop j) ∧ i < j ∧ j ≤ l.length ∧ JAt n w1 (Mid w.heap.size w1.heap.size) (.agg #[.int .i64 k0, .int .i64 x0, .string (baS t0), .slice pl nl cl, .slice pq nq cq, .int .i64 a0]) x ∧ Rd l.length b o c R w1 j 0 0) ∨
      (okb = false ∧ ∃ k a j : Nat, stepJ vf false s i (l.drop i) = .bad k a ∧ Rd l.length b o c R w1 j (k : Int) (a : Int))) := by
    rcases hx with ⟨x, v, j, q1, q2, he, q4, q5⟩ | ⟨k, a, j, k0, x0, a0, t0, pl, nl, cl, pq, nq, cq, q1, he, q5⟩
    · cases n with
      | zero => exact q4.elim
      | succ n =>
        obtain ⟨k, xx, t, ll, q, a⟩ := x
        have q4' := q4
        obtain ⟨pl, pq, cl, cq, rfl, _⟩ := q4
        obtain ⟨v1, j1, t1, g1, g2⟩ := PJ.then_ok q1
        obtain ⟨_, j2, t2, g3, g4⟩ := PJ.then_ok g2
        cases g4
        refine ⟨_, _, _, _, _, _, _, _, _, _, true, he, .inl ⟨rfl, _, j, ?_, ?_, q2, q4', q5⟩⟩
        · unfold stepJ
          rw [if_neg (by decide), PJ.andThen_ok, g1, PJ.andThen_ok, g3, PJ.andThen_ok]
        · have := HVF.out _ _ _ _ _ g1
          have := skip_fwd _ _ _ _ _ _ g3
          omega
    · refine ⟨_, _, _, _, _, _, _, _, _, _, false, he, .inr ⟨rfl, k, a, j, ?_, q5⟩⟩
      unfold stepJ
      rw [if_neg (by decide), PJ.andThen_ok]
      cases g1 : vf i (l.drop i) with
      | bad q a2 => rw [g1, PJ.andThen_bad] at q1; rw [PJ.andThen_bad]; cases q1; rfl
      | ok v1 j1 t1 =>
        rw [g1, PJ.andThen_ok] at q1
        rw [PJ.andThen_ok]
        cases g2 : skipJ 0 0 j1 t1 with
        | bad q a2 => rw [g2, PJ.andThen_bad] at q1; rw [PJ.andThen_bad]; cases q1; rfl
        | ok u j2 t2 => rw [g2, PJ.andThen_ok] at q1; cases q1
  clear hx
  have HIX := Lib.hid (HX0.out.but B1 (by have := hlo.out; omega))
  have HO := Lib.hid (own_but HO0.out B1 (by have := hlo.out; omega))
  go_wp2_with fail
  have T6 : Six (w1.alloc (.cells #[.int .i64 k0, .int .i64 x0, .string (baS t0), .slice pl nl cl, .slice pq nq cq, .int .i64 a0] 26)) w1.heap.size (.int .i64 k0) (.int .i64 x0) (.string (baS t0)) (.slice pl nl cl) (.slice pq nq cq) (.int .i64 a0) :=
    ⟨by simp [go_sem], by simp [go_sem], by simp [go_sem], by simp [go_sem], by simp [go_sem], by simp [go_sem], fun o => by simp [go_sem], by simp [go_sem]⟩
  have BT : Below w1.heap.size w1 (w1.alloc (.cells #[.int .i64 k0, .int .i64 x0, .string (baS t0), .slice pl nl cl, .slice pq nq cq, .int .i64 a0] 26)) := ball (Below.refl _ _)
  generalize w1.alloc (.cells #[.int .i64 k0, .int .i64 x0, .string (baS t0), .slice pl nl cl, .slice pq nq cq, .int .i64 a0] 26) = W at *
  have HJ := Lib.hid (HIX.out.below BT)
  have OW := Lib.hid (own_next HO.out BT)
  have HT := Lib.hid T6
  have hz2 : s.1.length ≤ 1000000 := by have := I1.out.src0.small; omega
  have hbW : base ≤ W.heap.size := Nat.le_trans I1.out.lo.2.2.2.2.2.2.2.2.2 BT.size
  have hJT : ¬ (J = w1.heap.size) := by have := hlo.out; have := B1.size; omega
  have HBT := Lib.hid BT
  have HTR : some w1.heap.size ≠ (Value.slice pv s.1.length qv).ownBlock := fun e => by have := (HO.out.lt w1.heap.size e.symm).2; omega
  obtain ⟨j0, j1, j2, j3, j4, j5, jf, jl⟩ := HJ.out
  obtain ⟨t0, t1, t2, t3, t4, t5, tf, tl⟩ := T6
  have HSZ : Hid (w1.heap.size < W.heap.size) := tl
  clear BT
  generalize hT0 : w1.heap.size = T0 at *
  have HT0 := Lib.hid hT0
  clear hT0
  have hJb : J < base := hlo.out.2.2.2.2.2.1
  have hN1 : (s.1.length : Int) < (s.1.length : Int) + 1 := by omega
  have HJR : some J ≠ (Value.slice pv s.1.length qv).ownBlock := fun e => by have := (OW.out.lt J e.symm).1; have := hlo.out; omega
  go_region_law
    (first
      | (refine stepJ6 _ (by rfl) (.tmp 14) (.tmp 17) (by rfl) base _ s.1.length cs (by rfl) (own_next OW.out (by first | exact ball (Below.refl _ _) | exact ball (Below.drew (Below.refl _ _)) | exact Below.drew (ball (Below.refl _ _)))) W.heap.size (by rfl) (by first | exact Six.zero _ | exact (Six.zero _).drew | exact Six.zero (World.drew _)) hz2 (Nat.le_trans hbW (by simp)) ?_; intro g3 cap3 w3 hown3 hgr3 hloc3; have L3 := last6 hown3; obtain ⟨⟨z0, z1, z2, z3, z4, z5⟩, zf, zb, zl⟩ := L3; have K3 := grown_keep hgr3 J (by simp; exact Nat.lt_succ_of_lt jl) HJR; obtain ⟨kc, kf, kl⟩ := K3; have K4 := grown_keep hgr3 T0 (by simp; exact Nat.lt_succ_of_lt tl) HTR; obtain ⟨tc, tff, tll⟩ := K4; have nJ : ¬ (g3 = J) := ne_low zb hJb; have nJ2 : ¬ (J = g3) := fun e => nJ e.symm; have nT : ¬ (g3 = T0) := ne_loc hloc3 HTR (by simp; exact Nat.lt_succ_of_lt tl); have nT2 : ¬ (T0 = g3) := fun e => nT e.symm))
  all_goals go_wp2_with fail
  all_goals go_ret
  all_goals exact item_fin HI.out B1 HT0.out hcase.out HX0.out HO0.out HVS.out HSS.out HBT.out (by first | exact ball (Below.refl _ _) | exact Below.drew (ball (Below.refl _ _)) | exact ball (Below.drew (Below.refl _ _))) hgr3 hloc3 hown3 (by first | exact Or.inl (by unfold endA; with_reducible rfl) | exact Or.inr (by unfold endB; with_reducible rfl)) rfl
end Go.Proofs.YtgiihljiekagdaaDoor
