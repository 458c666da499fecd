/- Package json: one item of a map. -/
import Derived.Test.YtgiihljiekagdaaDoorKz
namespace Go.Proofs.YtgiihljiekagdaaDoor
open Go.ChangeShapes Go.WideShapes Go.RowKit Go.Sort
theorem infoS9 : (Tryd.prog.info? 9).map (fun i => (i.zero, i.size, i.bytes)) = some (some (.string .empty), 1, 16) := by kernel_rfl
/-- A name put behind others. -/
theorem appKey {ops : Array Oper} {rest : List Oper} {o : Oper} {a : Act} {Q : Exit → Act → World → Prop} (w : World) (hgd : o.guard = none) (s x : Operand)
    (ho : o.op = .call { callee := .builtin .append, args := #[s, x], argTypes := #[24, 24] }) (base : Nat) (v : Value) (ks : List Bs) (hs : a.eval s = v) (hown : w.ownsRow base 9 1 v ks.length (keyC ks))
    (g : Nat) (hx : a.eval x = .slice (some ⟨g, 0, none⟩) 1 1) (nm : Bs) (hc : w.cell? ⟨g, 0, none⟩ = some (.string (baS nm))) (hlen : ks.length ≤ 1000000) (hbase : base ≤ w.heap.size)
    (h : ∀ g' cap w', w'.ownsRow base 9 1 (.slice (some ⟨g', 0, none⟩) (ks.length + 1) cap) (ks.length + 1) (keyC (ks ++ [nm])) → w.grownBy w' v.ownBlock → (some g' = v.ownBlock ∨ g' = w.heap.size) → wpList Tryd.prog ops Q rest (a.put o.dst (.slice (some ⟨g', 0, none⟩) (ks.length + 1) cap)) w') : wpList Tryd.prog ops Q (o :: rest) a w := by
  obtain ⟨i0, hi, hz0, hz1, hz2⟩ := info_parts infoS9
  refine wpList_append_own_at w hgd s x 24 ho base 9 i0 (.string .empty) 1 16 Tryd.underlying24 hi hz0 hz1 hz2 rfl (by decide) v ks.length (keyC ks) hs hown ⟨g, 0, none⟩ 1 1 [.string (baS nm)] hx rfl (fun j u hj => ?_) (fun u hu => by simp at hu; subst hu; rfl) (by unfold maxLen; omega) (by omega) hbase ?_
  · cases j with
    | zero => simp at hj; subst hj; simpa [Addr.add] using hc
    | succ j => simp at hj
  · intro v' w' hown' hgr hnil hloc
    obtain ⟨g', cap, rfl⟩ : ∃ g' cap, v' = .slice (some ⟨g', 0, none⟩) (ks.length + 1) cap := by
      rcases hown'.2 with ⟨h1, h2⟩ | ⟨g', cap, cur, h1, _⟩
      · omega
      · exact ⟨g', cap, h1⟩
    refine h g' cap w' (by simpa [keyC] using hown') hgr ?_
    rcases hloc with h | h
    · exact .inl h
    · exact .inr (by cases h; rfl)
set_option maxHeartbeats 8000000 in
set_option maxRecDepth 100000 in
theorem item_M {n : Nat} {l : Bs} {b o c R : Nat} {w0 w : World} {P2 PM P3 J M base inn i : Nat} (vf : Nat → Bs → PJ Js) (s : List Js × List Bs) (hz : s.1.length ≤ i) (hI : MapI n l b o c R w0 P2 PM P3 J M base inn s w) (hr : Rd l.length b o c R w i 0 0) (hi : i ≤ l.length)
    (hv : ∀ w i, Src l b o c R w → Rd l.length b o c R w i 0 0 → i ≤ l.length → Calls Tryd.prog 21 #[.pointer (some ⟨R, 0, none⟩), .int .i64 ((inn + 1 : Nat) : Int)] w fun e w' => ValP n l b o c R w ((vf i (l.drop i)).andThen fun v j t => (skipJ 0 0 j t).andThen fun _ j2 t2 => .ok v j2 t2) e w')
    (hvf : ∀ i j s v t, vf i s = .ok v j t → i < j) (hin : inn ≤ 64) :
    Calls Tryd.prog 51 #[.pointer (some ⟨P2, 0, none⟩), .pointer (some ⟨PM, 0, none⟩), .pointer (some ⟨P3, 0, none⟩), .pointer (some ⟨J, 0, none⟩)] w fun e w' => ItemP (stepJ vf true) (MapI n l b o c R w0 P2 PM P3 J M base inn) (LstB R w0 J 7) l b o c R s i e w' := by
  have HI := Lib.hid hI
  have HR := Lib.hid hr
  have hsm := hI.src0.small
  have hw : IntKind.i64.wrap ((inn : Int) + 1) = ((inn + 1 : Nat) : Int) := by rw [IntKind.wrap_i64]; omega
  have p2 := hI.p2
  have pm := hI.pm
  have hMb : M ≠ b := by have := hI.lM; have := hI.src0.ltb; omega
  have hMR : M ≠ R := by have := hI.lM; omega
  have hM8 : 8 ≤ M := by have := hI.lM; have := hI.src0.hR; omega
  have hlen2 : s.2.length ≤ 1000000 := by have := hI.len; omega
  have HN := Lib.hid (name_x s.2 hI.src hr hI.set hMR hMb hM8 hlen2)
  have HV := Lib.hid hv
  have HVF := Lib.hid hvf
  obtain ⟨v0, kv0, hsix0, ⟨cs, S, hown0, hvals, hS⟩, hkey0, hD⟩ := hI.row
  obtain ⟨pv, qv, rfl, _⟩ := own_slice hown0
  obtain ⟨pk, qk, rfl, _⟩ := own_slice hkey0
  have HX0 := Lib.hid hsix0
  have HO0 := Lib.hid hown0
  have HK0 := Lib.hid hkey0
  have HVS := Lib.hid hvals
  have HSS := Lib.hid hS
  have HDD := Lib.hid hD
  have hlj := Lib.hid hI.lj
  have hlM := Lib.hid hI.lM
  have HP2 : Hid (P2 ≠ R ∧ P2 < base ∧ P2 ≠ J ∧ P2 ≠ M) := hI.l2
  have HP3 : Hid (P3 ≠ R ∧ P3 < base ∧ P3 ≠ J ∧ P3 ≠ M) := hI.l3
  clear hsix0 hown0 hvals hS hkey0 hD
  clear hI hr hv hvf
  generalize inn + 1 = in1 at *
  go_enter Tryd.func51, Tryd.ntmps51
  go_wp2_with fail
  refine HN.out.mono ?_
  rintro e w1 ⟨BN, hx⟩
  clear HN p2 pm
  rcases hx with ⟨nm, jn, q1, q2, q3, rfl, q4, q5⟩ | ⟨k, a, j, snm, q1, rfl, q5⟩
  · have HNM := Lib.hid q1
    have HFN := Lib.hid q2
    have HSET := Lib.hid q5
    have SRC1 := Lib.hid (HI.out.src0.but (bt_but HI.out.but BN hlM.out.1))
    have hPk : ∀ P, P ≠ R ∧ P < base ∧ P ≠ J ∧ P ≠ M → w1.cell? ⟨P, 0, none⟩ = w.cell? ⟨P, 0, none⟩ := fun P hP =>
      (BN.keep P (by have := hlM.out; omega) (by have := hlM.out; omega)).1 0
    have p2 := (hPk P2 HP2.out).trans HI.out.p2
    have p3 := (hPk P3 HP3.out).trans HI.out.p3
    have HV1 := Lib.hid (HV.out w1 jn SRC1.out q4 q3)
    clear q1 q2 q4 q5 HV hPk
    go_wp2_with fail
    refine HV1.out.mono ?_
    rintro e w2 ⟨BV, hx⟩
    clear HV1 p2 p3
    obtain ⟨k0, x0, t0, pl, nl, cl, pq, nq, cq, a0, okb, rfl, hcase⟩ : ∃ (k0 x0 : Int) (t0 : Bs) (pl : Option Addr) (nl cl : Nat) (pq : Option Addr) (nq cq : Nat) (a0 : Int) (okb : Bool), e = .returned (.tuple #[.agg #[.int .i64 k0, .int .i64 x0, .string (baS t0), .slice pl nl cl, .slice pq nq cq, .int .i64 a0], .bool okb]) ∧
        Hid ((okb = true ∧ ∃ (x : Js) (j : Nat), stepJ vf true s i (l.drop i) = .ok (s.1 ++ [x], s.2 ++ [nm]) j (l.drop j) ∧ i < j ∧ j ≤ l.length ∧ JAt n w2 (Mid w1.heap.size w2.heap.size) (.agg #[.int .i64 k0, .int .i64 x0, .string (baS t0), .slice pl nl cl, .slice pq nq cq, .int .i64 a0]) x ∧ Rd l.length b o c R w2 j 0 0) ∨
        (okb = false ∧ ∃ k a j : Nat, stepJ vf true s i (l.drop i) = .bad k a ∧ Rd l.length b o c R w2 j (k : Int) (a : Int))) := by
      rcases hx with ⟨x, v, j, q1, q2, he, q4, q5⟩ | ⟨k, a, j, k0, x0, a0, t0, pl, nl, cl, pq, nq, cq, q1, he, q5⟩
      · cases n with
        | zero => exact q4.elim
        | succ n =>
          obtain ⟨k, xx, t, ll, q, a⟩ := x
          have q4' := q4
          obtain ⟨pl, pq, cl, cq, rfl, _⟩ := q4
          obtain ⟨v1, j1, t1, g1, g2⟩ := PJ.then_ok q1
          obtain ⟨_, j2, t2, g3, g4⟩ := PJ.then_ok g2
          cases g4
          refine ⟨_, _, _, _, _, _, _, _, _, _, true, he, .inl ⟨rfl, _, j, ?_, ?_, q2, q4', q5⟩⟩
          · unfold stepJ
            rw [if_pos rfl, HNM.out, PJ.andThen_ok, PJ.andThen_ok, g1, PJ.andThen_ok, g3, PJ.andThen_ok]
          · have := HVF.out _ _ _ _ _ g1
            have := skip_fwd _ _ _ _ _ _ g3
            have := HFN.out
            omega
      · refine ⟨_, _, _, _, _, _, _, _, _, _, false, he, .inr ⟨rfl, k, a, j, ?_, q5⟩⟩
        unfold stepJ
        rw [if_pos rfl, HNM.out, PJ.andThen_ok, PJ.andThen_ok]
        cases g1 : vf jn (l.drop jn) with
        | bad q a2 => rw [g1, PJ.andThen_bad] at q1; rw [PJ.andThen_bad]; cases q1; rfl
        | ok v1 j1 t1 =>
          rw [g1, PJ.andThen_ok] at q1
          rw [PJ.andThen_ok]
          cases g2 : skipJ 0 0 j1 t1 with
          | bad q a2 => rw [g2, PJ.andThen_bad] at q1; rw [PJ.andThen_bad]; cases q1; rfl
          | ok u j2 t2 => rw [g2, PJ.andThen_ok] at q1; cases q1
    clear hx

    have hJ2 : Hid (J < w2.heap.size) := Lib.hid (by have := hlj.out; have := hlM.out; have := BN.size; have := BV.size; omega)
    have hrows : Hid (base ≤ w2.heap.size ∧ w.heap.size ≤ w2.heap.size) := ⟨by have := hlM.out; have := BN.size; have := BV.size; omega, by have := BN.size; have := BV.size; omega⟩
    have h2w : ∀ g, base ≤ g → g < w.heap.size → w2.heap[g]? = w.heap[g]? := fun g h1 h2 => (BV.block g (by have := BN.size; omega) (by have := hlM.out; omega)).trans (BN.block g h2 (by have := hlM.out; omega))
    have HIX : Hid (Six w2 J (.int .i64 7) (.int .i64 0) (.string { data := #[] }) (.slice pv s.1.length qv) (.slice pk s.2.length qk) (.int .i64 0)) := Lib.hid (HX0.out.heap ((BV.block J (by have := hlj.out; have := hlM.out; have := BN.size; omega) (by have := hlj.out; have := hlM.out; omega)).trans (BN.block J (by have := hlj.out; have := hlM.out; omega) (by have := hlj.out; have := hlM.out; omega))) hJ2.out)
    have HO := Lib.hid (own_heap HO0.out (w' := w2) (fun g hg => h2w g (HO0.out.lt g hg).1 (HO0.out.lt g hg).2))
    have HK := Lib.hid (own_heap HK0.out (w' := w2) (fun g hg => h2w g (HK0.out.lt g hg).1 (HK0.out.lt g hg).2))
    clear h2w
    obtain ⟨j0, j1, j2, j3, j4, j5, jf, jl⟩ := HIX.out
    have HKR : some J ≠ (Value.slice pk s.2.length qk).ownBlock := fun e => by have := (HK0.out.lt J e.symm).1; have := hlj.out; omega
    have HKT : some w2.heap.size ≠ (Value.slice pk s.2.length qk).ownBlock := fun e => by have := (HK0.out.lt w2.heap.size e.symm).2; have := hrows.out; omega
    have hb2 : base ≤ w2.heap.size := hrows.out.1
    go_wp2_with (at_builtin; refine appKey _ (by rfl) _ _ (by rfl) base _ s.2 (by rfl) (own_next HK.out (by first | exact ball (ball (Below.refl _ _)) | exact ball (Below.drew (ball (Below.refl _ _))) | exact Below.drew (ball (ball (Below.refl _ _))))) (w2.heap.size + 1) (by rfl) nm (by simp [go_sem]) hlen2 (by simp; omega) ?_; intro gk qk2 w3 hownk hgrk hlock; have K3 := grown_keep hgrk J (by simp; omega) HKR; obtain ⟨kc, kf, kl⟩ := K3; have K4 := grown_keep hgrk w2.heap.size (by simp; omega) HKT; obtain ⟨tc, tff, tll⟩ := K4)
    have T6 : Six (w2.alloc (.cells #[.int .i64 k0, .int .i64 x0, .string (baS t0), .slice pl nl cl, .slice pq nq cq, .int .i64 a0] 26)) w2.heap.size (.int .i64 k0) (.int .i64 x0) (.string (baS t0)) (.slice pl nl cl) (.slice pq nq cq) (.int .i64 a0) :=
      ⟨by simp [go_sem], by simp [go_sem], by simp [go_sem], by simp [go_sem], by simp [go_sem], by simp [go_sem], fun o => by simp [go_sem], by simp [go_sem]⟩
    have BT : Below w2.heap.size w2 (w2.alloc (.cells #[.int .i64 k0, .int .i64 x0, .string (baS t0), .slice pl nl cl, .slice pq nq cq, .int .i64 a0] 26)) := ball (Below.refl _ _)
    have BXk : Below (w2.alloc (.cells #[.int .i64 k0, .int .i64 x0, .string (baS t0), .slice pl nl cl, .slice pq nq cq, .int .i64 a0] 26)).heap.size (w2.alloc (.cells #[.int .i64 k0, .int .i64 x0, .string (baS t0), .slice pl nl cl, .slice pq nq cq, .int .i64 a0] 26)) ((w2.alloc (.cells #[.int .i64 k0, .int .i64 x0, .string (baS t0), .slice pl nl cl, .slice pq nq cq, .int .i64 a0] 26)).alloc (.cells #[.string (baS nm)] 9)) := ball (Below.refl _ _)
    clear kc kf kl tc tff tll j0 j1 j2 j3 j4 j5 jf jl
    generalize (w2.alloc (.cells #[.int .i64 k0, .int .i64 x0, .string (baS t0), .slice pl nl cl, .slice pq nq cq, .int .i64 a0] 26)).alloc (.cells #[.string (baS nm)] 9) = Xk at *
    generalize w2.alloc (.cells #[.int .i64 k0, .int .i64 x0, .string (baS t0), .slice pl nl cl, .slice pq nq cq, .int .i64 a0] 26) = W at *
    have hWs : w2.heap.size < W.heap.size := T6.lt
    have hXs := BXk.size
    have hks := hgrk.size
    have TX := T6.below BXk
    have T3 := TX.heap (hgrk.block w2.heap.size (by omega) HKT) (by omega)
    have JX := (HIX.out.below BT).below BXk
    have J3 := JX.heap (hgrk.block J (by have := hJ2.out; omega) HKR) (by have := hJ2.out; omega)
    have J4 := six_set4 J3 (.slice (some ⟨gk, 0, none⟩) (s.2.length + 1) qk2)
    have hJT : ¬ (J = w2.heap.size) := by have := hJ2.out; omega
    have T4 := T3.heap (w' := w3.setCell ⟨J, 4, none⟩ (.slice (some ⟨gk, 0, none⟩) (s.2.length + 1) qk2)) (Below.heap_setCell _ _ _ _ (fun e => hJT e.symm)) (by simpa [World.setCell] using T3.lt)
    have HVR : some J ≠ (Value.slice pv s.1.length qv).ownBlock := fun e => by have := (HO0.out.lt J e.symm).1; have := hlj.out; omega
    have HTR : some w2.heap.size ≠ (Value.slice pv s.1.length qv).ownBlock := fun e => by have := (HO0.out.lt w2.heap.size e.symm).2; have := hrows.out; omega
    have HDk : (Value.slice pv s.1.length qv).ownBlock ≠ some J := fun e => HVR e.symm
    have hDis : ∀ g, (Value.slice pv s.1.length qv).ownBlock = some g → w3.heap[g]? = w2.heap[g]? := fun g hg =>
      (hgrk.block g (by have := (HO0.out.lt g hg).2; have := hrows.out; omega) (fun e => HDD.out g e.symm hg)).trans ((below_next BT BXk).block g (by have := (HO0.out.lt g hg).2; have := hrows.out; omega))
    have OW : Hid ((w3.setCell ⟨J, 4, none⟩ (.slice (some ⟨gk, 0, none⟩) (s.2.length + 1) qk2)).ownsRow base 26 6 (.slice pv s.1.length qv) s.1.length cs) :=
      Lib.hid (ownsRow_setCell_below (own_heap HO.out hDis) (a := ⟨J, 4, none⟩) hlj.out.2.1 _)
    have HW2 : Hid (∃ u, u = w3.setCell ⟨J, 4, none⟩ (.slice (some ⟨gk, 0, none⟩) (s.2.length + 1) qk2)) := Lib.hid ⟨_, rfl⟩
    obtain ⟨W2, hW2⟩ := HW2.out
    rw [← hW2] at J4 T4 OW
    rw [← hW2]
    have hs2 : w3.heap.size = W2.heap.size := by rw [hW2]; simp [World.setCell]
    have HW2e := Lib.hid hW2
    have HBT := Lib.hid BT
    have HBX := Lib.hid BXk
    have HGK := Lib.hid hgrk
    have HLK := Lib.hid hlock
    have HWK := Lib.hid hownk
    have hbW : base ≤ W2.heap.size := by omega
    have hz2 : s.1.length ≤ 1000000 := by have := HI.out.len; omega
    have hTl : w2.heap.size < W2.heap.size := by omega
    have hJl : J < W2.heap.size := J4.lt
    have hJb : J < base := hlj.out.2.1
    clear hW2 HW2 BT BXk hgrk hlock hownk TX T3 JX J3 hDis
    clear T6
    obtain ⟨j0, j1, j2, j3, j4, j5, jf, jl⟩ := J4
    obtain ⟨t0, t1, t2, t3, t4, t5, tf, tl⟩ := T4
    generalize hT0 : w2.heap.size = T0 at *
    have HT0 := Lib.hid hT0
    clear hT0
    have hN1 : (s.1.length : Int) < (s.1.length : Int) + 1 := by omega
    go_region_law
      (first
        | (refine stepJ6 _ (by rfl) (.tmp 30) (.tmp 33) (by rfl) base _ s.1.length cs (by rfl) (own_next OW.out (by first | exact ball (Below.refl _ _) | exact ball (Below.drew (Below.refl _ _)) | exact Below.drew (ball (Below.refl _ _)))) W2.heap.size (by rfl) (by first | exact Six.zero _ | exact (Six.zero _).drew | exact Six.zero (World.drew _)) hz2 (Nat.le_trans hbW (by simp)) ?_; intro g3 cap3 w4 hown3 hgr3 hloc3; have L3 := last6 hown3; obtain ⟨⟨z0, z1, z2, z3, z4, z5⟩, zf, zb, zl⟩ := L3; have K3 := grown_keep hgr3 J (by simp; exact Nat.lt_succ_of_lt jl) HVR; obtain ⟨kc, kf, kl⟩ := K3; have K4 := grown_keep hgr3 T0 (by simp; exact Nat.lt_succ_of_lt tl) HTR; obtain ⟨tc, tff, tll⟩ := K4; have nJ : ¬ (g3 = J) := ne_low zb hJb; have nJ2 : ¬ (J = g3) := fun e => nJ e.symm; have nT : ¬ (g3 = T0) := ne_loc hloc3 HTR (by simp; exact Nat.lt_succ_of_lt tl); have nT2 : ¬ (T0 = g3) := fun e => nT e.symm))
    all_goals go_wp2_with fail
    all_goals go_ret
    all_goals exact item_finM HI.out BN HSET.out BV HT0.out hcase.out HX0.out HO0.out HVS.out HSS.out HK0.out HDD.out HBT.out HBX.out HGK.out HLK.out HWK.out HW2e.out (by first | exact ball (Below.refl _ _) | exact Below.drew (ball (Below.refl _ _)) | exact ball (Below.drew (Below.refl _ _))) hgr3 hloc3 hown3 (by first | exact Or.inl (by unfold endA; with_reducible rfl) | exact Or.inr (by unfold endB; with_reducible rfl)) rfl
  · have HST : Hid (stepJ vf true s i (l.drop i) = .bad k a) := Lib.hid (by
      unfold stepJ
      rw [if_pos rfl, q1, PJ.andThen_bad, PJ.andThen_bad])
    have BB : LstB R w0 J 7 w1 := ⟨bt_but HI.out.but BN hlM.out.1, ⟨hlj.out.1, hlM.out.2.2.1⟩, pv, pk, _, qv, _, qk, HX0.out.heap (BN.block J (by have := hlj.out; have := hlM.out; omega) (by have := hlj.out; have := hlM.out; omega)) (by have := hlj.out; have := hlM.out; have := BN.size; omega)⟩
    have BB := Lib.hid BB
    have Q5 := Lib.hid q5
    clear q1 q5
    go_wp2_with fail
    go_ret
    exact .inr ⟨k, a, j, HST.out, rfl, BB.out, Q5.out⟩
end Go.Proofs.YtgiihljiekagdaaDoor
