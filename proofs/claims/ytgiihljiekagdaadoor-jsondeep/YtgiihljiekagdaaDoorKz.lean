/- What a map that is being read is. -/
import Derived.Test.YtgiihljiekagdaaDoorKx
namespace Go.Proofs.YtgiihljiekagdaaDoor
open Go.ChangeShapes Go.WideShapes Go.RowKit Go.Sort
def keyC (ks : List Bs) : List Value := ks.map fun s => .string (baS s)
/-- One value more, beside another row that has grown (A, A2: that row's block before, and behind). -/
theorem VRow.snoc2 {n : Nat} {w wa wb wf : World} {base : Nat} {v : Value} {vs : List Js} {A A2 : Nat → Prop} {cs : List Value} {S : Nat → Prop} {x : Js} {c0 c1 c2 c3 c4 c5 : Value} {g3 cap : Nat}
    (hvals : ValsIn n w S vs cs) (hS : ∀ g, S g → base ≤ g ∧ g < w.heap.size ∧ v.ownBlock ≠ some g ∧ ¬ A g) (hvb : ∀ g, v.ownBlock = some g → g < w.heap.size) (hbw : base ≤ w.heap.size) (h0a : w.heap.size ≤ wa.heap.size) (hab : wa.heap.size ≤ wb.heap.size) (hbf : wb.heap.size ≤ wf.heap.size)
    (hfr : ∀ g o, base ≤ g → g < w.heap.size → wb.cell? ⟨g, o, none⟩ = w.cell? ⟨g, o, none⟩) (hfr2 : ∀ g o, base ≤ g → g < wb.heap.size → v.ownBlock ≠ some g → ¬ A g → wf.cell? ⟨g, o, none⟩ = wb.cell? ⟨g, o, none⟩)
    (hx : JAt n wb (Mid wa.heap.size wb.heap.size) (.agg #[c0, c1, c2, c3, c4, c5]) x) (hA : ∀ g, A g → g < w.heap.size) (hA2 : ∀ g, g < wb.heap.size → A2 g → A g) (hloc : some g3 = v.ownBlock ∨ wb.heap.size ≤ g3)
    (hown : wf.ownsRow base 26 6 (.slice (some ⟨g3, 0, none⟩) (vs.length + 1) cap) (vs.length + 1) (cs ++ [c0, c1, c2, c3, c4, c5])) : VRow n wf base (.slice (some ⟨g3, 0, none⟩) (vs.length + 1) cap) (vs ++ [x]) A2 := by
  obtain ⟨vals, v1, v2, v3⟩ := hvals
  refine ⟨cs ++ [c0, c1, c2, c3, c4, c5], fun g => S g ∨ Mid wa.heap.size wb.heap.size g, by simpa using hown, ⟨vals ++ [.agg #[c0, c1, c2, c3, c4, c5]], by simp [v1], by rw [v2, List.flatMap_append]; rfl, fun j u y hu hy => ?_⟩, fun g hg => ?_⟩
  · by_cases hj : j < vs.length
    · rw [List.getElem?_append_left hj] at hu
      rw [List.getElem?_append_left (by omega)] at hy
      exact (v3 j u y hu hy).keep fun g hg => ⟨.inl hg, fun o => (hfr2 g o (hS g hg).1 (by have := (hS g hg).2.1; omega) (hS g hg).2.2.1 (hS g hg).2.2.2).trans (hfr g o (hS g hg).1 (hS g hg).2.1)⟩
    · rw [List.getElem?_append_right (by omega)] at hu
      rw [List.getElem?_append_right (by omega)] at hy
      have hj0 : j - vs.length = 0 := by
        have := (List.getElem?_eq_some_iff.1 hu).1
        simp at this; omega
      rw [hj0] at hu
      rw [v1, hj0] at hy
      simp at hu hy
      subst hu; subst hy
      exact hx.keep fun g hg => ⟨.inr hg, fun o => hfr2 g o (by have := hg.1; omega) hg.2 (fun e => by have := hvb g e; have := hg.1; omega) (fun e => by have := hA g e; have := hg.1; omega)⟩
  · rcases hg with hg | hg
    · obtain ⟨k1, k2, k3, k4⟩ := hS g hg
      refine ⟨k1, by omega, fun e => ?_, fun e => k4 (hA2 g (by omega) e)⟩
      obtain rfl : g3 = g := by simpa [Value.ownBlock] using e
      rcases hloc with h | h
      · exact k3 h.symm
      · omega
    · have h1 := hg.1
      have h2 := hg.2
      refine ⟨by omega, by omega, fun e => ?_, fun e => by have := hA g (hA2 g h2 e); omega⟩
      obtain rfl : g3 = g := by simpa [Value.ownBlock] using e
      rcases hloc with h | h
      · have := hvb g3 h.symm; omega
      · omega
/-- What a map that is being read is. -/
structure MapI (n : Nat) (l : Bs) (b o c R : Nat) (w0 : World) (P2 PM P3 J M base inn : Nat) (s : List Js × List Bs) (w : World) : Prop where
  but : But R w0 w
  src0 : Src l b o c R w0
  l2 : P2 ≠ R ∧ P2 < base ∧ P2 ≠ J ∧ P2 ≠ M
  lm : PM ≠ R ∧ PM < base ∧ PM ≠ J ∧ PM ≠ M
  l3 : P3 ≠ R ∧ P3 < base ∧ P3 ≠ J ∧ P3 ≠ M
  lj : w0.heap.size ≤ J ∧ J < base ∧ J ≠ M
  lM : w0.heap.size ≤ M ∧ M < base ∧ R < w0.heap.size ∧ base ≤ w.heap.size
  p2 : w.cell? ⟨P2, 0, none⟩ = some (.pointer (some ⟨R, 0, none⟩))
  pm : w.cell? ⟨PM, 0, none⟩ = some (.map (some M))
  p3 : w.cell? ⟨P3, 0, none⟩ = some (.int .i64 (inn : Int))
  set : SetAt w M s.2
  len : s.2.length = s.1.length
  row : ∃ v kv : Value, Six w J (.int .i64 7) (.int .i64 0) (.string { data := #[] }) v kv (.int .i64 0) ∧ VRow n w base v s.1 (fun g => kv.ownBlock = some g) ∧ w.ownsRow base 9 1 kv s.2.length (keyC s.2) ∧ ∀ g, kv.ownBlock = some g → v.ownBlock ≠ some g
theorem MapI.src {n : Nat} {l : Bs} {b o c R : Nat} {w0 w : World} {P2 PM P3 J M base inn : Nat} {s : List Js × List Bs} (h : MapI n l b o c R w0 P2 PM P3 J M base inn s w) : Src l b o c R w := h.src0.but h.but
theorem MapI.bad {n : Nat} {l : Bs} {b o c R : Nat} {w0 w : World} {P2 PM P3 J M base inn : Nat} {s : List Js × List Bs} (h : MapI n l b o c R w0 P2 PM P3 J M base inn s w) : LstB R w0 J 7 w := by
  obtain ⟨v, kv, h1, ⟨cs, S, h2, _⟩, h3, _⟩ := h.row
  obtain ⟨p, q, rfl, _⟩ := own_slice h2
  obtain ⟨p2, q2, rfl, _⟩ := own_slice h3
  exact ⟨h.but, ⟨h.lj.1, h.lM.2.2.1⟩, p, p2, _, q, _, q2, h1⟩
theorem SetAt.heap {w w' : World} {M : Nat} {ks : List Bs} (h : SetAt w M ks) (e : w'.heap[M]? = w.heap[M]?) : SetAt w' M ks := by
  obtain ⟨es, clock, h1, h2⟩ := h
  exact ⟨es, clock, e.trans h1, h2⟩
theorem MapI.next {n : Nat} {l : Bs} {b o c R : Nat} {w0 w w' : World} {P2 PM P3 J M base inn : Nat} {s : List Js × List Bs} (h : MapI n l b o c R w0 P2 PM P3 J M base inn s w) (hb : But R w w') : MapI n l b o c R w0 P2 PM P3 J M base inn s w' := by
  obtain ⟨v, kv, h1, h2, h3, h4⟩ := h.row
  have hM := h.lM
  have hk := fun g (hg : g < w.heap.size) (hr : g ≠ R) => hb.keep g hg hr
  have hP : ∀ P, P ≠ R ∧ P < base ∧ P ≠ J ∧ P ≠ M → w'.cell? ⟨P, 0, none⟩ = w.cell? ⟨P, 0, none⟩ := fun P hP => (hk P (by omega) (by omega)).1 0
  have hvb : ∀ g, v.ownBlock = some g → base ≤ g ∧ g < w.heap.size := by
    obtain ⟨cs, S, h3, _⟩ := h2
    exact h3.lt
  refine ⟨h.but.trans hb, h.src0, h.l2, h.lm, h.l3, h.lj, ⟨hM.1, hM.2.1, hM.2.2.1, Nat.le_trans hM.2.2.2 hb.size⟩, (hP P2 h.l2).trans h.p2, (hP PM h.lm).trans h.pm, (hP P3 h.l3).trans h.p3, h.set.heap (hb.block M (by omega) (by omega)), h.len, ⟨v, kv, h1.but hb (by have := h.lj; omega), ?_, own_but h3 hb (by omega), h4⟩⟩
  exact h2.keep hb.size (fun g hg => hb.block g (hvb g hg).2 (by have := (hvb g hg).1; omega)) (fun g h1 h3 _ h5 => ⟨hb.block g h3 (by omega), h5⟩)
theorem bt_but {R M : Nat} {w0 w w1 : World} (h : But R w0 w) (k : Bt (fun k => k = R ∨ k = M) w w1) (hM : w0.heap.size ≤ M) : But R w0 w1 :=
  ⟨k.os.trans h.os, k.tape.trans h.tape, k.output.trans h.output, Nat.le_trans h.size k.size, fun g hg hr => (k.block g (Nat.lt_of_lt_of_le hg h.size) (by omega)).trans (h.block g hg hr)⟩
theorem Six.heap {w w' : World} {J : Nat} {c0 c1 c2 c3 c4 c5 : Value} (h : Six w J c0 c1 c2 c3 c4 c5) (e : w'.heap[J]? = w.heap[J]?) (hs : J < w'.heap.size) : Six w' J c0 c1 c2 c3 c4 c5 := by
  have kc : ∀ o, w'.cell? ⟨J, o, none⟩ = w.cell? ⟨J, o, none⟩ := fun o => World.cell?_of_block (w := w) e
  have kf : ∀ o, w'.frozen? ⟨J, o, none⟩ = w.frozen? ⟨J, o, none⟩ := fun o => World.frozen?_of_block (w := w) e
  exact ⟨(kc 0).trans h.k0, (kc 1).trans h.k1, (kc 2).trans h.k2, (kc 3).trans h.k3, (kc 4).trans h.k4, (kc 5).trans h.k5, fun o => (kf o).trans (h.fz o), hs⟩
theorem six_set4 {w : World} {J : Nat} {c0 c1 c2 c3 c4 c5 : Value} (h : Six w J c0 c1 c2 c3 c4 c5) (u : Value) : Six (w.setCell ⟨J, 4, none⟩ u) J c0 c1 c2 c3 u c5 := by
  have k : ∀ i, 4 ≠ i → (w.setCell ⟨J, 4, none⟩ u).cell? ⟨J, i, none⟩ = w.cell? ⟨J, i, none⟩ := fun i hi => World.cell?_setCell_other _ _ _ _ (fun e => by cases e; exact hi rfl)
  exact ⟨(k 0 (by decide)).trans h.k0, (k 1 (by decide)).trans h.k1, (k 2 (by decide)).trans h.k2, (k 3 (by decide)).trans h.k3, World.cell?_setCell_same _ _ _ h.k4, (k 5 (by decide)).trans h.k5, fun i => (World.frozen?_setCell _ _ _ _).trans (h.fz i), by simpa [World.setCell] using h.lt⟩
/-- Behind a name, a value, and the two appends of a map's item. -/
theorem item_finM {n : Nat} {l : Bs} {b o c R : Nat} {w0 w w1 w2 W Xk w3 W2 X w4 wf : World} {P2 PM P3 J M base inn i g3 cap3 qv T0 qk gk qk2 : Nat} {pv pk : Option Addr} {vf : Nat → Bs → PJ Js} {s : List Js × List Bs} {cs : List Value} {S : Nat → Prop} {c0 c1 c2 c3 c4 c5 : Value} {e : Ending} {okb : Bool} {nm : Bs}
    (HI : MapI n l b o c R w0 P2 PM P3 J M base inn s w) (BN : Bt (fun k => k = R ∨ k = M) w w1) (HSET : SetAt w1 M (s.2 ++ [nm])) (BV : But R w1 w2) (hT : w2.heap.size = T0)
    (hc : (okb = true ∧ ∃ (x : Js) (j : Nat), stepJ vf true s i (l.drop i) = .ok (s.1 ++ [x], s.2 ++ [nm]) j (l.drop j) ∧ i < j ∧ j ≤ l.length ∧ JAt n w2 (Mid w1.heap.size T0) (.agg #[c0, c1, c2, c3, c4, c5]) x ∧ Rd l.length b o c R w2 j 0 0) ∨
      (okb = false ∧ ∃ k a j : Nat, stepJ vf true s i (l.drop i) = .bad k a ∧ Rd l.length b o c R w2 j (k : Int) (a : Int)))
    (HX0 : Six w J (.int .i64 7) (.int .i64 0) (.string { data := #[] }) (.slice pv s.1.length qv) (.slice pk s.2.length qk) (.int .i64 0)) (HO0 : w.ownsRow base 26 6 (.slice pv s.1.length qv) s.1.length cs) (HVS : ValsIn n w S s.1 cs)
    (HSS : ∀ g, S g → base ≤ g ∧ g < w.heap.size ∧ (Value.slice pv s.1.length qv).ownBlock ≠ some g ∧ ¬ ((Value.slice pk s.2.length qk).ownBlock = some g)) (HK0 : w.ownsRow base 9 1 (.slice pk s.2.length qk) s.2.length (keyC s.2)) (HD : ∀ g, (Value.slice pk s.2.length qk).ownBlock = some g → (Value.slice pv s.1.length qv).ownBlock ≠ some g)
    (HBT : Below T0 w2 W) (HXk : Below W.heap.size W Xk) (HGk : Xk.grownBy w3 (Value.slice pk s.2.length qk).ownBlock) (HLk : some gk = (Value.slice pk s.2.length qk).ownBlock ∨ gk = Xk.heap.size)
    (HWk : w3.ownsRow base 9 1 (.slice (some ⟨gk, 0, none⟩) (s.2.length + 1) qk2) (s.2.length + 1) (keyC (s.2 ++ [nm]))) (hW2 : W2 = w3.setCell ⟨J, 4, none⟩ (.slice (some ⟨gk, 0, none⟩) (s.2.length + 1) qk2))
    (HX : Below W2.heap.size W2 X) (HGR : X.grownBy w4 (Value.slice pv s.1.length qv).ownBlock)
    (HLC : some g3 = (Value.slice pv s.1.length qv).ownBlock ∨ g3 = X.heap.size) (HW : w4.ownsRow base 26 6 (.slice (some ⟨g3, 0, none⟩) (s.1.length + 1) cap3) (s.1.length + 1) (cs ++ zeroJ))
    (hwf : wf = endA w4 J g3 s.1.length (.slice (some ⟨g3, 0, none⟩) (s.1.length + 1) cap3) c0 c1 c2 c3 c4 c5 ∨ wf = endB w4 J g3 s.1.length (.slice (some ⟨g3, 0, none⟩) (s.1.length + 1) cap3) c0 c1 c2 c3 c4 c5) (he : e = .returned (.bool okb)) :
    ItemP (stepJ vf true) (MapI n l b o c R w0 P2 PM P3 J M base inn) (LstB R w0 J 7) l b o c R s i e wf := by
  subst hT hW2
  have hM := HI.lM
  have hJ := HI.lj
  have hvr := HO0.lt
  have hkr := HK0.lt
  have hg3 := (HW.lt g3 rfl).1
  have hgk := HWk.lt gk rfl
  have s01 := BN.size
  have s12 := BV.size
  have sXk := (below_next HBT HXk).size
  have sk3 := HGk.size
  have s2X : w3.heap.size ≤ X.heap.size := by have := HX.size; simpa [World.setCell] using this
  have sX4 := HGR.size
  have hJrow : (Value.slice pv s.1.length qv).ownBlock ≠ some J := fun e => by have := (hvr J e).1; omega
  have hJkey : (Value.slice pk s.2.length qk).ownBlock ≠ some J := fun e => by have := (hkr J e).1; omega
  -- from w2 to w3: all but the names' row; from w3 to w4: all but J and the values' row
  have k23 : ∀ g, g < w2.heap.size → (Value.slice pk s.2.length qk).ownBlock ≠ some g → w3.heap[g]? = w2.heap[g]? := fun g hg hne =>
    (HGk.block g (Nat.lt_of_lt_of_le hg sXk) (fun e => hne e.symm)).trans ((below_next HBT HXk).block g hg)
  have k34 : ∀ g, g < w3.heap.size → g ≠ J → (Value.slice pv s.1.length qv).ownBlock ≠ some g → w4.heap[g]? = w3.heap[g]? := fun g hg hne hne2 =>
    (HGR.block g (by omega) (fun e => hne2 e.symm)).trans ((HX.block g (by simpa [World.setCell] using hg)).trans (Below.heap_setCell _ _ _ _ hne))
  have six3 : Six w3 J (.int .i64 7) (.int .i64 0) (.string { data := #[] }) (.slice pv s.1.length qv) (.slice pk s.2.length qk) (.int .i64 0) :=
    HX0.heap ((k23 J (by omega) hJkey).trans ((BV.block J (by omega) (by omega)).trans (BN.block J (by omega) (by omega)))) (by omega)
  have six4 : Six w4 J (.int .i64 7) (.int .i64 0) (.string { data := #[] }) (.slice pv s.1.length qv) (.slice (some ⟨gk, 0, none⟩) (s.2.length + 1) qk2) (.int .i64 0) := by
    have h1 := six_set4 six3 (.slice (some ⟨gk, 0, none⟩) (s.2.length + 1) qk2)
    exact (h1.below HX).heap (HGR.block J (by omega) (fun e => hJrow e.symm)) (by omega)
  obtain ⟨f1, f2, f3, f4, f5⟩ := end_facts hg3 hJ.2.1 six4 HW c0 c1 c2 c3 c4 c5 hwf
  have hg3n : ∀ g, g < w2.heap.size → (Value.slice pv s.1.length qv).ownBlock ≠ some g → g ≠ g3 := fun g hg hne e => by
    subst e
    rcases HLC with h | h
    · exact hne h.symm
    · omega
  have kAll : ∀ g, g < w2.heap.size → g ≠ J → (Value.slice pk s.2.length qk).ownBlock ≠ some g → (Value.slice pv s.1.length qv).ownBlock ≠ some g → wf.heap[g]? = w2.heap[g]? := fun g hg h1 h2 h3 =>
    (f3 g h1 (hg3n g hg h3)).trans ((k34 g (by omega) h1 h3).trans (k23 g hg h2))
  have low : ∀ g, g < base → (Value.slice pk s.2.length qk).ownBlock ≠ some g ∧ (Value.slice pv s.1.length qv).ownBlock ≠ some g := fun g hg => ⟨fun e => by have := (hkr g e).1; omega, fun e => by have := (hvr g e).1; omega⟩
  have B02 : But R w0 w2 := (bt_but HI.but BN hM.1).trans BV
  have B0f : But R w0 wf := by
    have h1 : But R w0 w3 := (B02.trans (.of R (below_next HBT HXk))).grown HGk (fun g hg => by have := (hkr g hg).1; omega)
    have h2 : But R w0 X := (h1.new (p := ⟨J, 4, none⟩) hJ.1 _).trans (.of R HX)
    exact f5 R w0 (h2.grown HGR (fun g hg => by have := (hvr g hg).1; omega)) hJ.1 (by omega)
  have hRw : R < w2.heap.size := by omega
  have hRf : wf.heap[R]? = w2.heap[R]? := kAll R hRw (by omega) (low R (by omega)).1 (low R (by omega)).2
  have hszf : w2.heap.size ≤ wf.heap.size := by rw [f4]; omega
  rcases hc with ⟨rfl, x, j, HS, HF, hj, Q4, Q5⟩ | ⟨rfl, k, a, j, HS, Q5⟩
  · have hPk : ∀ P, P ≠ R ∧ P < base ∧ P ≠ J ∧ P ≠ M → wf.cell? ⟨P, 0, none⟩ = w.cell? ⟨P, 0, none⟩ := fun P hP =>
      World.cell?_of_block (w := w) (a := ⟨P, 0, none⟩) ((kAll P (by omega) hP.2.2.1 (low P hP.2.1).1 (low P hP.2.1).2).trans ((BV.block P (by omega) (by omega)).trans (BN.block P (by omega) (by omega))))
    have hgkv : (Value.slice pv s.1.length qv).ownBlock ≠ some gk := fun e => by
      rcases HLk with h | h
      · exact HD gk h.symm e
      · have := (hvr gk e).2; omega
    have hgk3 : gk ≠ g3 := fun e => by
      subst e
      rcases HLC with h | h
      · exact hgkv h.symm
      · omega
    refine .inl ⟨(s.1 ++ [x], s.2 ++ [nm]), j, HS, HF, hj, he, ⟨B0f, HI.src0, HI.l2, HI.lm, HI.l3, HI.lj, ⟨hM.1, hM.2.1, hM.2.2.1, by omega⟩, (hPk P2 HI.l2).trans HI.p2, (hPk PM HI.lm).trans HI.pm, (hPk P3 HI.l3).trans HI.p3, ?_, by have := HI.len; simp; omega, ⟨_, _, f1, ?_, ?_, ?_⟩⟩, Q5.heap hRf (by omega)⟩
    · exact HSET.heap ((kAll M (by omega) (by omega) (low M hM.2.1).1 (low M hM.2.1).2).trans (BV.block M (by omega) (by omega)))
    · have := VRow.snoc2 (n := n) (w := w) (wa := w1) (wb := w2) (wf := wf) (base := base) (v := .slice pv s.1.length qv) (vs := s.1) (A := fun g => (Value.slice pk s.2.length qk).ownBlock = some g) (A2 := fun g => (Value.slice (some ⟨gk, 0, none⟩) (s.2.length + 1) qk2).ownBlock = some g) HVS HSS (fun g hg => (hvr g hg).2) hM.2.2.2 s01 s12 hszf
        (fun g o h1 h2 => World.cell?_of_block (w := w) (a := ⟨g, o, none⟩) ((BV.block g (by omega) (by omega)).trans (BN.block g h2 (by omega))))
        (fun g o h1 h2 h3 h4 => World.cell?_of_block (w := w2) (a := ⟨g, o, none⟩) (kAll g h2 (by omega) h4 h3)) Q4 (fun g hg => (hkr g hg).2) (fun g hg hg2 => by
          have e1 : gk = g := by simpa [Value.ownBlock] using hg2
          subst e1
          rcases HLk with h | h
          · exact h.symm
          · omega) (by
          rcases HLC with h | h
          · exact .inl h
          · exact .inr (by omega)) (by simpa using f2)
      simpa using this
    · have h1 := ownsRow_setCell_below HWk (a := ⟨J, 4, none⟩) hJ.2.1 (.slice (some ⟨gk, 0, none⟩) (s.2.length + 1) qk2)
      have h2 := own_next h1 HX
      have h3 := own_heap h2 (w' := wf) (fun g hg => by
        have e1 : gk = g := by simpa [Value.ownBlock] using hg
        subst e1
        exact (f3 gk (by omega) hgk3).trans (HGR.block gk (by omega) (fun e => hgkv e.symm)))
      simpa using h3
    · intro g hg e2
      have e1 : gk = g := by simpa [Value.ownBlock] using hg
      have e3 : g3 = g := by simpa [Value.ownBlock] using e2
      exact hgk3 (e1.trans e3.symm)
  · exact .inr ⟨k, a, j, HS, he, ⟨B0f, ⟨hJ.1, hM.2.2.1⟩, _, _, _, _, _, _, f1⟩, Q5.heap hRf (by omega)⟩
end Go.Proofs.YtgiihljiekagdaaDoor
