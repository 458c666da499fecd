/- Rows of values that are being put together, and what a list that is being read is. -/
import Derived.Test.YtgiihljiekagdaaDoorKw
namespace Go.Proofs.YtgiihljiekagdaaDoor
open Go.ChangeShapes Go.WideShapes Go.RowKit Go.Sort
theorem _root_.Go.Proofs.YtgiihljiekagdaaDoor.Six.drew {w : World} {J : Nat} {c0 c1 c2 c3 c4 c5 : Value} (h : Six w J c0 c1 c2 c3 c4 c5) : Six w.drew J c0 c1 c2 c3 c4 c5 := ⟨h.k0, h.k1, h.k2, h.k3, h.k4, h.k5, h.fz, h.lt⟩
theorem ne_low {g J base : Nat} (h : base ≤ g) (hJ : J < base) : ¬ (g = J) := by omega
theorem ne_loc {g T n : Nat} {r : Option Nat} (h : some g = r ∨ g = n) (hr : some T ≠ r) (hn : T < n) : ¬ (g = T) := fun e => by
  subst e
  rcases h with h | h
  · exact hr h
  · omega
def six : Value → List Value
  | .agg cs => cs.toList
  | _ => []
/-- Values, one behind the other, as cells; each as it must be. -/
def ValsIn (n : Nat) (w : World) (S : Nat → Prop) (vs : List Js) (cs : List Value) : Prop :=
  ∃ vals : List Value, vals.length = vs.length ∧ cs = vals.flatMap six ∧ ∀ (j : Nat) (u : Js) (v : Value), vs[j]? = some u → vals[j]? = some v → JAt n w S v u
/-- A row of values that is being put together (A: blocks that it keeps clear of). -/
def VRow (n : Nat) (w : World) (base : Nat) (v : Value) (vs : List Js) (A : Nat → Prop) : Prop :=
  ∃ (cs : List Value) (S : Nat → Prop), w.ownsRow base 26 6 v vs.length cs ∧ ValsIn n w S vs cs ∧ ∀ g, S g → base ≤ g ∧ g < w.heap.size ∧ v.ownBlock ≠ some g ∧ ¬ A g
theorem own_heap {w w' : World} {base e size n : Nat} {v : Value} {xs : List Value} (h : w.ownsRow base e size v n xs) (hb : ∀ g, v.ownBlock = some g → w'.heap[g]? = w.heap[g]?) : w'.ownsRow base e size v n xs := by
  obtain ⟨h1, h2⟩ := h
  refine ⟨h1, ?_⟩
  rcases h2 with h | ⟨g, cap, cur, rfl, b, c, d⟩
  · exact Or.inl h
  · exact Or.inr ⟨g, cap, cur, rfl, b, (hb g rfl).trans c, d⟩
theorem VRow.keep {n : Nat} {w w' : World} {base : Nat} {v : Value} {vs : List Js} {A A2 : Nat → Prop} (h : VRow n w base v vs A) (hs : w.heap.size ≤ w'.heap.size) (hrow : ∀ g, v.ownBlock = some g → w'.heap[g]? = w.heap[g]?)
    (hk : ∀ g, base ≤ g → g < w.heap.size → v.ownBlock ≠ some g → ¬ A g → w'.heap[g]? = w.heap[g]? ∧ ¬ A2 g) : VRow n w' base v vs A2 := by
  obtain ⟨cs, S, h1, ⟨vals, h3, h4, h5⟩, h6⟩ := h
  refine ⟨cs, S, own_heap h1 hrow, ⟨vals, h3, h4, fun j u x hu hx => (h5 j u x hu hx).keep fun g hg => ⟨hg, fun o => World.cell?_of_block (w := w) (hk g (h6 g hg).1 (h6 g hg).2.1 (h6 g hg).2.2.1 (h6 g hg).2.2.2).1⟩⟩, fun g hg => ?_⟩
  exact ⟨(h6 g hg).1, Nat.lt_of_lt_of_le (h6 g hg).2.1 hs, (h6 g hg).2.2.1, (hk g (h6 g hg).1 (h6 g hg).2.1 (h6 g hg).2.2.1 (h6 g hg).2.2.2).2⟩
/-- One value more. -/
theorem VRow.snoc {n : Nat} {w w1 wf : World} {base : Nat} {v : Value} {vs : List Js} {A : Nat → Prop} {cs : List Value} {S : Nat → Prop} {x : Js} {c0 c1 c2 c3 c4 c5 : Value} {g3 cap : Nat}
    (hvals : ValsIn n w S vs cs) (hS : ∀ g, S g → base ≤ g ∧ g < w.heap.size ∧ v.ownBlock ≠ some g ∧ ¬ A g) (hvb : ∀ g, v.ownBlock = some g → g < w.heap.size) (hbw : base ≤ w.heap.size) (h01 : w.heap.size ≤ w1.heap.size) (h1f : w1.heap.size ≤ wf.heap.size)
    (hfr : ∀ g o, base ≤ g → g < w.heap.size → w1.cell? ⟨g, o, none⟩ = w.cell? ⟨g, o, none⟩) (hfr2 : ∀ g o, base ≤ g → g < w1.heap.size → v.ownBlock ≠ some g → wf.cell? ⟨g, o, none⟩ = w1.cell? ⟨g, o, none⟩)
    (hx : JAt n w1 (Mid w.heap.size w1.heap.size) (.agg #[c0, c1, c2, c3, c4, c5]) x) (hA : ∀ g, A g → g < w.heap.size) (hloc : some g3 = v.ownBlock ∨ w1.heap.size ≤ g3)
    (hown : wf.ownsRow base 26 6 (.slice (some ⟨g3, 0, none⟩) (vs.length + 1) cap) (vs.length + 1) (cs ++ [c0, c1, c2, c3, c4, c5])) : VRow n wf base (.slice (some ⟨g3, 0, none⟩) (vs.length + 1) cap) (vs ++ [x]) A := by
  obtain ⟨vals, v1, v2, v3⟩ := hvals
  refine ⟨cs ++ [c0, c1, c2, c3, c4, c5], fun g => S g ∨ Mid w.heap.size w1.heap.size g, by simpa using hown, ⟨vals ++ [.agg #[c0, c1, c2, c3, c4, c5]], by simp [v1], by rw [v2, List.flatMap_append]; rfl, fun j u y hu hy => ?_⟩, fun g hg => ?_⟩
  · by_cases hj : j < vs.length
    · rw [List.getElem?_append_left hj] at hu
      rw [List.getElem?_append_left (by omega)] at hy
      exact (v3 j u y hu hy).keep fun g hg => ⟨.inl hg, fun o => (hfr2 g o (hS g hg).1 (Nat.lt_of_lt_of_le (hS g hg).2.1 h01) (hS g hg).2.2.1).trans (hfr g o (hS g hg).1 (hS g hg).2.1)⟩
    · rw [List.getElem?_append_right (by omega)] at hu
      rw [List.getElem?_append_right (by omega)] at hy
      have hj0 : j - vs.length = 0 := by
        have := (List.getElem?_eq_some_iff.1 hu).1
        simp at this; omega
      rw [hj0] at hu
      rw [v1, hj0] at hy
      simp at hu hy
      subst hu; subst hy
      exact hx.keep fun g hg => ⟨.inr hg, fun o => hfr2 g o (Nat.le_trans hbw hg.1) hg.2 (fun e => by have := hvb g e; have := hg.1; omega)⟩
  · rcases hg with hg | hg
    · obtain ⟨k1, k2, k3, k4⟩ := hS g hg
      refine ⟨k1, by omega, fun e => ?_, k4⟩
      obtain rfl : g3 = g := by simpa [Value.ownBlock] using e
      rcases hloc with h | h
      · exact k3 h.symm
      · omega
    · refine ⟨Nat.le_trans hbw hg.1, Nat.lt_of_lt_of_le hg.2 h1f, fun e => ?_, fun e => by have := hA g e; have := hg.1; omega⟩
      obtain rfl : g3 = g := by simpa [Value.ownBlock] using e
      rcases hloc with h | h
      · have := hvb g3 h.symm; have := hg.1; omega
      · have := hg.2; omega
/-- What a list that is being read is. -/
structure LstI (n : Nat) (l : Bs) (b o c R : Nat) (w0 : World) (P2 P3 J base inn : Nat) (s : List Js × List Bs) (w : World) : Prop where
  but : But R w0 w
  src0 : Src l b o c R w0
  lo : P2 ≠ R ∧ P2 < base ∧ P3 ≠ R ∧ P3 < base ∧ w0.heap.size ≤ J ∧ J < base ∧ P2 ≠ J ∧ P3 ≠ J ∧ R < w0.heap.size ∧ base ≤ w.heap.size
  p2 : w.cell? ⟨P2, 0, none⟩ = some (.pointer (some ⟨R, 0, none⟩))
  p3 : w.cell? ⟨P3, 0, none⟩ = some (.int .i64 (inn : Int))
  row : ∃ v : Value, Six w J (.int .i64 6) (.int .i64 0) (.string { data := #[] }) v (.slice none 0 0) (.int .i64 0) ∧ VRow n w base v s.1 (fun _ => False)
  nok : s.2 = []
theorem LstI.src {n : Nat} {l : Bs} {b o c R : Nat} {w0 w : World} {P2 P3 J base inn : Nat} {s : List Js × List Bs} (h : LstI n l b o c R w0 P2 P3 J base inn s w) : Src l b o c R w := h.src0.but h.but
/-- What is left of a list that could not be read. -/
structure LstB (R : Nat) (w0 : World) (J : Nat) (k : Int) (w : World) : Prop where
  but : But R w0 w
  j : w0.heap.size ≤ J ∧ R < w0.heap.size
  six : ∃ (p p2 : Option Addr) (n q n2 q2 : Nat), Six w J (.int .i64 k) (.int .i64 0) (.string { data := #[] }) (.slice p n q) (.slice p2 n2 q2) (.int .i64 0)
theorem LstI.bad {n : Nat} {l : Bs} {b o c R : Nat} {w0 w : World} {P2 P3 J base inn : Nat} {s : List Js × List Bs} (h : LstI n l b o c R w0 P2 P3 J base inn s w) : LstB R w0 J 6 w := by
  obtain ⟨v, h1, cs, S, h2, _⟩ := h.row
  obtain ⟨p, q, rfl, _⟩ := own_slice h2
  exact ⟨h.but, ⟨h.lo.2.2.2.2.1, h.lo.2.2.2.2.2.2.2.2.1⟩, p, none, _, q, 0, 0, h1⟩
theorem LstB.next {R J : Nat} {w0 w w' : World} {k : Int} (h : LstB R w0 J k w) (hb : But R w w') : LstB R w0 J k w' := by
  obtain ⟨p, p2, n, q, n2, q2, h1⟩ := h.six
  exact ⟨h.but.trans hb, h.j, p, p2, n, q, n2, q2, h1.but hb (by have := h.j; omega)⟩
theorem LstI.next {n : Nat} {l : Bs} {b o c R : Nat} {w0 w w' : World} {P2 P3 J base inn : Nat} {s : List Js × List Bs} (h : LstI n l b o c R w0 P2 P3 J base inn s w) (hb : But R w w') : LstI n l b o c R w0 P2 P3 J base inn s w' := by
  obtain ⟨v, h1, h2⟩ := h.row
  have hl := h.lo
  have hk := fun g (hg : g < w.heap.size) (hr : g ≠ R) => hb.keep g hg hr
  refine ⟨h.but.trans hb, h.src0, ⟨hl.1, hl.2.1, hl.2.2.1, hl.2.2.2.1, hl.2.2.2.2.1, hl.2.2.2.2.2.1, hl.2.2.2.2.2.2.1, hl.2.2.2.2.2.2.2.1, hl.2.2.2.2.2.2.2.2.1, Nat.le_trans hl.2.2.2.2.2.2.2.2.2 hb.size⟩, ?_, ?_, ⟨v, h1.but hb (by omega), ?_⟩, h.nok⟩
  · exact ((hk P2 (by omega) (by omega)).1 0).trans h.p2
  · exact ((hk P3 (by omega) (by omega)).1 0).trans h.p3
  · have hvb : ∀ g, v.ownBlock = some g → base ≤ g ∧ g < w.heap.size := by
      obtain ⟨cs, S, h3, _⟩ := h2
      exact h3.lt
    exact h2.keep hb.size (fun g hg => hb.block g (hvb g hg).2 (by have := (hvb g hg).1; omega)) (fun g h1 h3 _ _ => ⟨hb.block g h3 (by omega), fun e => e⟩)
theorem Rd.heap {n b o c R : Nat} {w w' : World} {i : Nat} {k a : Int} (h : Rd n b o c R w i k a) (e : w'.heap[R]? = w.heap[R]?) (hs : R < w'.heap.size) : Rd n b o c R w' i k a := by
  have kc : ∀ o, w'.cell? ⟨R, o, none⟩ = w.cell? ⟨R, o, none⟩ := fun o => World.cell?_of_block (w := w) e
  have kf : ∀ o, w'.frozen? ⟨R, o, none⟩ = w.frozen? ⟨R, o, none⟩ := fun o => World.frozen?_of_block (w := w) e
  exact ⟨(kc 0).trans h.c0, (kc 1).trans h.c1, (kc 2).trans h.c2, (kc 3).trans h.c3, fun o => (kf o).trans (h.fz o), hs⟩
/-- Behind an append of a value: the two orders in which its cells and the list's are stored. -/
def endA (w : World) (J g n : Nat) (v c0 c1 c2 c3 c4 c5 : Value) : World := ((((((w.setCell ⟨J, 3, none⟩ v).setCell ⟨g, n * 6, none⟩ c0).setCell ⟨g, n * 6 + 1, none⟩ c1).setCell ⟨g, n * 6 + 2, none⟩ c2).setCell ⟨g, n * 6 + 3, none⟩ c3).setCell ⟨g, n * 6 + 4, none⟩ c4).setCell ⟨g, n * 6 + 5, none⟩ c5
def endB (w : World) (J g n : Nat) (v c0 c1 c2 c3 c4 c5 : Value) : World := ((((((w.setCell ⟨g, n * 6, none⟩ c0).setCell ⟨g, n * 6 + 1, none⟩ c1).setCell ⟨g, n * 6 + 2, none⟩ c2).setCell ⟨g, n * 6 + 3, none⟩ c3).setCell ⟨g, n * 6 + 4, none⟩ c4).setCell ⟨g, n * 6 + 5, none⟩ c5).setCell ⟨J, 3, none⟩ v
theorem six_other {w : World} {J g : Nat} (hg : g ≠ J) (o : Nat) (u : Value) {c0 c1 c2 c3 c4 c5 : Value} (h : Six w J c0 c1 c2 c3 c4 c5) : Six (w.setCell ⟨g, o, none⟩ u) J c0 c1 c2 c3 c4 c5 := by
  have k : ∀ i, (w.setCell ⟨g, o, none⟩ u).cell? ⟨J, i, none⟩ = w.cell? ⟨J, i, none⟩ := fun i => World.cell?_setCell_other _ _ _ _ (fun e => by cases e; exact hg rfl)
  exact ⟨(k 0).trans h.k0, (k 1).trans h.k1, (k 2).trans h.k2, (k 3).trans h.k3, (k 4).trans h.k4, (k 5).trans h.k5, fun i => (World.frozen?_setCell _ _ _ _).trans (h.fz i), by simpa [World.setCell] using h.lt⟩
theorem six_set3 {w : World} {J : Nat} {c0 c1 c2 c3 c4 c5 : Value} (h : Six w J c0 c1 c2 c3 c4 c5) (u : Value) : Six (w.setCell ⟨J, 3, none⟩ u) J c0 c1 c2 u c4 c5 := by
  have k : ∀ i, 3 ≠ i → (w.setCell ⟨J, 3, none⟩ u).cell? ⟨J, i, none⟩ = w.cell? ⟨J, i, none⟩ := fun i hi => World.cell?_setCell_other _ _ _ _ (fun e => by cases e; exact hi rfl)
  exact ⟨(k 0 (by decide)).trans h.k0, (k 1 (by decide)).trans h.k1, (k 2 (by decide)).trans h.k2, World.cell?_setCell_same _ _ _ h.k3, (k 4 (by decide)).trans h.k4, (k 5 (by decide)).trans h.k5, fun i => (World.frozen?_setCell _ _ _ _).trans (h.fz i), by simpa [World.setCell] using h.lt⟩
theorem end_facts {w : World} {J g n base cap : Nat} {cs : List Value} {d0 d1 d2 d3 d4 d5 v : Value} (hg : base ≤ g) (hJ : J < base) (hs : Six w J d0 d1 d2 d3 d4 d5) (hown : w.ownsRow base 26 6 (.slice (some ⟨g, 0, none⟩) (n + 1) cap) (n + 1) (cs ++ zeroJ)) (c0 c1 c2 c3 c4 c5 : Value) {wf : World}
    (hwf : wf = endA w J g n v c0 c1 c2 c3 c4 c5 ∨ wf = endB w J g n v c0 c1 c2 c3 c4 c5) :
    Six wf J d0 d1 d2 v d4 d5 ∧ wf.ownsRow base 26 6 (.slice (some ⟨g, 0, none⟩) (n + 1) cap) (n + 1) (cs ++ [c0, c1, c2, c3, c4, c5]) ∧ (∀ k, k ≠ J → k ≠ g → wf.heap[k]? = w.heap[k]?) ∧ wf.heap.size = w.heap.size ∧ (∀ R a, But R a w → a.heap.size ≤ J → a.heap.size ≤ g → But R a wf) := by
  have hne : g ≠ J := by omega
  rcases hwf with rfl | rfl
  · unfold endA
    refine ⟨?_, own_put6 (ownsRow_setCell_below hown hJ v) c0 c1 c2 c3 c4 c5, fun k h1 h2 => ?_, by simp [World.setCell], fun R a h h1 h2 => ?_⟩
    · exact six_other hne _ _ (six_other hne _ _ (six_other hne _ _ (six_other hne _ _ (six_other hne _ _ (six_other hne _ _ (six_set3 hs v))))))
    · rw [Below.heap_setCell _ _ _ _ h2, Below.heap_setCell _ _ _ _ h2, Below.heap_setCell _ _ _ _ h2, Below.heap_setCell _ _ _ _ h2, Below.heap_setCell _ _ _ _ h2, Below.heap_setCell _ _ _ _ h2, Below.heap_setCell _ _ _ _ h1]
    · exact ((((((h.new h1 _).new h2 _).new h2 _).new h2 _).new h2 _).new h2 _).new h2 _
  · unfold endB
    refine ⟨?_, ownsRow_setCell_below (own_put6 hown c0 c1 c2 c3 c4 c5) hJ v, fun k h1 h2 => ?_, by simp [World.setCell], fun R a h h1 h2 => ?_⟩
    · exact six_set3 (six_other hne _ _ (six_other hne _ _ (six_other hne _ _ (six_other hne _ _ (six_other hne _ _ (six_other hne _ _ hs)))))) v
    · rw [Below.heap_setCell _ _ _ _ h1, Below.heap_setCell _ _ _ _ h2, Below.heap_setCell _ _ _ _ h2, Below.heap_setCell _ _ _ _ h2, Below.heap_setCell _ _ _ _ h2, Below.heap_setCell _ _ _ _ h2, Below.heap_setCell _ _ _ _ h2]
    · exact ((((((h.new h2 _).new h2 _).new h2 _).new h2 _).new h2 _).new h2 _).new h1 _
theorem item_end {n : Nat} {l : Bs} {b o c R : Nat} {w0 w w1 W X w3 wf : World} {P2 P3 J base inn i j g3 cap3 qv : Nat} {pv : Option Addr} {vf : Nat → Bs → PJ Js} {s : List Js × List Bs} {x : Js} {cs : List Value} {S : Nat → Prop} {c0 c1 c2 c3 c4 c5 : Value} {e : Ending}
    (HI : LstI n l b o c R w0 P2 P3 J base inn s w) (B1 : But R w w1) (HS : stepJ vf false s i (l.drop i) = .ok (s.1 ++ [x], s.2) j (l.drop j)) (HF : i < j) (hj : j ≤ l.length) {T0 : Nat} (hT : w1.heap.size = T0) (Q4 : JAt n w1 (Mid w.heap.size T0) (.agg #[c0, c1, c2, c3, c4, c5]) x) (Q5 : Rd l.length b o c R w1 j 0 0)
    (HX0 : Six w J (.int .i64 6) (.int .i64 0) (.string { data := #[] }) (.slice pv s.1.length qv) (.slice none 0 0) (.int .i64 0)) (HO0 : w.ownsRow base 26 6 (.slice pv s.1.length qv) s.1.length cs) (HVS : ValsIn n w S s.1 cs)
    (HSS : ∀ g, S g → base ≤ g ∧ g < w.heap.size ∧ (Value.slice pv s.1.length qv).ownBlock ≠ some g ∧ ¬ (fun _ => False : Nat → Prop) g) (HBT : Below T0 w1 W) (HX : Below W.heap.size W X) (HGR : X.grownBy w3 (Value.slice pv s.1.length qv).ownBlock)
    (HLC : some g3 = (Value.slice pv s.1.length qv).ownBlock ∨ g3 = X.heap.size) (HW : w3.ownsRow base 26 6 (.slice (some ⟨g3, 0, none⟩) (s.1.length + 1) cap3) (s.1.length + 1) (cs ++ zeroJ))
    (hwf : wf = endA w3 J g3 s.1.length (.slice (some ⟨g3, 0, none⟩) (s.1.length + 1) cap3) c0 c1 c2 c3 c4 c5 ∨ wf = endB w3 J g3 s.1.length (.slice (some ⟨g3, 0, none⟩) (s.1.length + 1) cap3) c0 c1 c2 c3 c4 c5) (he : e = .returned (.bool true)) :
    ItemP (stepJ vf false) (LstI n l b o c R w0 P2 P3 J base inn) (LstB R w0 J 6) l b o c R s i e wf := by
  subst hT
  have hl := HI.lo
  have hrow := HO0.lt
  have hg3 := (HW.lt g3 rfl).1
  have B13 : Below w1.heap.size w1 X := below_next HBT HX
  -- what a block that is neither the row nor R keeps, from w1 to w3
  have k13 : ∀ g, g < w1.heap.size → (Value.slice pv s.1.length qv).ownBlock ≠ some g → w3.heap[g]? = w1.heap[g]? := fun g hg hne =>
    (HGR.block g (Nat.lt_of_lt_of_le hg B13.size) (fun e => hne e.symm)).trans (B13.block g hg)
  have hJrow : (Value.slice pv s.1.length qv).ownBlock ≠ some J := fun e => by have := (hrow J e).1; omega
  have hJ1 : J < w1.heap.size := Nat.lt_of_lt_of_le HX0.lt B1.size
  have six3 : Six w3 J (.int .i64 6) (.int .i64 0) (.string { data := #[] }) (.slice pv s.1.length qv) (.slice none 0 0) (.int .i64 0) := by
    have h1 := HX0.but B1 (by omega)
    have hb := k13 J hJ1 hJrow
    have kc : ∀ o, w3.cell? ⟨J, o, none⟩ = w1.cell? ⟨J, o, none⟩ := fun o => World.cell?_of_block (w := w1) hb
    have kf : ∀ o, w3.frozen? ⟨J, o, none⟩ = w1.frozen? ⟨J, o, none⟩ := fun o => World.frozen?_of_block (w := w1) hb
    exact ⟨(kc 0).trans h1.k0, (kc 1).trans h1.k1, (kc 2).trans h1.k2, (kc 3).trans h1.k3, (kc 4).trans h1.k4, (kc 5).trans h1.k5, fun o => (kf o).trans (h1.fz o), Nat.lt_of_lt_of_le h1.lt (Nat.le_trans B13.size HGR.size)⟩
  have hsz3 : w1.heap.size ≤ w3.heap.size := Nat.le_trans B13.size HGR.size
  obtain ⟨f1, f2, f3, f4, f5⟩ := end_facts hg3 hl.2.2.2.2.2.1 six3 HW c0 c1 c2 c3 c4 c5 hwf
  have BW3 : But R w0 w3 := ((HI.but.trans B1).trans (.of R B13)).grown HGR (fun g hg => by have := (hrow g hg).1; omega)
  have BF : But R w0 wf := f5 R w0 BW3 (by omega) (by omega)
  have hPk : ∀ P, P ≠ R → P < base → P ≠ J → wf.cell? ⟨P, 0, none⟩ = w.cell? ⟨P, 0, none⟩ := fun P h1 h2 h3 => by
    have hPw : P < w.heap.size := by omega
    have e1 : wf.heap[P]? = w1.heap[P]? := (f3 P h3 (by omega)).trans (k13 P (Nat.lt_of_lt_of_le hPw B1.size) (fun e => by have := (hrow P e).1; omega))
    have e2 : w1.heap[P]? = w.heap[P]? := B1.block P hPw (by omega)
    exact World.cell?_of_block (w := w) (a := ⟨P, 0, none⟩) (e1.trans e2)
  have hgr : some g3 = (Value.slice pv s.1.length qv).ownBlock ∨ w1.heap.size ≤ g3 := by
    rcases HLC with h | h
    · exact .inl h
    · exact .inr (by rw [h]; exact B13.size)
  refine .inl ⟨(s.1 ++ [x], s.2), j, HS, HF, hj, he, ⟨BF, HI.src0, ?_, ?_, ?_, ⟨_, f1, ?_⟩, HI.nok⟩, ?_⟩
  · have hle : base ≤ wf.heap.size := by rw [f4]; have := B1.size; omega
    exact ⟨hl.1, hl.2.1, hl.2.2.1, hl.2.2.2.1, hl.2.2.2.2.1, hl.2.2.2.2.2.1, hl.2.2.2.2.2.2.1, hl.2.2.2.2.2.2.2.1, hl.2.2.2.2.2.2.2.2.1, hle⟩
  · exact (hPk P2 hl.1 hl.2.1 hl.2.2.2.2.2.2.1).trans HI.p2
  · exact (hPk P3 hl.2.2.1 hl.2.2.2.1 hl.2.2.2.2.2.2.2.1).trans HI.p3
  · have := VRow.snoc (n := n) (w := w) (w1 := w1) (wf := wf) (base := base) (v := .slice pv s.1.length qv) (vs := s.1) (A := fun _ => False) HVS HSS (fun g hg => (hrow g hg).2) hl.2.2.2.2.2.2.2.2.2 B1.size (by rw [f4]; exact hsz3)
      (fun g o h1 h2 => (B1.keep g h2 (by omega)).1 o) (fun g o h1 h2 h3 => World.cell?_of_block (w := w1) ((f3 g (by omega) (fun e => by
        subst e
        rcases hgr with h | h
        · exact h3 h.symm
        · omega)).trans (k13 g h2 h3))) Q4 (fun g h => h.elim) hgr (by simpa using f2)
    simpa using this
  · have hRw : R < w1.heap.size := Q5.lt
    exact Q5.heap ((f3 R (by omega) (by omega)).trans (k13 R hRw (fun e => by have := (hrow R e).1; omega))) (by rw [f4]; exact Nat.lt_of_lt_of_le hRw hsz3)
/-- The same, where the value may be none. -/
theorem item_fin {n : Nat} {l : Bs} {b o c R : Nat} {w0 w w1 W X w3 wf : World} {P2 P3 J base inn i g3 cap3 qv T0 : Nat} {pv : Option Addr} {vf : Nat → Bs → PJ Js} {s : List Js × List Bs} {cs : List Value} {S : Nat → Prop} {c0 c1 c2 c3 c4 c5 : Value} {e : Ending} {okb : Bool}
    (HI : LstI n l b o c R w0 P2 P3 J base inn s w) (B1 : But R w w1) (hT : w1.heap.size = T0)
    (hc : (okb = true ∧ ∃ (x : Js) (j : Nat), stepJ vf false s i (l.drop i) = .ok (s.1 ++ [x], s.2) j (l.drop j) ∧ i < j ∧ j ≤ l.length ∧ JAt n w1 (Mid w.heap.size T0) (.agg #[c0, c1, c2, c3, c4, c5]) x ∧ Rd l.length b o c R w1 j 0 0) ∨
      (okb = false ∧ ∃ k a j : Nat, stepJ vf false s i (l.drop i) = .bad k a ∧ Rd l.length b o c R w1 j (k : Int) (a : Int)))
    (HX0 : Six w J (.int .i64 6) (.int .i64 0) (.string { data := #[] }) (.slice pv s.1.length qv) (.slice none 0 0) (.int .i64 0)) (HO0 : w.ownsRow base 26 6 (.slice pv s.1.length qv) s.1.length cs) (HVS : ValsIn n w S s.1 cs)
    (HSS : ∀ g, S g → base ≤ g ∧ g < w.heap.size ∧ (Value.slice pv s.1.length qv).ownBlock ≠ some g ∧ ¬ (fun _ => False : Nat → Prop) g) (HBT : Below T0 w1 W) (HX : Below W.heap.size W X) (HGR : X.grownBy w3 (Value.slice pv s.1.length qv).ownBlock)
    (HLC : some g3 = (Value.slice pv s.1.length qv).ownBlock ∨ g3 = X.heap.size) (HW : w3.ownsRow base 26 6 (.slice (some ⟨g3, 0, none⟩) (s.1.length + 1) cap3) (s.1.length + 1) (cs ++ zeroJ))
    (hwf : wf = endA w3 J g3 s.1.length (.slice (some ⟨g3, 0, none⟩) (s.1.length + 1) cap3) c0 c1 c2 c3 c4 c5 ∨ wf = endB w3 J g3 s.1.length (.slice (some ⟨g3, 0, none⟩) (s.1.length + 1) cap3) c0 c1 c2 c3 c4 c5) (he : e = .returned (.bool okb)) :
    ItemP (stepJ vf false) (LstI n l b o c R w0 P2 P3 J base inn) (LstB R w0 J 6) l b o c R s i e wf := by
  rcases hc with ⟨rfl, x, j, HS, HF, hj, Q4, Q5⟩ | ⟨rfl, k, a, j, HS, Q5⟩
  · exact item_end HI B1 HS HF hj hT Q4 Q5 HX0 HO0 HVS HSS HBT HX HGR HLC HW hwf he
  · subst hT
    have hl := HI.lo
    have hrow := HO0.lt
    have hg3 := (HW.lt g3 rfl).1
    have B13 : Below w1.heap.size w1 X := below_next HBT HX
    have k13 : ∀ g, g < w1.heap.size → (Value.slice pv s.1.length qv).ownBlock ≠ some g → w3.heap[g]? = w1.heap[g]? := fun g hg hne =>
      (HGR.block g (Nat.lt_of_lt_of_le hg B13.size) (fun e => hne e.symm)).trans (B13.block g hg)
    have hJrow : (Value.slice pv s.1.length qv).ownBlock ≠ some J := fun e => by have := (hrow J e).1; omega
    have hJ1 : J < w1.heap.size := Nat.lt_of_lt_of_le HX0.lt B1.size
    have six3 : Six w3 J (.int .i64 6) (.int .i64 0) (.string { data := #[] }) (.slice pv s.1.length qv) (.slice none 0 0) (.int .i64 0) := by
      have h1 := HX0.but B1 (by omega)
      have hb := k13 J hJ1 hJrow
      have kc : ∀ o, w3.cell? ⟨J, o, none⟩ = w1.cell? ⟨J, o, none⟩ := fun o => World.cell?_of_block (w := w1) hb
      have kf : ∀ o, w3.frozen? ⟨J, o, none⟩ = w1.frozen? ⟨J, o, none⟩ := fun o => World.frozen?_of_block (w := w1) hb
      exact ⟨(kc 0).trans h1.k0, (kc 1).trans h1.k1, (kc 2).trans h1.k2, (kc 3).trans h1.k3, (kc 4).trans h1.k4, (kc 5).trans h1.k5, fun o => (kf o).trans (h1.fz o), Nat.lt_of_lt_of_le h1.lt (Nat.le_trans B13.size HGR.size)⟩
    have hsz3 : w1.heap.size ≤ w3.heap.size := Nat.le_trans B13.size HGR.size
    obtain ⟨f1, f2, f3, f4, f5⟩ := end_facts hg3 hl.2.2.2.2.2.1 six3 HW c0 c1 c2 c3 c4 c5 hwf
    have BW3 : But R w0 w3 := ((HI.but.trans B1).trans (.of R B13)).grown HGR (fun g hg => by have := (hrow g hg).1; omega)
    have hRw : R < w1.heap.size := Q5.lt
    refine .inr ⟨k, a, j, HS, he, ⟨f5 R w0 BW3 (by omega) (by omega), ⟨hl.2.2.2.2.1, hl.2.2.2.2.2.2.2.2.1⟩, _, none, _, _, 0, 0, f1⟩, ?_⟩
    exact Q5.heap ((f3 R (by omega) (by omega)).trans (k13 R hRw (fun e => by have := (hrow R e).1; omega))) (by rw [f4]; exact Nat.lt_of_lt_of_le hRw hsz3)
end Go.Proofs.YtgiihljiekagdaaDoor
