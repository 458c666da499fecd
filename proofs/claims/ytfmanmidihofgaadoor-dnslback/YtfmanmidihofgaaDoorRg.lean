/- A region whose order is drawn, walked once whatever the order, with guards and with calls: each operation, when it comes up, leaves in its slot what is said of that slot. No program stands in this text. -/
import Derived.Test.YtfmanmidihofgaaDoorKb
import Derived.Orders
namespace Go.Proofs.YtfmanmidihofgaaDoor
open Go.ChangeShapes Go.WideShapes Go.RowKit Go.Sort

theorem rg_count : ∀ (l : List Bool) (i : Nat), l[i]? = some false → (l.set i true).count false + 1 = l.count false
  | [], i, h => by simp at h
  | b :: l, 0, h => by simp at h; subst h; simp
  | b :: l, i + 1, h => by
    have := rg_count l i (by simpa using h)
    cases b <;> simp at * <;> omega
theorem rg_false {l : Array Bool} {i : Nat} (h : l.getD i true = false) : l.toList[i]? = some false := by
  rw [Array.getD_eq_getD_getElem?] at h
  rw [Array.getElem?_toList]
  cases hh : l[i]? with
  | none => rw [hh] at h; simp at h
  | some b => rw [hh] at h; simp at h; rw [h]
/-- Whatever order is drawn: what is kept by each operation is there at the end. -/
theorem rg_inv {P : Program} {ops : Array Oper} {Q : Exit → Act → World → Prop} (I : Array Bool → Act → World → Prop)
    (hstep : ∀ listed a w i, I listed a w → i ∈ Region.ready .any ops listed → wpOp P ops Q i (fun a' w' => I (listed.setIfInBounds i true) a' w') a w)
    (hend : ∀ listed a w, I listed a w → Region.ready .any ops listed = [] → Q .normal a w) :
    ∀ (fuel : Nat) (listed : Array Bool) (a : Act) (w : World), listed.toList.count false ≤ fuel → I listed a w → wpAny P .any ops Q fuel listed a w
  | 0, listed, a, w, hc, hI => by
    have hr : Region.ready .any ops listed = [] := by
      refine List.eq_nil_iff_forall_not_mem.2 fun i hi => ?_
      have := rg_count _ i (rg_false (mem_ready.1 hi).1)
      omega
    exact ⟨hr, hend _ _ _ hI hr⟩
  | fuel + 1, listed, a, w, hc, hI => by
    refine ⟨fun hr => hend _ _ _ hI hr, fun i hi => wpOp_mono (fun a' w' h => rg_inv I hstep hend fuel _ a' w' ?_ h) (hstep _ _ _ _ hI hi)⟩
    have := rg_count _ i (rg_false (mem_ready.1 hi).1)
    rw [Array.toList_setIfInBounds]
    omega
/-- What is said of a slot: it stays true while memory only grows. -/
structure SpG where
  holds : Value → World → Prop
  mono : ∀ v w w', holds v w → Below w.heap.size w w' → holds v w'
def SpG.eqv (x : Value) : SpG := ⟨fun v _ => v = x, fun _ _ _ h _ => h⟩
/-- Each operation writes its own slot, and waits for earlier ones alone. -/
def okD (D : List Nat) : Nat → List Oper → Bool
  | _, [] => true
  | i, o :: l => (o.dst == some (D.getD i 0)) && o.after.all (fun e => Nat.blt e.on i) && okD D (i + 1) l
theorem okD_spec (D : List Nat) : ∀ (l : List Oper) (k : Nat), okD D k l = true → ∀ i o, l[i]? = some o → o.dst = some (D.getD (k + i) 0) ∧ ∀ e ∈ o.after, e.on < k + i
  | [], k, h, i, o, ho => by simp at ho
  | x :: l, k, h, i, o, ho => by
    simp only [okD, Bool.and_eq_true] at h
    obtain ⟨⟨h1, h3⟩, h4⟩ := h
    cases i with
    | zero =>
      simp at ho; subst ho
      refine ⟨by simpa using h1, fun e he => ?_⟩
      have := (Array.all_eq_true_iff_forall_mem.1 h3) e he
      exact Eq.mp Nat.blt_eq this
    | succ i =>
      have := okD_spec D l (k + 1) h4 i o (by simpa using ho)
      rw [show k + 1 + i = k + (i + 1) by omega] at this
      exact this
def EachOp (R : Nat → Oper → Prop) : Nat → List Oper → Prop
  | _, [] => True
  | i, o :: l => R i o ∧ EachOp R (i + 1) l
theorem EachOp.get {R : Nat → Oper → Prop} : ∀ (l : List Oper) (k : Nat), EachOp R k l → ∀ i o, l[i]? = some o → R (k + i) o
  | [], k, h, i, o, ho => by simp at ho
  | x :: l, k, h, i, o, ho => by
    cases i with
    | zero => simp at ho; subst ho; exact h.1
    | succ i =>
      have := EachOp.get l (k + 1) h.2 i o (by simpa using ho)
      rw [show k + 1 + i = k + (i + 1) by omega] at this
      exact this
def spG (L : List SpG) (i : Nat) : Value → World → Prop := (L.getD i (.eqv undef)).holds
/-- What one operation is to leave, whenever it comes up. -/
def StepG (P : Program) (ops : Array Oper) (Q : Exit → Act → World → Prop) (D : List Nat) (L : List SpG) (a0 : Act) (w0 : World) (i : Nat) (o : Oper) : Prop :=
  ∀ (a : Act) (w : World), (∀ s, s ∉ D → a.eval (.tmp s) = a0.eval (.tmp s)) → Below w0.heap.size w0 w →
    (∀ j, (o.after.toList.any fun e => (e.on == j) && Region.binds .any e) = true → spG L j (a.eval (.tmp (D.getD j 0))) w) →
    (Region.wanted o (yielded ops a.tmps) = true ∧ o.wp P a w (fun a' w' => ∃ v, a' = a.put o.dst v ∧ spG L i v w' ∧ Below w.heap.size w w') Q) ∨ (Region.wanted o (yielded ops a.tmps) = false ∧ spG L i undef w)
theorem rg_ready {ops : Array Oper} {listed : Array Bool} (hs : listed.size = ops.size) (he : ∀ (i : Nat) (o : Oper), ops[i]? = some o → ∀ e ∈ o.after, e.on < i) (hr : Region.ready .any ops listed = []) :
    ∀ i, i < ops.size → listed.getD i false = true := by
  intro i
  induction i using Nat.strongRecOn with
  | ind i ih =>
    intro hi
    have hil : i < listed.size := by omega
    cases hb : listed.getD i false with
    | true => rfl
    | false =>
      exfalso
      have : i ∈ Region.ready .any ops listed := by
        refine mem_ready.2 ⟨?_, ops[i], Array.getElem?_eq_getElem hi, fun e hee _ => ih e.on (he i _ (Array.getElem?_eq_getElem hi) e hee) ?_⟩
        · rw [Array.getD_eq_getD_getElem?, Array.getElem?_eq_getElem hil] at hb ⊢; simpa using hb
        · have := he i _ (Array.getElem?_eq_getElem hi) e hee; omega
      rw [hr] at this; cases this
theorem rg_put (X : Array Value) (j s : Nat) (v : Value) : (X.setIfInBounds j v).getD s undef = if j = s ∧ j < X.size then v else X.getD s undef := by
  rw [Array.getD_eq_getD_getElem?, Array.getD_eq_getD_getElem?, Array.getElem?_setIfInBounds]
  by_cases h : j = s
  · subst h
    by_cases h2 : j < X.size
    · simp [h2]
    · simp [h2]
  · simp [h]
theorem rg_eval (a : Act) (s : Nat) : a.eval (.tmp s) = a.tmps.getD s undef := by
  rw [Array.getD_eq_getD_getElem?]; simp [Act.eval]
theorem rg_tmp {a : Act} {s : Nat} {v : Value} (h : a.eval (.tmp s) = v) : a.tmps[s]?.getD undef = v := by
  rw [rg_eval, Array.getD_eq_getD_getElem?] at h; exact h
theorem region_go {P : Program} {ops : Array Oper} {Q : Exit → Act → World → Prop} {id : Nat} {a0 : Act} {w0 : World} (D : List Nat) (L : List SpG)
    (hm : P.follows .mixedOrders = true) (hok : okD D 0 ops.toList = true) (hlen : D.length = ops.size) (hnd : D.Nodup) (hsz : ∀ d ∈ D, d < a0.tmps.size)
    (hst : EachOp (StepG P ops Q D L a0 w0) 0 ops.toList)
    (hend : ∀ (a : Act) (w : World), a.defers = a0.defers → a.tmps.size = a0.tmps.size → (∀ s, s ∉ D → a.tmps.getD s undef = a0.tmps.getD s undef) → (∀ i, i < ops.size → spG L i (a.tmps.getD (D.getD i 0) undef) w) → Below w0.heap.size w0 w → Q .normal a w) :
    (Code.region id ops true).wp P Q a0 w0 := by
  have hform := okD_spec D _ 0 hok
  have hget := EachOp.get _ 0 hst
  simp only [Nat.zero_add, Array.getElem?_toList] at hform hget
  have hmono : ∀ i v w w', spG L i v w → Below w.heap.size w w' → spG L i v w' := fun i v w w' => (L.getD i (.eqv undef)).mono v w w'
  have hDm : ∀ i, i < ops.size → D.getD i 0 ∈ D := fun i hi => by
    rw [List.getD_eq_getElem?_getD, List.getElem?_eq_getElem (by omega)]; exact List.getElem_mem _
  have hDi : ∀ i j, i < ops.size → j < ops.size → D.getD i 0 = D.getD j 0 → i = j := fun i j hi hj h => by
    rw [List.getD_eq_getElem?_getD, List.getD_eq_getElem?_getD, List.getElem?_eq_getElem (by omega), List.getElem?_eq_getElem (by omega)] at h
    simp only [Option.getD_some] at h
    have hp := List.pairwise_iff_getElem.1 hnd
    rcases Nat.lt_trichotomy i j with hlt | he | hgt
    · exact absurd h (hp i j (by omega) (by omega) hlt)
    · exact he
    · exact absurd h.symm (hp j i (by omega) (by omega) hgt)
  refine wp_region_any hm (rg_inv (fun listed a w => a.defers = a0.defers ∧ a.tmps.size = a0.tmps.size ∧ listed.size = ops.size ∧ (∀ s, s ∉ D → a.tmps.getD s undef = a0.tmps.getD s undef) ∧ Below w0.heap.size w0 w ∧ ∀ j, listed.getD j false = true → spG L j (a.tmps.getD (D.getD j 0) undef) w) ?_ ?_ _ _ _ _ ?_ ?_)
  · rintro listed a w i ⟨h1, h2, h3, h4, h5, h6⟩ hi
    obtain ⟨hun, o, ho, hall⟩ := mem_ready.1 hi
    obtain ⟨hd, _⟩ := hform i o ho
    have hlt : i < ops.size := by
      rcases Nat.lt_or_ge i ops.size with h | h
      · exact h
      · rw [Array.getElem?_eq_none h] at ho; cases ho
    have hstep := hget i o ho a w (fun s hs => by rw [rg_eval, rg_eval]; exact h4 s hs) h5 (fun s hs => by
      obtain ⟨e, he, hee⟩ := List.any_eq_true.1 hs
      rw [Array.mem_toList_iff] at he
      rw [Bool.and_eq_true] at hee
      obtain ⟨e1, e2⟩ := hee
      obtain rfl : e.on = s := by simpa using e1
      rw [rg_eval]
      exact h6 _ (hall e he e2))
    have hput : ∀ v w', spG L i v w' → Below w.heap.size w w' → (a.put o.dst v).defers = a0.defers ∧ (a.put o.dst v).tmps.size = a0.tmps.size ∧ (listed.setIfInBounds i true).size = ops.size ∧ (∀ s, s ∉ D → (a.put o.dst v).tmps.getD s undef = a0.tmps.getD s undef) ∧ Below w0.heap.size w0 w' ∧ ∀ j, (listed.setIfInBounds i true).getD j false = true → spG L j ((a.put o.dst v).tmps.getD (D.getD j 0) undef) w' := by
      intro v w' hsp hb
      rw [hd]
      refine ⟨h1, ?_, ?_, ?_, below_next h5 hb, ?_⟩
      · show (a.tmps.setIfInBounds (D.getD i 0) v).size = _
        rw [Array.size_setIfInBounds]; exact h2
      · rw [Array.size_setIfInBounds]; exact h3
      · intro s hs
        show (a.tmps.setIfInBounds (D.getD i 0) v).getD s undef = _
        rw [rg_put, if_neg (by intro h; exact hs (h.1 ▸ hDm i hlt))]
        exact h4 s hs
      · intro j hj
        show spG L j ((a.tmps.setIfInBounds (D.getD i 0) v).getD (D.getD j 0) undef) w'
        rw [rg_put]
        by_cases hij : i = j
        · subst hij
          rw [if_pos ⟨rfl, by rw [h2]; exact hsz _ (hDm i hlt)⟩]; exact hsp
        · have hjl : j < ops.size := by
            rw [Array.getD_eq_getD_getElem?, Array.getElem?_setIfInBounds, if_neg hij] at hj
            rcases Nat.lt_or_ge j listed.size with h | h
            · omega
            · rw [Array.getElem?_eq_none h] at hj; simp at hj
          rw [if_neg (by intro h; exact hij (hDi i j hlt hjl h.1))]
          refine hmono _ _ _ _ (h6 j ?_) hb
          rw [Array.getD_eq_getD_getElem?, Array.getElem?_setIfInBounds, if_neg hij] at hj
          rw [Array.getD_eq_getD_getElem?]; exact hj
    unfold wpOp
    rw [ho]
    rcases hstep with ⟨hw, hwp⟩ | ⟨hw, hsp⟩
    · simp only [hw, if_true]
      left
      refine Oper.wp_mono ?_ hwp
      rintro a' w' ⟨v, rfl, hsp, hb⟩
      exact hput v w' hsp hb
    · simp only [hw]
      exact hput undef w hsp (Below.refl _ _)
  · rintro listed a w ⟨h1, h2, h3, h4, h5, h6⟩ hr
    have hall := rg_ready h3 (fun i o ho => (hform i o ho).2) hr
    exact hend a w h1 h2 h4 (fun i hi => h6 i (hall i hi)) h5
  · simp
  · refine ⟨rfl, rfl, by simp, fun _ _ => rfl, ?_, ?_⟩
    · exact Below.drew (Below.refl _ _)
    · intro i hi
      rw [Array.getD_eq_getD_getElem?, Array.getElem?_replicate] at hi
      split at hi <;> simp at hi
theorem rg_free {o : Oper} (h : o.guard = none) (y : Nat → Option Bool) : Region.wanted o y = true := by
  unfold Region.wanted; rw [h]
theorem rg_on {ops : Array Oper} {o : Oper} {a : Act} {g d : Nat} {b : Bool} (h : o.guard = some (g, b)) (hd : (ops[g]?).bind (·.dst) = some d) (hv : a.eval (.tmp d) = .bool b) : Region.wanted o (yielded ops a.tmps) = true := by
  have e : a.tmps[d]? = some (.bool b) := by
    have : a.tmps[d]?.getD undef = .bool b := by simpa [Act.eval] using hv
    cases hx : a.tmps[d]? with
    | none => rw [hx] at this; cases this
    | some v => rw [hx] at this; simp at this; rw [this]
  unfold Region.wanted; rw [h]
  simp only [yielded, hd, Option.bind_some, e]
  simp
theorem rg_off {ops : Array Oper} {o : Oper} {a : Act} {g d : Nat} {b : Bool} (h : o.guard = some (g, b)) (hd : (ops[g]?).bind (·.dst) = some d) (hv : a.eval (.tmp d) = .bool (!b)) : Region.wanted o (yielded ops a.tmps) = false := by
  have e : a.tmps[d]? = some (.bool (!b)) := by
    have : a.tmps[d]?.getD undef = .bool (!b) := by simpa [Act.eval] using hv
    cases hx : a.tmps[d]? with
    | none => rw [hx] at this; cases this
    | some v => rw [hx] at this; simp at this; rw [this]
  unfold Region.wanted; rw [h]
  simp only [yielded, hd, Option.bind_some, e]
  cases b <;> simp
section
variable {P : Program} {ops : Array Oper} {Q : Exit → Act → World → Prop} {D : List Nat} {L : List SpG} {a0 : Act} {w0 : World} {i : Nat} {o : Oper}
/-- An operation that yields a value. -/
theorem stepG_run (h : ∀ (a : Act) (w : World), (∀ s, s ∉ D → a.eval (.tmp s) = a0.eval (.tmp s)) → Below w0.heap.size w0 w →
    (∀ j, (o.after.toList.any fun e => (e.on == j) && Region.binds .any e) = true → spG L j (a.eval (.tmp (D.getD j 0))) w) →
    Region.wanted o (yielded ops a.tmps) = true ∧ ∃ v w', (execOp a.eval o).run P w = .ok (.value v) w' ∧ spG L i v w' ∧ Below w.heap.size w w') : StepG P ops Q D L a0 w0 i o := by
  intro a w h1 h2 h3
  obtain ⟨hw, v, w', hr, hs, hb⟩ := h a w h1 h2 h3
  refine Or.inl ⟨hw, ?_⟩
  unfold Oper.wp
  rw [hr]
  exact ⟨v, rfl, hs, hb⟩
/-- An operation that only reads: its value is said. -/
theorem stepG_val {x : Value} (hL : (L.getD i (.eqv undef)) = .eqv x) (h : ∀ (a : Act) (w : World), (∀ s, s ∉ D → a.eval (.tmp s) = a0.eval (.tmp s)) → Below w0.heap.size w0 w →
    (∀ j, (o.after.toList.any fun e => (e.on == j) && Region.binds .any e) = true → spG L j (a.eval (.tmp (D.getD j 0))) w) →
    Region.wanted o (yielded ops a.tmps) = true ∧ (execOp a.eval o).run P w = .ok (.value x) w) : StepG P ops Q D L a0 w0 i o :=
  stepG_run fun a w h1 h2 h3 => ⟨(h a w h1 h2 h3).1, x, w, (h a w h1 h2 h3).2, by unfold spG; rw [hL]; rfl, Below.refl _ _⟩
/-- An operation that calls. -/
theorem stepG_call (h : ∀ (a : Act) (w : World), (∀ s, s ∉ D → a.eval (.tmp s) = a0.eval (.tmp s)) → Below w0.heap.size w0 w →
    (∀ j, (o.after.toList.any fun e => (e.on == j) && Region.binds .any e) = true → spG L j (a.eval (.tmp (D.getD j 0))) w) →
    Region.wanted o (yielded ops a.tmps) = true ∧ ∃ f args, (execOp a.eval o).run P w = .ok (.enter f args) w ∧ Calls P f args w fun e w' => ∃ v, e = .returned v ∧ spG L i v w' ∧ Below w.heap.size w w') : StepG P ops Q D L a0 w0 i o := by
  intro a w h1 h2 h3
  obtain ⟨hw, f, args, hr, hc⟩ := h a w h1 h2 h3
  refine Or.inl ⟨hw, ?_⟩
  unfold Oper.wp
  rw [hr, Oper.upon_enter]
  refine hc.mono ?_
  rintro e w' ⟨v, rfl, hs, hb⟩
  exact ⟨v, rfl, hs, hb⟩
/-- An operation that the guard leaves out. -/
theorem stepG_off (h : ∀ (a : Act) (w : World), (∀ j, (o.after.toList.any fun e => (e.on == j) && Region.binds .any e) = true → spG L j (a.eval (.tmp (D.getD j 0))) w) →
    Region.wanted o (yielded ops a.tmps) = false) (hL : (L.getD i (.eqv undef)) = .eqv undef) : StepG P ops Q D L a0 w0 i o := by
  intro a w _ _ h3
  exact Or.inr ⟨h a w h3, by unfold spG; rw [hL]; rfl⟩
end
end Go.Proofs.YtfmanmidihofgaaDoor
