/- A region whose order is drawn, walked once whatever the order: each operation, when it comes up, leaves in its slot what is said of that slot. No program stands in this text. -/
import Derived.Test.YtjoiedomdliadaaDoorKb
import Derived.Orders
namespace Go.Proofs.YtjoiedomdliadaaDoor
open Go.ChangeShapes Go.WideShapes Go.RowKit Go.Sort

theorem count_set : ∀ (l : List Bool) (i : Nat), l[i]? = some false → (l.set i true).count false + 1 = l.count false
  | [], i, h => by simp at h
  | b :: l, 0, h => by simp at h; subst h; simp
  | b :: l, i + 1, h => by
    have := count_set l i (by simpa using h)
    cases b <;> simp at * <;> omega
theorem getD_false {l : Array Bool} {i : Nat} (h : l.getD i true = false) : l.toList[i]? = some false := by
  rw [Array.getD_eq_getD_getElem?] at h
  rw [Array.getElem?_toList]
  cases hh : l[i]? with
  | none => rw [hh] at h; simp at h
  | some b => rw [hh] at h; simp at h; rw [h]
/-- Whatever order is drawn: what is kept by each operation is there at the end. -/
theorem wpAny_inv {P : Program} {ops : Array Oper} {Q : Exit → Act → World → Prop} (I : Array Bool → Act → World → Prop)
    (hstep : ∀ listed a w i, I listed a w → i ∈ Region.ready .any ops listed → wpOp P ops Q i (fun a' w' => I (listed.setIfInBounds i true) a' w') a w)
    (hend : ∀ listed a w, I listed a w → Region.ready .any ops listed = [] → Q .normal a w) :
    ∀ (fuel : Nat) (listed : Array Bool) (a : Act) (w : World), listed.toList.count false ≤ fuel → I listed a w → wpAny P .any ops Q fuel listed a w
  | 0, listed, a, w, hc, hI => by
    have hr : Region.ready .any ops listed = [] := by
      refine List.eq_nil_iff_forall_not_mem.2 fun i hi => ?_
      have := count_set _ i (getD_false (mem_ready.1 hi).1)
      omega
    exact ⟨hr, hend _ _ _ hI hr⟩
  | fuel + 1, listed, a, w, hc, hI => by
    refine ⟨fun hr => hend _ _ _ hI hr, fun i hi => wpOp_mono (fun a' w' h => wpAny_inv I hstep hend fuel _ a' w' ?_ h) (hstep _ _ _ _ hI hi)⟩
    have := count_set _ i (getD_false (mem_ready.1 hi).1)
    rw [Array.toList_setIfInBounds]
    omega
/-- The region's form: operation i writes slot base + i, is not guarded, and waits for earlier ones alone. -/
def okR (base : Nat) : Nat → List Oper → Bool
  | _, [] => true
  | i, o :: l => (o.dst == some (base + i)) && o.guard.isNone && o.after.all (fun e => Nat.blt e.on i) && okR base (i + 1) l
theorem okR_spec (base : Nat) : ∀ (l : List Oper) (k : Nat), okR base k l = true → ∀ i o, l[i]? = some o → o.dst = some (base + (k + i)) ∧ o.guard = none ∧ ∀ e ∈ o.after, e.on < k + i
  | [], k, h, i, o, ho => by simp at ho
  | x :: l, k, h, i, o, ho => by
    simp only [okR, Bool.and_eq_true] at h
    obtain ⟨⟨⟨h1, h2⟩, h3⟩, h4⟩ := h
    cases i with
    | zero =>
      simp at ho; subst ho
      refine ⟨by simpa using h1, by simpa using h2, fun e he => ?_⟩
      have := (Array.all_eq_true_iff_forall_mem.1 h3) e he
      exact Eq.mp Nat.blt_eq this
    | succ i =>
      have := okR_spec base l (k + 1) h4 i o (by simpa using ho)
      rw [show k + 1 + i = k + (i + 1) by omega] at this
      exact this
def AllOps (R : Nat → Oper → Prop) : Nat → List Oper → Prop
  | _, [] => True
  | i, o :: l => R i o ∧ AllOps R (i + 1) l
theorem AllOps.get {R : Nat → Oper → Prop} : ∀ (l : List Oper) (k : Nat), AllOps R k l → ∀ i o, l[i]? = some o → R (k + i) o
  | [], k, h, i, o, ho => by simp at ho
  | x :: l, k, h, i, o, ho => by
    cases i with
    | zero => simp at ho; subst ho; exact h.1
    | succ i =>
      have := AllOps.get l (k + 1) h.2 i o (by simpa using ho)
      rw [show k + 1 + i = k + (i + 1) by omega] at this
      exact this
/-- What one operation is to leave, whenever it comes up. -/
def StepAt (P : Program) (base : Nat) (Sp : Nat → Value → World → Prop) (a0 : Act) (w0 : World) (i : Nat) (o : Oper) : Prop :=
  ∀ (a : Act) (w : World), (∀ s, s < base → a.eval (.tmp s) = a0.eval (.tmp s)) → Below w0.heap.size w0 w →
    (∀ s, (o.after.toList.any fun e => (e.on == s) && Region.binds .any e) = true → Sp (base + s) (a.eval (.tmp (base + s))) w) →
    ∃ v w', (execOp a.eval o).run P w = .ok (.value v) w' ∧ Sp (base + i) v w' ∧ Below w.heap.size w w'
theorem ready_all {ops : Array Oper} {listed : Array Bool} (hs : listed.size = ops.size) (he : ∀ (i : Nat) (o : Oper), ops[i]? = some o → ∀ e ∈ o.after, e.on < i) (hr : Region.ready .any ops listed = []) :
    ∀ i, i < ops.size → listed.getD i false = true := by
  intro i
  induction i using Nat.strongRecOn with
  | ind i ih =>
    intro hi
    have hil : i < listed.size := by omega
    cases hb : listed.getD i false with
    | true => rfl
    | false =>
      exfalso
      have : i ∈ Region.ready .any ops listed := by
        refine mem_ready.2 ⟨?_, ops[i], Array.getElem?_eq_getElem hi, fun e hee _ => ih e.on (he i _ (Array.getElem?_eq_getElem hi) e hee) ?_⟩
        · rw [Array.getD_eq_getD_getElem?, Array.getElem?_eq_getElem hil] at hb ⊢; simpa using hb
        · have := he i _ (Array.getElem?_eq_getElem hi) e hee; omega
      rw [hr] at this; cases this
theorem getD_put (X : Array Value) (j s : Nat) (v : Value) : (X.setIfInBounds j v).getD s undef = if j = s ∧ j < X.size then v else X.getD s undef := by
  rw [Array.getD_eq_getD_getElem?, Array.getD_eq_getD_getElem?, Array.getElem?_setIfInBounds]
  by_cases h : j = s
  · subst h
    by_cases h2 : j < X.size
    · simp [h2]
    · simp [h2]
  · simp [h]
/-- A frame whose slots from base on, n of them, hold what u says. -/
def upd (base top : Nat) (u : Nat → Value) : Nat → List Value → List Value
  | _, [] => []
  | i, v :: l => (if base ≤ i ∧ i < top then u i else v) :: upd base top u (i + 1) l
theorem upd_len (base top : Nat) (u : Nat → Value) : ∀ (l : List Value) (i : Nat), (upd base top u i l).length = l.length
  | [], _ => rfl
  | v :: l, i => by simp [upd, upd_len base top u l (i + 1)]
theorem upd_get (base top : Nat) (u : Nat → Value) : ∀ (l : List Value) (i j : Nat), (upd base top u i l)[j]? = if base ≤ i + j ∧ i + j < top then (l[j]?).map (fun _ => u (i + j)) else l[j]?
  | [], i, j => by simp [upd]
  | v :: l, i, 0 => by simp only [upd, List.getElem?_cons_zero, Nat.add_zero, Option.map_some]; split <;> rfl
  | v :: l, i, j + 1 => by
    simp only [upd, List.getElem?_cons_succ]
    rw [upd_get base top u l (i + 1) j, show i + 1 + j = i + (j + 1) by omega]
theorem region_all {P : Program} {ops : Array Oper} {Q : Exit → Act → World → Prop} {id : Nat} {a0 : Act} {w0 : World} (base top : Nat) (Sp : Nat → Value → World → Prop)
    (hm : P.follows .mixedOrders = true) (hok : okR base 0 ops.toList = true) (htop : base + ops.size = top) (hsz : top ≤ a0.tmps.size)
    (hmono : ∀ s v w w', Sp s v w → Below w.heap.size w w' → Sp s v w')
    (hst : AllOps (StepAt P base Sp a0 w0) 0 ops.toList)
    (hend : ∀ (u : Nat → Value) (w : World), (∀ s, base ≤ s → s < top → Sp s (u s) w) → Below w0.heap.size w0 w →
      Q .normal ⟨(upd base top u 0 a0.tmps.toList).toArray, a0.defers⟩ w) :
    (Code.region id ops true).wp P Q a0 w0 := by
  have hform := okR_spec base _ 0 hok
  have hget := AllOps.get _ 0 hst
  simp only [Nat.zero_add, Array.getElem?_toList] at hform hget
  refine wp_region_any hm (wpAny_inv (fun listed a w => a.defers = a0.defers ∧ a.tmps.size = a0.tmps.size ∧ listed.size = ops.size ∧ (∀ s, ¬ (base ≤ s ∧ s < base + ops.size) → a.tmps.getD s undef = a0.tmps.getD s undef) ∧ Below w0.heap.size w0 w ∧ ∀ i, listed.getD i false = true → Sp (base + i) (a.tmps.getD (base + i) undef) w) ?_ ?_ _ _ _ _ ?_ ?_)
  · rintro listed a w i ⟨h1, h2, h3, h4, h5, h6⟩ hi
    obtain ⟨hun, o, ho, hall⟩ := mem_ready.1 hi
    obtain ⟨hd, hg, _⟩ := hform i o ho
    have hlt : i < ops.size := by
      rcases Nat.lt_or_ge i ops.size with h | h
      · exact h
      · rw [Array.getElem?_eq_none h] at ho; cases ho
    obtain ⟨v, w', hrun, hsp, hb⟩ := hget i o ho a w (fun s hs => h4 s (by omega)) h5 (fun s hs => by
      obtain ⟨e, he, hee⟩ := List.any_eq_true.1 hs
      rw [Array.mem_toList_iff] at he
      rw [Bool.and_eq_true] at hee
      obtain ⟨e1, e2⟩ := hee
      obtain rfl : e.on = s := by simpa using e1
      exact h6 _ (hall e he e2))
    unfold wpOp
    rw [ho]
    simp only [Region.wanted, hg, if_true]
    left
    unfold Oper.wp
    rw [hrun]
    show _ ∧ _
    rw [hd]
    refine ⟨h1, ?_, ?_, ?_, below_next h5 hb, ?_⟩
    · show (a.tmps.setIfInBounds (base + i) v).size = _
      rw [Array.size_setIfInBounds]; exact h2
    · rw [Array.size_setIfInBounds]; exact h3
    · intro s hs
      show (a.tmps.setIfInBounds (base + i) v).getD s undef = _
      rw [getD_put, if_neg (by intro h; omega)]
      exact h4 s hs
    · intro j hj
      show Sp _ ((a.tmps.setIfInBounds (base + i) v).getD (base + j) undef) _
      rw [getD_put]
      by_cases hij : i = j
      · subst hij
        rw [if_pos ⟨rfl, by omega⟩]; exact hsp
      · rw [if_neg (by intro h; omega)]
        refine hmono _ _ _ _ (h6 j ?_) hb
        rw [Array.getD_eq_getD_getElem?, Array.getElem?_setIfInBounds, if_neg hij] at hj
        rw [Array.getD_eq_getD_getElem?]; exact hj
  · rintro listed a w ⟨h1, h2, h3, h4, h5, h6⟩ hr
    have hall := ready_all h3 (fun i o ho => (hform i o ho).2.2) hr
    have hq := hend (fun s => a.tmps.getD s undef) w (fun s hs hs' => by
      have := h6 (s - base) (hall _ (by omega))
      rw [show base + (s - base) = s by omega] at this
      exact this) h5
    have e : a = ⟨(upd base top (fun s => a.tmps.getD s undef) 0 a0.tmps.toList).toArray, a0.defers⟩ := by
      obtain ⟨T, D⟩ := a
      simp only at h1 h2 h4 ⊢
      subst h1
      congr 1
      refine Array.ext_getElem? fun i => ?_
      have ht : ∀ m : List Value, m.toArray[i]? = m[i]? := fun m => by simp
      refine Eq.trans ?_ (ht _).symm
      rw [upd_get, Nat.zero_add, Array.getElem?_toList]
      by_cases hi : i < T.size
      · have hi0 : i < a0.tmps.size := by omega
        rw [Array.getElem?_eq_getElem hi, Array.getElem?_eq_getElem hi0]
        split
        · simp
        · rename_i hn
          have := h4 i (by rw [htop]; exact hn)
          simp only [Array.getD, hi, hi0, dite_true] at this
          simpa using this
      · rw [Array.getElem?_eq_none (by omega), Array.getElem?_eq_none (by omega)]
        split <;> rfl
    rw [e]
    exact hq
  · simp
  · refine ⟨rfl, rfl, by simp, fun _ _ => rfl, ?_, ?_⟩
    · exact Below.drew (Below.refl _ _)
    · intro i hi
      rw [Array.getD_eq_getD_getElem?, Array.getElem?_replicate] at hi
      split at hi <;> simp at hi
/-- What is said of a slot. -/
inductive SpK where
  | eqv (v : Value)
  | one (c : UInt8)
  | row (n : Nat) (vs : List Value)
def SpK.holds : SpK → Value → World → Prop
  | .eqv x, v, _ => v = x
  | .one c, v, w => ∃ G, v = .slice (some ⟨G, 0, none⟩) 1 1 ∧ G < w.heap.size ∧ w.cell? ⟨G, 0, none⟩ = some (.int .u8 c.toNat)
  | .row n vs, v, w => ∃ H, v = .slice (some ⟨H, 0, none⟩) n n ∧ H < w.heap.size ∧ ∀ j x, vs[j]? = some x → w.cell? ⟨H, j, none⟩ = some x
theorem SpK.mono {k : SpK} {v : Value} {w w' : World} (h : k.holds v w) (hb : Below w.heap.size w w') : k.holds v w' := by
  cases k with
  | eqv x => exact h
  | one c => obtain ⟨G, h1, h2, h3⟩ := h; exact ⟨G, h1, (keep hb G h2).2, ((keep hb G h2).1 0).trans h3⟩
  | row n vs => obtain ⟨H, h1, h2, h3⟩ := h; exact ⟨H, h1, (keep hb H h2).2, fun j x hj => ((keep hb H h2).1 j).trans (h3 j x hj)⟩
def spOf (base : Nat) (l : List SpK) (s : Nat) : Value → World → Prop := (l.getD (s - base) (.eqv undef)).holds
theorem spOf_mono (base : Nat) (l : List SpK) (s : Nat) (v : Value) (w w' : World) (h : spOf base l s v w) (hb : Below w.heap.size w w') : spOf base l s v w' := SpK.mono h hb
theorem run_v {P : Program} {s : Sem Value} {w w' : World} {v : Value} (h : s.run P w = .ok v w') : (do pure (Next.value (← s)) : Sem Next).run P w = .ok (.value v) w' := by
  simp [go_sem, h]
end Go.Proofs.YtjoiedomdliadaaDoor
