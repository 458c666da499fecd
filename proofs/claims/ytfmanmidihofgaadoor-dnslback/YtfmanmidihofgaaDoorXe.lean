/- dnsl.partsOf: the parts of a row, or where one of them is wrong. -/
import Derived.Test.YtfmanmidihofgaaDoorXc
import Derived.Test.YtfmanmidihofgaaDoorXd
import Derived.Test.YtfmanmidihofgaaDoorTd
import Derived.Shelf.RegionOpen
namespace Go.Proofs.YtfmanmidihofgaaDoor
open Go.ChangeShapes Go.WideShapes Go.RowKit Go.Sort Go.Shelf
attribute [local go_sem] Oper.semAt_some

theorem seven (w : World) (o0 o1 o2 o3 o4 o5 o6 : Obj) : ∃ V, V = ((((((w.alloc o0).alloc o1).alloc o2).alloc o3).alloc o4).alloc o5).alloc o6 ∧ V.heap[w.heap.size]? = some o0 ∧ V.heap[w.heap.size + 1]? = some o1 ∧ V.heap[w.heap.size + 2]? = some o2 ∧ V.heap[w.heap.size + 3]? = some o3 ∧ V.heap[w.heap.size + 4]? = some o4 ∧ V.heap[w.heap.size + 5]? = some o5 ∧ V.heap[w.heap.size + 6]? = some o6 := by
  refine ⟨_, rfl, ?_⟩
  have e : (((((((w.alloc o0).alloc o1).alloc o2).alloc o3).alloc o4).alloc o5).alloc o6).heap = ((((((w.heap.push o0).push o1).push o2).push o3).push o4).push o5).push o6 := rfl
  rw [e]
  refine ⟨?_, ?_, ?_, ?_, ?_, ?_, ?_⟩ <;> simp only [Array.getElem?_push, Array.size_push]
  all_goals repeat rw [if_neg (by omega)]
  all_goals rw [if_pos trivial]
theorem grownBy_setCell2 (W : World) (b o : Nat) (v : Value) : W.grownBy (W.setCell ⟨b, o, none⟩ v) (some b) :=
  ⟨rfl, rfl, rfl, (KeepsOthers.setCell W _ v).size, fun k _ hk => Below.heap_setCell _ _ _ k (fun e => hk (by rw [e]))⟩
/-- What parts are handed back. -/
def PartsE (w : World) (r : List Tk ⊕ (Nat × Nat)) (e : Ending) (w' : World) : Prop :=
  Below w.heap.size w w' ∧ match r with
    | .inl ts => ∃ p c, e = .returned (.tuple #[.slice p ts.length c, .agg #[.int .i64 0, .int .i64 0]]) ∧ TokK w' p ts ∧ ∀ g, p = some ⟨g, 0, none⟩ → w.heap.size ≤ g ∧ g < w'.heap.size
    | .inr (k, x) => e = .returned (.tuple #[.slice none 0 0, .agg #[.int .i64 (k : Int), .int .i64 (x : Int)]])
/-- The function's own variables. -/
structure FrP (z : Nat) (W : World) (t : Int) (v : Value) : Prop where
  b0 : Boxed W z 3 (.int .i64 t)
  b1 : Boxed W (z + 1) 30 (.slice none 0 0)
  b2 : W.heap[z + 2]? = some (.cells #[.int .i64 0, .int .i64 0] 26 (0, 0))
  b3 : Boxed W (z + 3) 30 v
theorem FrP.same {z : Nat} {W V : World} {t : Int} {v : Value} (h : FrP z W t v) (hk : ∀ j, z ≤ j → j < z + 4 → V.heap[j]? = W.heap[j]?) : FrP z V t v :=
  ⟨(hk z (by omega) (by omega)).trans h.b0, (hk (z + 1) (by omega) (by omega)).trans h.b1, (hk (z + 2) (by omega) (by omega)).trans h.b2, (hk (z + 3) (by omega) (by omega)).trans h.b3⟩
theorem FrP.grown {z : Nat} {W V : World} {row : Option Nat} {t : Int} {v : Value} (h : FrP z W t v) (hg : W.grownBy V row) (hr : ∀ r, row = some r → z + 4 ≤ r) : FrP z V t v :=
  h.same fun j h1 h2 => hg.block j (by have := h.b3.lt; omega) (fun e => by have := hr j e.symm; omega)
theorem FrP.setAt {z : Nat} {W : World} {t u : Int} {v : Value} (h : FrP z W t v) : FrP z (W.setCell ⟨z, 0, none⟩ (.int .i64 u)) u v :=
  ⟨h.b0.set _, h.b1.kept (grownBy_setCell' W z _) (by simp), (Below.heap_setCell W _ _ (z + 2) (by simp)).trans h.b2, h.b3.kept (grownBy_setCell' W z _) (by simp)⟩
theorem FrP.setV {z : Nat} {W : World} {t : Int} {u v : Value} (h : FrP z W t v) : FrP z (W.setCell ⟨z + 3, 0, none⟩ u) t u :=
  ⟨h.b0.kept (grownBy_setCell' W (z + 3) _) (by simp), h.b1.kept (grownBy_setCell' W (z + 3) _) (by simp), (Below.heap_setCell W _ _ (z + 2) (by simp)).trans h.b2, h.b3.set _⟩
theorem FrP.errs {z : Nat} {W : World} {t : Int} {v : Value} (h : FrP z W t v) : W.cell? ⟨z + 2, 0, none⟩ = some (.int .i64 0) ∧ W.cell? ⟨z + 2, 1, none⟩ = some (.int .i64 0) ∧ ∀ o, W.frozen? ⟨z + 2, o, none⟩ = false := by
  have := h.b2
  refine ⟨?_, ?_, fun o => ?_⟩ <;> simp [World.cell?, World.frozen?, this]
/-- Between two rounds. -/
def IP (w : World) (D a : Nat) (L : List Bs) (k : Nat) (W : World) : Prop :=
  (∃ p c, FrP w.heap.size W (atK a L k : Int) (.slice p k c) ∧ W.ownsRow D 36 3 (.slice p k c) k ((toksK a L k).flatMap cellsK)) ∧ goodK L k ∧ k ≤ L.length ∧ Below w.heap.size w W
/-- Where a round has left. -/
def IxP (w : World) (a : Nat) (L : List Bs) (_ : Nat) (W : World) : Prop :=
  ∃ q x : Nat, partsL a L = .inr (q, x) ∧ Boxed W (w.heap.size + 1) 30 (.slice none 0 0) ∧ W.heap[w.heap.size + 2]? = some (.cells #[.int .i64 (q : Int), .int .i64 (x : Int)] 26 (0, 0)) ∧ Below w.heap.size w W
theorem ip_abides (w : World) (D a : Nat) (L : List Bs) (hD : w.heap.size + 7 ≤ D) : AbidesB (w.heap.size + 4) D (IP w D a L) := by
  rintro k A C row ⟨⟨p, c, hf, ho⟩, hg, hk, hb⟩ hgr hr
  refine ⟨⟨p, c, hf.grown hgr (fun r e => by rcases hr r e with h | h <;> omega), ho.kept hgr ?_⟩, hg, hk, hb.grown hgr (by have := hb.size; have := hf.b3.lt; omega) (fun r e => by rcases hr r e with h | h <;> omega)⟩
  rcases ho.2 with ⟨h, _⟩ | ⟨g, cap, cur, h, hDg, hgb, _⟩
  · exact Or.inl (by rw [h]; rfl)
  · refine Or.inr fun e => ?_
    rw [h] at e
    rcases hr g (by simpa [Value.ownBlock] using e.symm) with h1 | ⟨_, o, h2, h3⟩
    · omega
    · rw [hgb] at h2; cases h2; cases h3
theorem ixp_abides (w : World) (D a : Nat) (L : List Bs) (hD : w.heap.size + 7 ≤ D) : AbidesB (w.heap.size + 4) D (IxP w a L) := by
  rintro k A C row ⟨q, x, h1, h2, h3, hb⟩ hgr hr
  have hlt : w.heap.size + 2 < A.heap.size := (Array.getElem?_eq_some_iff.1 h3).1
  exact ⟨q, x, h1, h2.kept hgr (fun e => by rcases hr _ e.symm with h | h <;> omega), (hgr.block _ hlt (fun e => by rcases hr _ e.symm with h | h <;> omega)).trans h3, hb.grown hgr (by have := hb.size; omega) (fun r e => by rcases hr r e with h | h <;> omega)⟩
theorem heap_set {V : World} {B : Nat} {t : TypeId} {cs : Array Value} (o : Nat) (a : Value) (h : V.heap[B]? = some (.cells cs t (0, 0))) : (V.setCell ⟨B, o, none⟩ a).heap[B]? = some (.cells (cs.setIfInBounds o a) t (0, 0)) := by
  obtain ⟨hlt, hk⟩ := Array.getElem?_eq_some_iff.1 h
  show (V.heap.modify B _)[B]? = _
  rw [Array.getElem?_eq_getElem (by rw [Array.size_modify]; exact hlt), Array.getElem_modify_self, hk]
  rfl
theorem set_two {V : World} {B : Nat} {t : TypeId} {u v : Value} (a b : Value) (h : V.heap[B]? = some (.cells #[u, v] t (0, 0))) : ((V.setCell ⟨B, 0, none⟩ a).setCell ⟨B, 1, none⟩ b).heap[B]? = some (.cells #[a, b] t (0, 0)) := by
  exact heap_set 1 b (heap_set 0 a h)
theorem two_cells {V : World} {B : Nat} {t : TypeId} {u v : Value} (h : V.heap[B]? = some (.cells #[u, v] t (0, 0))) : V.cell? ⟨B, 0, none⟩ = some u ∧ V.cell? ⟨B, 1, none⟩ = some v := by
  constructor <;> simp [World.cell?, h]
theorem drewB {W : World} {B : Nat} {t : TypeId} {v : Value} (h : Boxed W B t v) : Boxed W.drew B t v := h
theorem keeps_below {D : Nat} {W V : World} (h : Below W.heap.size W V) : KeepsFrom D W V := ⟨h.size, fun k _ _ hk _ => (h.block k (Array.getElem?_eq_some_iff.1 hk).1).trans hk⟩
/-- A round that has found something wrong. -/
theorem endP {w W V X : World} {a k T : Nat} {L : List Bs} {v : Value} {q x : Nat} {u y : Int} (hb : Below w.heap.size w W) (hbV : Below W.heap.size W V) (hf : FrP w.heap.size V (T : Int) v) (hr : partsL a L = .inr (q, x))
    (hX : X = (((V.setCell ⟨w.heap.size + 1, 0, none⟩ (.slice none 0 0)).setCell ⟨w.heap.size + 2, 0, none⟩ (.int .i64 u)).setCell ⟨w.heap.size + 2, 1, none⟩ (.int .i64 y)).drew ∨ X = (((V.setCell ⟨w.heap.size + 2, 0, none⟩ (.int .i64 u)).setCell ⟨w.heap.size + 2, 1, none⟩ (.int .i64 y)).setCell ⟨w.heap.size + 1, 0, none⟩ (.slice none 0 0)).drew) (hu : u = (q : Int)) (hy : y = (x : Int)) :
    KeepsFrom (w.heap.size + 7) W X ∧ IxP w a L k X := by
  subst hu hy
  have hBV := below_next hb hbV
  rcases hX with rfl | rfl
  · refine ⟨(keeps_below hbV).trans (((((KeepsOthers.setCell _ _ _).trans (KeepsOthers.setCell _ _ _)).trans (KeepsOthers.setCell _ _ _)).trans (KeepsOthers.drew _)).from _), q, x, hr, ?_, ?_, (((hBV.setCell (by simp) _).setCell (by simp) _).setCell (by simp) _).drew⟩
    · exact drewB <| ((hf.b1.set _).kept (grownBy_setCell2 _ (w.heap.size + 2) 0 _) (by simp)).kept (grownBy_setCell2 _ (w.heap.size + 2) 1 _) (by simp)
    · exact set_two _ _ ((Below.heap_setCell V ⟨w.heap.size + 1, 0, none⟩ _ (w.heap.size + 2) (by simp)).trans hf.b2)
  · refine ⟨(keeps_below hbV).trans (((((KeepsOthers.setCell _ _ _).trans (KeepsOthers.setCell _ _ _)).trans (KeepsOthers.setCell _ _ _)).trans (KeepsOthers.drew _)).from _), q, x, hr, ?_, ?_, (((hBV.setCell (by simp) _).setCell (by simp) _).setCell (by simp) _).drew⟩
    · exact drewB <| ((hf.b1.kept (grownBy_setCell2 V (w.heap.size + 2) 0 _) (by simp)).kept (grownBy_setCell2 _ (w.heap.size + 2) 1 _) (by simp)).set _
    · exact (Below.heap_setCell _ ⟨w.heap.size + 1, 0, none⟩ _ (w.heap.size + 2) (by simp)).trans (set_two _ _ hf.b2)
theorem infoT10 : (Tryd.prog.info? 36).map (fun i => (i.zero, i.size, i.bytes)) = some (some (.agg #[.int .i64 0, .string .empty, .int .i64 0]), 3, 32) := by kernel_rfl
theorem three10 {w : World} {a b c : Value} {t : TypeId} : ∀ (j : Nat) (x : Value), [a, b, c][j]? = some x → (w.alloc (.cells #[a, b, c] t)).cell? ((⟨w.heap.size, 0, none⟩ : Addr).add j) = some x := by
  intro j x hj
  match j, hj with
  | 0, hj => simp at hj; subst hj; simp [Addr.add]
  | 1, hj => simp at hj; subst hj; simp [Addr.add]
  | 2, hj => simp at hj; subst hj; simp [Addr.add]
/-- What the append of a round leaves of the low blocks. -/
theorem lowP {V w1 : World} {D e size k n : Nat} {v : Value} {xs : List Value} {tmp : Obj} (ho : V.ownsRow D e size v k xs) (hD : D ≤ V.heap.size) (hgrow : (V.alloc tmp).grownBy w1 v.ownBlock) (hn : n ≤ D) : ∀ j, j < n → w1.heap[j]? = V.heap[j]? := fun j hj =>
  (hgrow.block j (by simp; omega) (fun e => by have := (ho.lt j e.symm).1; omega)).trans (Below.heap_alloc V tmp j (by omega))
/-- A round that goes on. -/
theorem nextP {w W V w1 : World} {a k T c cap g : Nat} {p : Option Addr} {L : List Bs} {x : Bs} {tmp : Obj} {u : Int} (hb : Below w.heap.size w W) (hbV : Below W.heap.size W V) (hsz : w.heap.size + 7 ≤ W.heap.size) (hf : FrP w.heap.size V (T : Int) (.slice p k c))
    (ho : V.ownsRow (w.heap.size + 7) 36 3 (.slice p k c) k ((toksK a L k).flatMap cellsK)) (hg : goodK L k) (hx : L[k]? = some x) (h1 : oddI x = none) (h2 : ¬ 255 < x.length) (hT : atK a L k = T)
    (hgrow : (V.alloc tmp).grownBy w1 (Value.slice p k c).ownBlock) (hown : w1.ownsRow (w.heap.size + 7) 36 3 (.slice (some ⟨g, 0, none⟩) (k + 1) cap) (k + 1) ((toksK a L k).flatMap cellsK ++ [.int .i64 6, .string (baS x), .int .i64 (T : Int)])) (hu : u = (T : Int) + ((x.length : Int) + 1)) (ac : Act) :
    postB (w.heap.size + 4) (w.heap.size + 7) (IP w (w.heap.size + 7) a L) (IxP w a L) k W .normal ac ((w1.setCell ⟨w.heap.size + 3, 0, none⟩ (.slice (some ⟨g, 0, none⟩) (k + 1) cap)).setCell ⟨w.heap.size, 0, none⟩ (.int .i64 u)) := by
  subst hu
  have hVs := hbV.size
  have low := lowP ho (by omega) hgrow (Nat.le_refl _)
  have hf1 : FrP w.heap.size w1 (T : Int) (.slice p k c) := hf.same fun j h1 h2 => low j (by omega)
  have hgD := (hown.lt g rfl).1
  refine ⟨?_, fun j hj1 hj2 => ?_, ⟨some ⟨g, 0, none⟩, cap, ?_, ?_⟩, goodK_succ hg hx h1 h2, (List.getElem?_eq_some_iff.1 hx).1, ?_⟩
  · refine (keeps_below hbV).trans (((KeepsOthers.alloc V tmp).from _).trans (KeepsFrom.trans ?_ (((KeepsOthers.setCell _ _ _).trans (KeepsOthers.setCell _ _ _)).from _)))
    refine (KeepsOthers.of_grownBy hgrow fun j o ej hj => ?_).from _
    rcases (ho.alloc tmp).2 with ⟨h, _⟩ | ⟨g', cap', cur, h, _, hgb, _⟩
    · rw [h] at ej; simp [Value.ownBlock] at ej
    · rw [h] at ej
      obtain rfl : g' = j := by simpa [Value.ownBlock] using ej
      rw [hgb] at hj; cases hj; rfl
  · refine (Below.heap_setCell _ ⟨w.heap.size, 0, none⟩ _ j (by simp; omega)).trans ((Below.heap_setCell _ ⟨w.heap.size + 3, 0, none⟩ _ j (by simp; omega)).trans ((low j (by omega)).trans (hbV.block j (by omega))))
  · rw [atK_succ hx, hT]
    have := (hf1.setV (u := .slice (some ⟨g, 0, none⟩) (k + 1) cap)).setAt (u := (T : Int) + ((x.length : Int) + 1))
    rwa [show ((T + (x.length + 1) : Nat) : Int) = (T : Int) + ((x.length : Int) + 1) by omega]
  · rw [toksK_succ k a L x hx, hT, List.flatMap_append]
    refine (hown.kept (grownBy_setCell' _ _ _) (.inr ?_)).kept (grownBy_setCell' _ _ _) (.inr ?_)
    · simp [Value.ownBlock]; omega
    · simp [Value.ownBlock]; omega
  · exact ((((below_next hb hbV).alloc (by have := hb.size; omega) tmp).grown hgrow (by have := hb.size; simp; omega) (fun j e => by have := (ho.lt j e).1; omega)).setCell (by simp) _).setCell (by simp) _
set_option maxHeartbeats 4000000 in
set_option maxRecDepth 100000 in
theorem partsOf_x (l : Bs) (a : Nat) (w : World) (hl : l.length ≤ 1000000) (ha : a ≤ 1000001) :
    Calls Tryd.prog 28 #[.string (baS l), .int .i64 (a : Int)] w fun e w' => PartsE w (partsA a [] a l) e w' := by
  rw [parts_is]
  have HS := Lib.hid (splitSeq_x (baS l) (baS [44]))
  refine (callsIn_wide (n := 3)).1 ?_
  refine callsIn_of_wp_marks Tryd.func28 rfl trivial ?_ rfl
  simp only [Tryd.ntmps28, List.size_toArray, List.length_cons, List.length_nil, Nat.reduceAdd, Nat.reduceSub, Array.replicate_succ, Array.replicate_zero, List.push_toArray, List.append_toArray, List.nil_append, List.cons_append]
  gi_wp2_with (refine ⟨trivial, ?_⟩; gi_at_call 35; refine (callsIn_wide.2 (HS.out _)).mono ?_; rintro e w' ⟨rfl, rfl⟩)
  generalize hW0 : ((((((w.alloc _).alloc _).alloc _).alloc _).alloc _).alloc _).alloc _ = W0
  have hz : W0.heap.size = w.heap.size + 7 := by rw [← hW0]; simp
  have hB0 : Below w.heap.size w W0 := by rw [← hW0]; exact ball (ball (ball (ball (ball (ball (ball (Below.refl _ _)))))))
  obtain ⟨V, hV, s0, s1, s2, s3, s4, s5, s6⟩ := seven w (.cells #[.int .i64 (a : Int)] 3) (.cells #[.slice none 0 0] 30) (.cells #[.int .i64 0, .int .i64 0] 26) (.cells #[.slice none 0 0] 30) (.cells #[.string (baS l)] 9) (.cells #[.string (baS [44])] 9) (.cells #[.int .i64 0] 3)
  obtain rfl : V = W0 := hV.trans hW0
  have hF : FrP w.heap.size V (a : Int) (.slice none 0 0) := ⟨s0, s1, s2, s3⟩
  have hS0 : Boxed V (w.heap.size + 4) 9 (.string (baS l)) := s4
  have hS1 : Boxed V (w.heap.size + 4 + 1) 9 (.string (baS [44])) := s5
  have hS2 : Boxed V (w.heap.size + 4 + 2) 3 (.int .i64 0) := s6
  clear hV s0 s1 s2 s3 s4 s5 s6
  clear hW0 HS
  have hat : ∀ k, atK a (splitC [] l) k ≤ 2000002 := fun k => by have := split_at_le l a k; omega
  have hpart : ∀ (k : Nat) (p : Bs), (splitC [] l)[k]? = some p → p.length ≤ 1000000 := fun k p h => by have := split_part_le (a := 0) h; omega
  have hlen : (splitC [] l).length ≤ 1000001 := by have := splitC_len l []; omega
  have HT := iter_x (w.heap.size + 4) l V (by omega) hS0 hS1 hS2 hl
  generalize hLL : splitC [] l = L at *
  refine range3 (n := 3) (B := w.heap.size + 4) (L := L) (enc := fun x => .string (baS x)) (by decide) (gf := 51) rfl (enters_of Tryd.func51 (by kernel_rfl) rfl) (by omega) HT
    (IP w (w.heap.size + 7) a L) (IxP w a L) (by rw [hz]; exact ip_abides w _ a L (Nat.le_refl _)) (by rw [hz]; exact ixp_abides w _ a L (Nat.le_refl _))
    ⟨⟨none, 0, by rw [atK_zero]; exact hF, by simpa [toksK] using World.ownsRow_nil V (w.heap.size + 7) 36 3⟩, fun j p hj _ => absurd hj (by omega), Nat.zero_le _, hB0⟩
    (fun x => { tmps := #[.string (baS l), .int .i64 (a : Int), undef, .pointer (some ⟨w.heap.size, 0, none⟩), .pointer (some ⟨w.heap.size + 1, 0, none⟩), .pointer (some ⟨w.heap.size + 1 + 1, 0, none⟩), .pointer (some ⟨w.heap.size + 1 + 1 + 1, 0, none⟩), .string (baS x), undef, .string (baS l), .func (.func 51) #[] #[.pointer (some ⟨w.heap.size + 1 + 1 + 1 + 1 + 1, 0, none⟩), .pointer (some ⟨w.heap.size + 1 + 1 + 1 + 1, 0, none⟩), .pointer (some ⟨w.heap.size + 1 + 1 + 1 + 1 + 2, 0, none⟩)], .string (baS x), undef, undef, undef, undef, undef, undef, undef, undef, undef, undef, undef, undef, undef, undef, undef, undef, undef, undef, undef, undef, undef, undef, undef, undef, undef, undef], defers := [] }) ?assign ?body ?done ?stop
  case assign =>
    intro m x W K hK
    gi_wp2
    exact hK
  case body =>
    rintro m k x W ⟨⟨p, c, hf, ho⟩, hg, hk, hb⟩ hx hsz
    rw [hz] at hsz ⊢
    have hT := hat k
    have hxl := hpart k x hx
    cases hodd : oddI x with
    | some i =>
      have hil := oddI_lt hodd
      have HX : Hid (∀ V, Calls Tryd.prog 36 #[.string (baS x), .func (.func 37) #[] #[]] V fun e w' => e = .returned (.int .i64 (i : Int)) ∧ Below V.heap.size V w') := fun V => by
        have := indexOdd_x x V
        rwa [show oddZ x = (i : Int) by unfold oddZ; rw [hodd]] at this
      have HR := Lib.hid (good_odd L a k x i hg hx hodd)
      have hw : IntKind.i64.wrap ((atK a L k : Int) + (i : Int)) = (atK a L k : Int) + (i : Int) := by rw [IntKind.wrap_i64]; omega
      have hmx : Tryd.prog.follows .mixedOrders = true := by kernel_rfl
      generalize hTT : atK a L k = T at *
      gi_wp2_with (refine ⟨trivial, ?_⟩; gi_at_call 36; refine (CallsIn.inRound m (callsIn_wide.2 (HX.out _))).mono ?_; rintro e V ⟨rfl, hbV⟩; have fV : FrP w.heap.size V (T : Int) (.slice p k c) := hf.same (fun j h1 h2 => hbV.block j (by omega)); have c0 := fV.b0.cell; have c1 := fV.b1.cell; have f1 := fV.b1.frozen; have c2 := fV.errs.1; have c3 := fV.errs.2.1; have f2 := fV.errs.2.2)
      gi_region_o
      all_goals gi_wp2
      all_goals exact endP (q := 1) (x := T + i) hb hbV fV HR.out (by first | exact Or.inl rfl | exact Or.inr rfl) (by rfl) (by omega)
    | none =>
      have HX : Hid (∀ V, Calls Tryd.prog 36 #[.string (baS x), .func (.func 37) #[] #[]] V fun e w' => e = .returned (.int .i64 (-1)) ∧ Below V.heap.size V w') := fun V => by
        have := indexOdd_x x V
        rwa [show oddZ x = -1 by unfold oddZ; rw [hodd]] at this
      have hxs := baS_size x
      by_cases hlong : 255 < x.length
      · have HR := Lib.hid (good_long L a k x hg hx hodd hlong)
        have hmx : Tryd.prog.follows .mixedOrders = true := by kernel_rfl
        generalize hTT : atK a L k = T at *
        gi_wp2_with (refine ⟨trivial, ?_⟩; gi_at_call 36; refine (CallsIn.inRound m (callsIn_wide.2 (HX.out _))).mono ?_; rintro e V ⟨rfl, hbV⟩; have fV : FrP w.heap.size V (T : Int) (.slice p k c) := hf.same (fun j h1 h2 => hbV.block j (by omega)); have c0 := fV.b0.cell; have c1 := fV.b1.cell; have f1 := fV.b1.frozen; have c2 := fV.errs.1; have c3 := fV.errs.2.1; have f2 := fV.errs.2.2)
        gi_region_o
        all_goals gi_wp2
        all_goals exact endP (q := 2) (x := T) hb hbV fV HR.out (by first | exact Or.inl rfl | exact Or.inr rfl) (by rfl) (by rfl)
      · obtain ⟨i0, hi, hz0, hz1, hz2⟩ := info_parts infoT10
        have hpl : k ≤ 1000000 := by have := (List.getElem?_eq_some_iff.1 hx).1; omega
        generalize hTT : atK a L k = T at *
        have hw1 : IntKind.i64.wrap ((x.length : Int) + 1) = (x.length : Int) + 1 := by rw [IntKind.wrap_i64]; omega
        have hw2 : IntKind.i64.wrap ((T : Int) + ((x.length : Int) + 1)) = (T : Int) + ((x.length : Int) + 1) := by rw [IntKind.wrap_i64]; omega
        gi_wp2_with (first | (refine ⟨trivial, ?_⟩; gi_at_call 36; refine (CallsIn.inRound m (callsIn_wide.2 (HX.out _))).mono ?_; rintro e V ⟨rfl, hbV⟩; have fV : FrP w.heap.size V (T : Int) (.slice p k c) := hf.same (fun j h1 h2 => hbV.block j (by omega)); have oV := own_next ho hbV; have c0 := fV.b0.cell; have c3 := fV.b3.cell; have hVz := hbV.size) | (gi_at_builtin; refine wpListIn_append_own _ rfl _ _ 30 rfl (w.heap.size + 7) 36 i0 (.agg #[.int .i64 0, .string .empty, .int .i64 0]) 3 32 Tryd.underlying30 hi hz0 hz1 hz2 rfl (by decide) _ _ _ rfl (oV.alloc _) ⟨V.heap.size, 0, none⟩ 1 1 [.int .i64 6, .string (baS x), .int .i64 (T : Int)] rfl rfl three10 (fun u hu => by simp at hu; rcases hu with rfl | rfl | rfl <;> rfl) (by unfold maxLen; omega) (by omega) (by simp; omega) ?_; intro v' w1 hown' hgrow _; obtain ⟨g', cap', rfl⟩ := ownsRow_succ hown'; have f1 : FrP w.heap.size w1 (T : Int) (.slice p k c) := fV.same (fun j h1 h2 => lowP oV (by omega) hgrow (Nat.le_refl _) j (by omega)); have d0 := f1.b0.cell; have d0f := f1.b0.frozen; have d3 := f1.b3.cell; have d3f := f1.b3.frozen))
        exact nextP hb hbV hsz fV oV hg hx hodd hlong hTT hgrow hown' rfl _
  case done =>
    rintro D W hD ⟨⟨p, c, hf, ho⟩, hg, hk, hb⟩ hK
    have c3 := hf.b3.cell
    have c1 := hf.b1.cell
    have f1 := hf.b1.frozen
    obtain ⟨e0, e1, ef⟩ := hf.errs
    rw [hz] at hD
    gi_wp2
    have hDo := hK
    have kX := ((KeepsOthers.setCell W ⟨w.heap.size + 1, 0, none⟩ (.slice p L.length c)).trans (KeepsOthers.setCell _ ⟨w.heap.size + 2, 0, none⟩ (.int .i64 0))).trans (KeepsOthers.setCell _ ⟨w.heap.size + 2, 1, none⟩ (.int .i64 0))
    have hK' := kX.same D _ hK rfl
    have b1 := ((hf.b1.set (.slice p L.length c)).kept (grownBy_setCell2 _ (w.heap.size + 2) 0 (.int .i64 0)) (by simp)).kept (grownBy_setCell2 _ (w.heap.size + 2) 1 (.int .i64 0)) (by simp)
    have b2 := set_two (.int .i64 0) (.int .i64 0) ((Below.heap_setCell W ⟨w.heap.size + 1, 0, none⟩ (.slice p L.length c) (w.heap.size + 2) (by simp)).trans hf.b2)
    have bX : Below w.heap.size w _ := ((hb.setCell (p := ⟨w.heap.size + 1, 0, none⟩) (by simp) (.slice p L.length c)).setCell (p := ⟨w.heap.size + 2, 0, none⟩) (by simp) (.int .i64 0)).setCell (p := ⟨w.heap.size + 2, 1, none⟩) (by simp) (.int .i64 0)
    have hnr : ∀ b, b < w.heap.size + 7 → (Value.slice p L.length c).ownBlock ≠ some b := fun b hlt e => by have := (ho.lt b e).1; omega
    have oX := ((ho.kept (grownBy_setCell2 W (w.heap.size + 1) 0 (.slice p L.length c)) (.inr (hnr _ (by omega)))).kept (grownBy_setCell2 _ (w.heap.size + 2) 0 (.int .i64 0)) (.inr (hnr _ (by omega)))).kept (grownBy_setCell2 _ (w.heap.size + 2) 1 (.int .i64 0)) (.inr (hnr _ (by omega)))
    refine ⟨by simp, .inl ⟨_, _, rfl, run_takeDeferred hK', ?_⟩⟩
    have oY := ownsRow_putObj oX (.deferred none) hK' rfl
    have k1 : Boxed (World.putObj _ D (.deferred none)) (w.heap.size + 1) 30 (.slice p L.length c) := (World.putObj_heap_other (by omega)).trans b1
    have k2 : (World.putObj _ D (.deferred none)).heap[w.heap.size + 2]? = some (.cells #[.int .i64 0, .int .i64 0] 26 (0, 0)) := (World.putObj_heap_other (by omega)).trans b2
    obtain ⟨e0, e1⟩ := two_cells k2
    have e2 := k1.cell
    refine ⟨_, by simp [results, Tryd.f28, go_sem, e0, e1, e2]; rfl, bX.grown (grownBy_putObj' _ D _) (by have := bX.size; omega) (fun j e => by cases e; omega), ?_⟩
    rw [hLL, good_all L a hg]
    have hl3 := toksK_len L.length a L (Nat.le_refl _)
    refine ⟨p, c, by rw [hl3], tokK_own (base := w.heap.size + 7) (c := c) (by rw [hl3]; exact oY), fun g hg' => ?_⟩
    subst hg'
    have := oY.lt g rfl
    exact ⟨by omega, this.2⟩
  case stop =>
    rintro D k W hD ⟨q, x, h1, h2, h3, hb⟩ hK
    rw [hz] at hD
    gi_wp2
    refine ⟨by simp, .inl ⟨_, _, rfl, run_takeDeferred hK, ?_⟩⟩
    have k1 : Boxed (W.putObj D (.deferred none)) (w.heap.size + 1) 30 (.slice none 0 0) := (World.putObj_heap_other (by omega)).trans h2
    have k2 : (W.putObj D (.deferred none)).heap[w.heap.size + 2]? = some (.cells #[.int .i64 (q : Int), .int .i64 (x : Int)] 26 (0, 0)) := (World.putObj_heap_other (by omega)).trans h3
    obtain ⟨e0, e1⟩ := two_cells k2
    have e2 := k1.cell
    refine ⟨_, by simp [results, Tryd.f28, go_sem, e0, e1, e2]; rfl, hb.grown (grownBy_putObj' W D _) (by have := hb.size; omega) (fun j e => by cases e; omega), ?_⟩
    rw [hLL, h1]
end Go.Proofs.YtfmanmidihofgaaDoor
