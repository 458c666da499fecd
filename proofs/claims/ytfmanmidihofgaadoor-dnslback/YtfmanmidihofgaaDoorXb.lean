/- A range over a function whose iterator keeps its own text in one cell: what the loop's body owes, and what stands behind the loop. -/
import Derived.Test.YtfmanmidihofgaaDoorKb
import Derived.RangeFuncBox
import Derived.RangeFuncLeaves
import Derived.RangeFuncCalls
namespace Go.Proofs.YtfmanmidihofgaaDoor
open Go.RowKit

/-- What is said between two rounds abides a turn of the iterator's own cell, and of what is no cells and was laid for the loop. -/
def AbidesB (B D : Nat) (J : Nat → World → Prop) : Prop := ∀ k A C row, J k A → A.grownBy C row → (∀ r, row = some r → r = B ∨ (D ≤ r ∧ ∃ o : Obj, A.heap[r]? = some o ∧ o.isCells = false)) → J k C
theorem AbidesB.lays {B D : Nat} {J : Nat → World → Prop} (h : AbidesB B D J) {k : Nat} {A : World} (o : Obj) (hj : J k A) : J k (A.alloc o) :=
  h k A _ none hj (World.grownBy_alloc A o none) (fun r e => by cases e)
theorem AbidesB.puts {B D : Nat} {J : Nat → World → Prop} (h : AbidesB B D J) {k : Nat} {A : World} {l : Nat} {o : Obj} (o' : Obj) (hj : J k A) (hD : D ≤ l) (hl : A.heap[l]? = some o) (ho : o.isCells = false) : J k (A.putObj l o') :=
  h k A _ (some l) hj (grownBy_putObj' A l o') (fun r e => by cases e; exact Or.inr ⟨hD, o, hl, ho⟩)
theorem AbidesB.sets {B D : Nat} {J : Nat → World → Prop} (h : AbidesB B D J) {k : Nat} {A : World} (v : Value) (hj : J k A) : J k (A.setCell ⟨B, 0, none⟩ v) :=
  h k A _ (some B) hj (grownBy_setCell' A B v) (fun r e => by cases e; exact Or.inl rfl)
/-- The same, of the iterator's own cell alone. -/
def AbidesS (B : Nat) (J : Nat → World → Prop) : Prop := ∀ k A C row, J k A → A.grownBy C row → (∀ r, row = some r → r = B) → J k C
theorem AbidesS.sets {B : Nat} {J : Nat → World → Prop} (h : AbidesS B J) {k : Nat} {A : World} (v : Value) (hj : J k A) : J k (A.setCell ⟨B, 0, none⟩ v) :=
  h k A _ (some B) hj (grownBy_setCell' A B v) (fun r e => by cases e; rfl)
/-- What a round keeps for the iterator: its three cells. -/
def Kept3 (B : Nat) (A C : World) : Prop := ∀ k, B ≤ k → k < B + 3 → C.heap[k]? = A.heap[k]?
theorem Kept3.trans {B : Nat} {X Y Z : World} (h : Kept3 B X Y) (k : Kept3 B Y Z) : Kept3 B X Z := fun i h1 h2 => (k i h1 h2).trans (h i h1 h2)
/-- The iterator's part: called with its rounds it goes through all of them, or it was stopped. -/
def Iter3 (P : Program) (n gf : Nat) (lb : Array Value) (B : Nat) (L : List Bs) (w : World) (enc : Bs → Value) : Prop :=
  ∀ (l : Nat) (J Jx : Nat → World → Prop) (W : World), Below w.heap.size w W → AbidesS B J → AbidesS B Jx →
    (∀ k x V, J k V → L[k]? = some x → YieldAt Fence.wide (n - 1) P l #[enc x] V fun e V' =>
      (e = .returned (.bool true) ∧ J (k + 1) V' ∧ Kept3 B V V') ∨ (e = .returned (.bool false) ∧ Jx k V')) →
    J 0 W → CallsIn Fence.wide n P gf (#[.func (.yield l) #[] #[]] ++ lb) W fun e V => (∃ v, e = .returned v) ∧ (J L.length V ∨ ∃ k, Jx k V)
/-- How a round's body may be left. -/
def postB (B D : Nat) (I : Nat → World → Prop) (Ix : Nat → World → Prop) (k : Nat) (W : World) : Exit → Act → World → Prop
  | .normal, _, V => KeepsFrom D W V ∧ Kept3 B W V ∧ I (k + 1) V
  | .ret, _, V => KeepsFrom D W V ∧ Ix k V
  | _, _, _ => False
theorem range3 {P : Program} {n : Nat} {g : Operand} {p : Tmp} {assign body : Code} {Q : Exit → Act → World → Prop} {a : Act} {w : World} {gf : Nat} {lb : Array Value} {B : Nat} {L : List Bs} {enc : Bs → Value}
    (hn : 1 ≤ n) (hg : a.eval g = .func (.func gf) #[] lb) (eg : ∀ args w, (callFunc gf args).run P w = .ok (.enter gf args) w) (hB : B + 3 ≤ w.heap.size) (hit : Iter3 P (n - 1) gf lb B L w enc)
    (I Ix : Nat → World → Prop) (hI : AbidesB B w.heap.size I) (hIx : AbidesB B w.heap.size Ix) (h0 : I 0 w) (a₁ : Bs → Act)
    (hassign : ∀ (l : Nat) (x : Bs) (W : World) (K : Act → World → Prop), K (a₁ x) W → assign.wpIn (Fence.wide.inRound l) (n - 1 - 1) P (Exit.then K (fun _ _ _ => False)) { tmps := a.tmps.setIfInBounds p (enc x), defers := [] } W)
    (hbody : ∀ (l k : Nat) (x : Bs) (W : World), I k W → L[k]? = some x → w.heap.size ≤ W.heap.size → body.wpIn (Fence.wide.inRound l) (n - 1 - 1) P (postB B w.heap.size I Ix k W) (a₁ x) W)
    (hdone : ∀ (D : Nat) (W : World), w.heap.size ≤ D → I L.length W → W.heap[D]? = some (.deferred (some [])) → Q .normal { a with defers := { target := .collected D, args := #[] } :: a.defers } W)
    (hstop : ∀ (D k : Nat) (W : World), w.heap.size ≤ D → Ix k W → W.heap[D]? = some (.deferred (some [])) → Code.ret.wpIn Fence.wide n P Q { a with defers := { target := .collected D, args := #[] } :: a.defers } W) :
    (Code.rangeFunc g #[p] assign body).wpIn Fence.wide n P Q a w := by
  refine wpIn_rangeFunc fun fn hfn => ?_
  generalize hz : w.heap.size = z at *
  obtain ⟨R, hR⟩ : ∃ R : LoopState → Option Code → Obj, R = fun st pe => .loop { state := st, pending := pe, fn, tmps := a.tmps, params := #[p], assign, body, defers := z } := ⟨_, rfl⟩
  obtain ⟨V, hV⟩ : ∃ V, (w.alloc (.deferred (some []))).alloc (R .ready none) = V := ⟨_, rfl⟩
  have hc : ∀ st pe, (R st pe).isCells = false := fun st pe => by rw [hR]; rfl
  have hrec : V.heap[z + 1]? = some (R .ready none) := by
    rw [← hV, ← hz]; have := World.alloc_heap_new (w.alloc (.deferred (some []))) (R .ready none); rwa [World.size_alloc] at this
  have hdef : V.heap[z]? = some (.deferred (some [])) := by
    rw [← hV, ← hz]; exact (Below.heap_alloc _ _ _ (by simp)).trans (World.alloc_heap_new w _)
  have hbel : Below z w V := by rw [← hV, ← hz]; exact ((Below.refl _ w).alloc (Nat.le_refl _) _).alloc (by simp) _
  have hI0 : I 0 V := by rw [← hV]; exact hI.lays _ (hI.lays _ h0)
  refine ⟨z + 1, [{ target := .collected z, args := #[] }], V, { target := .fn (.func gf) lb, args := #[.func (.yield (z + 1)) #[] #[]] }, V, gf, #[.func (.yield (z + 1)) #[] #[]] ++ lb, V, ?_, ?_, fun f' _ => trivial, ?_, fun _ => hn, ?_⟩
  · have := run_enterLoop_outer (P := P) (w := w) fn a.tmps #[p] assign body
    rw [hz] at this
    rw [← hV, hR]; exact this
  · simp only [resolve, hg]; simp [go_sem]
  · simp [invoke, go_sem, eg]
  · -- what is carried from round to round: the caller's word, the record, the block of deferred calls
    have hz2 : z + 1 < V.heap.size := (Array.getElem?_eq_some_iff.1 hrec).1
    have keepR : ∀ {A C : World} {row : Option Nat} {o : Obj} (j : Nat), A.grownBy C row → (∀ r, row = some r → r = B) → z ≤ j → A.heap[j]? = some o → C.heap[j]? = some o := fun j hg' hr hj ho =>
      (hg'.block j (Array.getElem?_eq_some_iff.1 ho).1 (fun e => by have := hr j e.symm; omega)).trans ho
    refine (hit (z + 1) (fun k W => I k W ∧ W.heap[z + 1]? = some (R .ready none) ∧ W.heap[z]? = some (.deferred (some []))) (fun k W => Ix k W ∧ W.heap[z + 1]? = some (R .done (some .ret)) ∧ W.heap[z]? = some (.deferred (some []))) V (by rw [hz]; exact hbel) ?_ ?_ ?_ ⟨hI0, hrec, hdef⟩).mono ?_
    · exact fun k A C row hj hg' hr => ⟨hI k A C row hj.1 hg' (fun r e => Or.inl (hr r e)), keepR _ hg' hr (by omega) hj.2.1, keepR _ hg' hr (Nat.le_refl _) hj.2.2⟩
    · exact fun k A C row hj hg' hr => ⟨hIx k A C row hj.1 hg' (fun r e => Or.inl (hr r e)), keepR _ hg' hr (by omega) hj.2.1, keepR _ hg' hr (Nat.le_refl _) hj.2.2⟩
    · rintro k x W ⟨hik, hl, hk⟩ hx
      have hlt : z + 1 < W.heap.size := (Array.getElem?_eq_some_iff.1 hl).1
      have hl' := hl
      rw [hR] at hl'
      have hy : (Instr.yield (z + 1) #[enc x]).run P W = .ok (.round (z + 1) fn (a.tmps.setIfInBounds p (enc x)) assign body) W := by
        have := run_yield (P := P) (args := #[enc x]) hl' rfl
        rw [this]; simp
      have hbr := run_beginRound (P := P) hl' rfl
      obtain ⟨W2, hW2⟩ : ∃ W2, W.putObj (z + 1) (R .busy none) = W2 := ⟨_, rfl⟩
      have hl2 : W2.heap[z + 1]? = some (R .busy none) := by rw [← hW2]; exact World.putObj_heap_same hlt
      have hk2 : W2.heap[z]? = some (.deferred (some [])) := by rw [← hW2]; exact (World.putObj_heap_other (by omega)).trans hk
      have hi2 : I k W2 := by rw [← hW2]; exact hI.puts _ hik (by omega) hl (hc _ _)
      have hq2 : Kept3 B W W2 := by rw [← hW2]; exact fun j h1 h2 => World.putObj_heap_other (by omega)
      have hs2 : W2.heap.size = W.heap.size := by rw [← hW2]; exact World.putObj_size
      have hbr2 : (Instr.beginRound (z + 1)).run P W = .ok () W2 := by rw [← hW2, hR]; exact hbr
      have ends : ∀ (jump : Option Code) (W3 : World), KeepsFrom z W2 W3 → ∃ W4, (Instr.endRound (z + 1) jump).run P W3 = .ok (.bool jump.isNone) W4 ∧ W4.heap[z + 1]? = some (R (if jump.isNone then .ready else .done) jump) ∧ W4.heap[z]? = some (.deferred (some [])) ∧ Kept3 B W3 W4 ∧ ∀ {J : Nat → World → Prop} {i : Nat}, AbidesB B z J → J i W3 → J i W4 := fun jump W3 hk3 => by
        have h3 := hk3.same _ _ (by omega) hl2 (hc _ _)
        have h4 := hk3.same _ _ (Nat.le_refl _) hk2 rfl
        have h3' := h3
        rw [hR] at h3'
        refine ⟨_, run_endRound (P := P) jump h3', ?_, (World.putObj_heap_other (by omega)).trans h4, fun j _ _ => World.putObj_heap_other (by omega), fun hJ hj => hJ.puts _ hj (by omega) h3 (hc _ _)⟩
        rw [hR]; exact World.putObj_heap_same (Array.getElem?_eq_some_iff.1 h3).1
      refine ⟨fn, _, assign, body, hy, roundIn_of_wpIn hfn ?_⟩
      refine hassign (z + 1) x W _ ?_
      refine ⟨W2, hbr2, wpIn_mono (hbody (z + 1) k x W2 hi2 hx (by rw [hs2]; omega)) ?_⟩
      intro e a3 W3 hp
      cases e with
      | normal =>
        obtain ⟨k3, q3, i3⟩ := hp
        obtain ⟨W4, hr, e1, e2, e3, e4⟩ := ends none W3 k3
        exact ⟨_, W4, hr, .inl ⟨rfl, ⟨e4 hI i3, e1, e2⟩, (hq2.trans q3).trans e3⟩⟩
      | ret =>
        obtain ⟨k3, i3⟩ := hp
        obtain ⟨W4, hr, e1, e2, _, e4⟩ := ends (some .ret) W3 k3
        exact ⟨_, W4, hr, .inr ⟨rfl, e4 hIx i3, e1, e2⟩⟩
      | exit id => exact hp.elim
      | goto t => exact hp.elim
      | panic ch => exact hp.elim
      | outgrown => exact hp.elim
    · rintro e W3 ⟨⟨v, rfl⟩, h3⟩
      rcases h3 with ⟨hi, hl, hk⟩ | ⟨k, hi, hl, hk⟩
      · have hl' := hl
        rw [hR] at hl'
        exact ⟨none, _, run_endLoop (P := P) hl' (by simp), hdone z _ (Nat.le_refl _) (hI.puts _ hi (by omega) hl (hc _ _)) ((World.putObj_heap_other (by omega)).trans hk)⟩
      · have hl' := hl
        rw [hR] at hl'
        exact ⟨some .ret, _, run_endLoop (P := P) hl' (by simp), hstop z k _ (Nat.le_refl _) (hIx.puts _ hi (by omega) hl (hc _ _)) ((World.putObj_heap_other (by omega)).trans hk)⟩
end Go.Proofs.YtfmanmidihofgaaDoor
