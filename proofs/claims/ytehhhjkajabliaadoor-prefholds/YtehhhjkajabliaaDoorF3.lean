/- Blocks of a fresh address, laid behind a world, kept over calls. -/
import Derived.Test.YtehhhjkajabliaaDoorRr
import Derived.Test.YtehhhjkajabliaaDoorCl
namespace Go.Proofs.YtehhhjkajabliaaDoor
open Go.ChangeShapes Go.WideShapes Go.RowKit Go.Sort

structure Fresh3 (W w : World) (N : Nat) : Prop where
  c0 : w.cell? ⟨N, 0, none⟩ = some (.int .i64 0)
  c1 : w.cell? ⟨N, 1, none⟩ = some (.int .u64 0)
  c2 : w.cell? ⟨N, 2, none⟩ = some (.int .u64 0)
  cf : ∀ o, w.frozen? ⟨N, o, none⟩ = false
  lt : N < w.heap.size
  le : W.heap.size ≤ N
theorem f3_c {W V w : World} {N : Nat} (hb : Below V.heap.size V w) (F : Fresh3 W V N) : Fresh3 W w N := by
  obtain ⟨k, f, l⟩ := keepf hb N F.lt
  exact ⟨(k 0).trans F.c0, (k 1).trans F.c1, (k 2).trans F.c2, fun o => (f o).trans (F.cf o), l, F.le⟩
theorem f3_new {W V : World} (hW : Below W.heap.size W V) : Fresh3 W (V.alloc (.cells #[.int .i64 0, .int .u64 0, .int .u64 0] 28)) V.heap.size :=
  ⟨by simp [go_sem], by simp [go_sem], by simp [go_sem], fun o => by simp [go_sem], by simp, hW.size⟩
theorem f3_a {W V w : World} (hb : Below (V.alloc (.cells #[.int .i64 0, .int .u64 0, .int .u64 0] 28)).heap.size (V.alloc (.cells #[.int .i64 0, .int .u64 0, .int .u64 0] 28)) w) (hW : Below W.heap.size W V) : Fresh3 W w V.heap.size ∧ Below V.heap.size V w :=
  ⟨f3_c hb (f3_new hW), below_next (ball (Below.refl _ _)) hb⟩
theorem f3_aa {W V w : World} (hb : Below ((V.alloc (.cells #[.int .i64 0, .int .u64 0, .int .u64 0] 28)).alloc (.cells #[.int .i64 0, .int .u64 0, .int .u64 0] 28)).heap.size ((V.alloc (.cells #[.int .i64 0, .int .u64 0, .int .u64 0] 28)).alloc (.cells #[.int .i64 0, .int .u64 0, .int .u64 0] 28)) w) (hW : Below W.heap.size W V) : Fresh3 W w V.heap.size ∧ Fresh3 W w (V.heap.size + 1) ∧ Below V.heap.size V w := by
  refine ⟨f3_c hb (f3_c (ball (Below.refl _ _)) (f3_new hW)), ?_, below_next (ball (ball (Below.refl _ _))) hb⟩
  have := f3_c hb (f3_new (ball hW))
  simpa using this
theorem f3_ad {W V w : World} (hb : Below (V.drew.alloc (.cells #[.int .i64 0, .int .u64 0, .int .u64 0] 28)).heap.size (V.drew.alloc (.cells #[.int .i64 0, .int .u64 0, .int .u64 0] 28)) w) (hW : Below W.heap.size W V) : Fresh3 W w V.heap.size ∧ Below V.heap.size V w :=
  ⟨(f3_a hb (Below.drew hW)).1, below_next (ball (Below.drew (Below.refl _ _))) hb⟩
theorem f3_aad {W V w : World} (hb : Below ((V.drew.alloc (.cells #[.int .i64 0, .int .u64 0, .int .u64 0] 28)).alloc (.cells #[.int .i64 0, .int .u64 0, .int .u64 0] 28)).heap.size ((V.drew.alloc (.cells #[.int .i64 0, .int .u64 0, .int .u64 0] 28)).alloc (.cells #[.int .i64 0, .int .u64 0, .int .u64 0] 28)) w) (hW : Below W.heap.size W V) : Fresh3 W w V.heap.size ∧ Fresh3 W w (V.heap.size + 1) ∧ Below V.heap.size V w :=
  ⟨(f3_aa hb (Below.drew hW)).1, (f3_aa hb (Below.drew hW)).2.1, below_next (ball (ball (Below.drew (Below.refl _ _)))) hb⟩
theorem drew_below {V w : World} (hb : Below V.drew.heap.size V.drew w) : Below V.heap.size V w := below_next (Below.drew (Below.refl _ _)) hb
def set3 (w : World) (N : Nat) (u h l : Int) : World := ((w.setCell ⟨N, 0, none⟩ (.int .i64 u)).setCell ⟨N, 1, none⟩ (.int .u64 h)).setCell ⟨N, 2, none⟩ (.int .u64 l)
theorem set3_size (w : World) (N : Nat) (u h l : Int) : (set3 w N u h l).heap.size = w.heap.size := by simp [set3]
theorem set3_cl {W w : World} {N : Nat} (F : Fresh3 W w N) (u h l : Int) : Cl (set3 w N u h l) N u h l := by
  obtain ⟨c0, c1, c2, cf, lt, le⟩ := F
  exact ⟨by simp [set3, go_sem, *], by simp [set3, go_sem, *], by simp [set3, go_sem, *], by rw [set3_size]; exact lt⟩
theorem set3_keep {w : World} {N M : Nat} {a b c : Int} (C : Cl w M a b c) (hne : N ≠ M) (u h l : Int) : Cl (set3 w N u h l) M a b c := by
  obtain ⟨c0, c1, c2, lt⟩ := C
  have h' : M ≠ N := fun e => hne e.symm
  exact ⟨by simp [set3, go_sem, *], by simp [set3, go_sem, *], by simp [set3, go_sem, *], by rw [set3_size]; exact lt⟩
theorem f3_set {W w : World} {N M : Nat} (F : Fresh3 W w M) (hne : N ≠ M) (u h l : Int) : Fresh3 W (set3 w N u h l) M := by
  obtain ⟨c0, c1, c2, cf, lt, le⟩ := F
  have h' : M ≠ N := fun e => hne e.symm
  exact ⟨by simp [set3, go_sem, *], by simp [set3, go_sem, *], by simp [set3, go_sem, *], fun o => by simp [set3, go_sem, cf], by rw [set3_size]; exact lt, le⟩
theorem set3_below {W w : World} {N : Nat} (C : Below W.heap.size W w) (le : W.heap.size ≤ N) (u h l : Int) : Below W.heap.size W (set3 w N u h l) := aset3 C le
theorem endA {W w : World} (C : Below W.heap.size W w) (u h l u' h' l' : Int) :
    Cl ((w.alloc (.cells #[.int .i64 u, .int .u64 h, .int .u64 l] 28)).alloc (.cells #[.int .i64 u', .int .u64 h', .int .u64 l'] 28)) w.heap.size u h l
    ∧ Cl ((w.alloc (.cells #[.int .i64 u, .int .u64 h, .int .u64 l] 28)).alloc (.cells #[.int .i64 u', .int .u64 h', .int .u64 l'] 28)) (w.heap.size + 1) u' h' l'
    ∧ Below W.heap.size W ((w.alloc (.cells #[.int .i64 u, .int .u64 h, .int .u64 l] 28)).alloc (.cells #[.int .i64 u', .int .u64 h', .int .u64 l'] 28)) := by
  refine ⟨(cl_new w u h l).alloc _, ?_, ball (ball C)⟩
  have := cl_new (w.alloc (.cells #[.int .i64 u, .int .u64 h, .int .u64 l] 28)) u' h' l'
  simpa using this
theorem endB {W w : World} {N : Nat} (F : Fresh3 W w N) (C : Below W.heap.size W w) (u h l u' h' l' : Int) :
    Cl ((set3 w N u h l).alloc (.cells #[.int .i64 u', .int .u64 h', .int .u64 l'] 28)) N u h l
    ∧ Cl ((set3 w N u h l).alloc (.cells #[.int .i64 u', .int .u64 h', .int .u64 l'] 28)) w.heap.size u' h' l'
    ∧ Below W.heap.size W ((set3 w N u h l).alloc (.cells #[.int .i64 u', .int .u64 h', .int .u64 l'] 28)) := by
  refine ⟨(set3_cl F u h l).alloc _, ?_, ball (set3_below C F.le u h l)⟩
  have := cl_new (set3 w N u h l) u' h' l'
  rwa [set3_size] at this
theorem endC {W w : World} {N M : Nat} (F : Fresh3 W w N) (G : Fresh3 W w M) (hne : N ≠ M) (C : Below W.heap.size W w) (u h l u' h' l' : Int) :
    Cl (set3 (set3 w N u h l) M u' h' l') N u h l ∧ Cl (set3 (set3 w N u h l) M u' h' l') M u' h' l' ∧ Below W.heap.size W (set3 (set3 w N u h l) M u' h' l') :=
  ⟨set3_keep (set3_cl F u h l) (fun e => hne e.symm) _ _ _, set3_cl (f3_set G hne _ _ _) _ _ _, set3_below (set3_below C F.le _ _ _) G.le _ _ _⟩
theorem endBx {W w : World} {N : Nat} (F : Fresh3 W w N) (C : Below W.heap.size W w) (u h l u' h' l' : Int) :
    Cl ((((w.setCell ⟨N, 0, none⟩ (.int .i64 u)).setCell ⟨N, 1, none⟩ (.int .u64 h)).setCell ⟨N, 2, none⟩ (.int .u64 l)).alloc (.cells #[.int .i64 u', .int .u64 h', .int .u64 l'] 28)) N u h l ∧ Cl ((((w.setCell ⟨N, 0, none⟩ (.int .i64 u)).setCell ⟨N, 1, none⟩ (.int .u64 h)).setCell ⟨N, 2, none⟩ (.int .u64 l)).alloc (.cells #[.int .i64 u', .int .u64 h', .int .u64 l'] 28)) w.heap.size u' h' l' ∧ Below W.heap.size W ((((w.setCell ⟨N, 0, none⟩ (.int .i64 u)).setCell ⟨N, 1, none⟩ (.int .u64 h)).setCell ⟨N, 2, none⟩ (.int .u64 l)).alloc (.cells #[.int .i64 u', .int .u64 h', .int .u64 l'] 28)) := endB F C u h l u' h' l'
theorem endCx {W w : World} {N M : Nat} (F : Fresh3 W w N) (G : Fresh3 W w M) (hne : N ≠ M) (C : Below W.heap.size W w) (u h l u' h' l' : Int) :
    Cl ((((((w.setCell ⟨N, 0, none⟩ (.int .i64 u)).setCell ⟨N, 1, none⟩ (.int .u64 h)).setCell ⟨N, 2, none⟩ (.int .u64 l)).setCell ⟨M, 0, none⟩ (.int .i64 u')).setCell ⟨M, 1, none⟩ (.int .u64 h')).setCell ⟨M, 2, none⟩ (.int .u64 l')) N u h l ∧ Cl ((((((w.setCell ⟨N, 0, none⟩ (.int .i64 u)).setCell ⟨N, 1, none⟩ (.int .u64 h)).setCell ⟨N, 2, none⟩ (.int .u64 l)).setCell ⟨M, 0, none⟩ (.int .i64 u')).setCell ⟨M, 1, none⟩ (.int .u64 h')).setCell ⟨M, 2, none⟩ (.int .u64 l')) M u' h' l' ∧ Below W.heap.size W ((((((w.setCell ⟨N, 0, none⟩ (.int .i64 u)).setCell ⟨N, 1, none⟩ (.int .u64 h)).setCell ⟨N, 2, none⟩ (.int .u64 l)).setCell ⟨M, 0, none⟩ (.int .i64 u')).setCell ⟨M, 1, none⟩ (.int .u64 h')).setCell ⟨M, 2, none⟩ (.int .u64 l')) := endC F G hne C u h l u' h' l'
theorem swap_ends {A B C : Prop} (h : A ∧ B ∧ C) : B ∧ A ∧ C := ⟨h.2.1, h.1, h.2.2⟩
/-! What PrefHolds asks of two prefixes and an address. -/
theorem has_first {u : Int} {x : Nat} {n : Int} (h : okP u x n = true) : hasP u x n u x = true := by
  obtain ⟨h1, _, _, h4⟩ := okP_is h
  simp [hasP, h, h1, h4]
theorem okV_last {u : Int} {x : Nat} {n : Int} (h : okP u x n = true) (hx : x < 340282366920938463463374607431768211456) : okV u (x + (2 ^ hostK u n - 1)) = true :=
  okV_of (okV_v (okP_is h).1) (last_ok h hx)
theorem has_last {u : Int} {x : Nat} {n : Int} (h : okP u x n = true) (hx : x < 340282366920938463463374607431768211456) : hasP u x n u (x + (2 ^ hostK u n - 1)) = true := by
  simp [hasP, h, okV_last h hx, cutK_add _ _ (okP_is h).2.2.2]
theorem has_in {u s : Int} {x z : Nat} {n : Int} (h : okP u x n = true) (hz : okV s z = true) :
    hasP u x n s z = (decide (s = u) && ((!ltB z x) && !ltB (x + (2 ^ hostK u n - 1)) z)) := by
  have h4 := (okP_is h).2.2.2
  by_cases hs : s = u
  · subst hs
    have := cutK_is (hostK s n) x z h4
    have e1 : decide (x ≤ z) = !decide (z < x) := by rw [Bool.eq_iff_iff]; simp
    have e2 : decide (z ≤ x + (2 ^ hostK s n - 1)) = !decide (x + (2 ^ hostK s n - 1) < z) := by rw [Bool.eq_iff_iff]; simp
    simp only [hasP, h, hz, ltB, this, Bool.true_and, decide_true, Bool.decide_and, e1, e2]
  · simp [hasP, hs]
theorem has_beyond {u : Int} {x : Nat} {n : Int} (h : okP u x n = true) : hasP u x n u (x + (2 ^ hostK u n - 1) + 1) = false := by
  have h4 := (okP_is h).2.2.2
  have hp : 0 < 2 ^ hostK u n := Nat.pow_pos (by decide)
  have hc : ¬ cutK (hostK u n) (x + (2 ^ hostK u n - 1) + 1) = x := by
    rw [cutK_is _ _ _ h4]; omega
  simp [hasP, hc]
theorem over_swap (v : Int) (x : Nat) (n u : Int) (y : Nat) (m : Int) : overP v x n u y m = overP u y m v x n := Bool.or_comm _ _
theorem over_ok {v : Int} {x : Nat} {n u : Int} {y : Nat} {m : Int} (h : okP v x n = true) (h' : okP u y m = true) : overP v x n u y m = (hasP v x n u y || hasP u y m v x) := by
  simp [overP, firstV, firstX, h, h']
theorem less_tri {v : Int} {x : Nat} {n u : Int} {y : Nat} {m : Int} (h : okP v x n = true) (h' : okP u y m = true) : (lessP v x n u y m || lessP u y m v x n) = !decide (v = u ∧ x = y ∧ n = m) := by
  simp only [lessP, h, h', Bool.true_and]
  by_cases e : v = u
  · subst e
    by_cases e2 : x = y
    · subst e2
      rw [Bool.eq_iff_iff]; simp; omega
    · have e3 : ¬ y = x := fun h => e2 h.symm
      rw [Bool.eq_iff_iff]; simp [e2, e3, lessP.ltP, ltB]; omega
  · have e3 : ¬ u = v := fun h => e h.symm
    rw [Bool.eq_iff_iff]; simp [e, e3, lessP.ltP]; omega
end Go.Proofs.YtehhhjkajabliaaDoor
