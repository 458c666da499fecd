/- Package json: bare. -/
import Derived.Test.YtgiihljiekagdaaDoorLp
namespace Go.Proofs.YtgiihljiekagdaaDoor
open Go.ChangeShapes Go.WideShapes Go.RowKit Go.Sort
def at0 : Js → Js
  | .mk k x t l q _ => .mk k x t l q 0
/-- What a value says that is read, without its place. -/
def bareR (room : Nat) (l : Bs) (i : Nat) : PJ Js := (valueJ room i (l.drop i)).andThen fun x j t => .ok (at0 x) j t
theorem leaf_fin {n : Nat} {l : Bs} {b o c R : Nat} {w w5 wf : World} {j RES kk : Nat} {x : Int} {t : Bs} {rr : PJ Js} {e : Ending} {a0 a1 a2 a3 a4 a5 : Value}
    (B05 : But R w w5) (hRES : w.heap.size ≤ RES ∧ R < w.heap.size) (hr : rr = .ok (.mk kk x t [] [] 0) j (l.drop j)) (hj : j ≤ l.length) (R5 : Rd l.length b o c R w5 j 0 0) (hwf : wf = put6 w5 RES a0 a1 a2 a3 a4 a5) (he : e = .returned (.tuple #[aggJ (kk : Int) x t none 0 0 none 0 0 0, .bool true])) : ValP (n + 1) l b o c R w rr e wf := by
  subst hwf
  exact ⟨but_put B05 hRES.1 .., .inl ⟨_, _, j, hr, hj, he, JAt.leaf n _ _ kk x t 0, rd_put R5 (by omega) ..⟩⟩
theorem leaf_bad {n : Nat} {l : Bs} {b o c R : Nat} {w w5 wf : World} {j k a RES m q m2 q2 : Nat} {kk x0 aa : Int} {t0 : Bs} {p p2 : Option Addr} {rr : PJ Js} {e : Ending} {a0 a1 a2 a3 a4 a5 : Value}
    (B05 : But R w w5) (hRES : w.heap.size ≤ RES ∧ R < w.heap.size) (hr : rr = .bad k a) (R5 : Rd l.length b o c R w5 j (k : Int) (a : Int)) (hwf : wf = put6 w5 RES a0 a1 a2 a3 a4 a5) (he : e = .returned (.tuple #[aggJ kk x0 t0 p m q p2 m2 q2 aa, .bool false])) : ValP n l b o c R w rr e wf := by
  subst hwf
  exact ⟨but_put B05 hRES.1 .., .inr ⟨k, a, j, _, _, _, _, _, _, _, _, _, _, hr, he, rd_put R5 (by omega) ..⟩⟩
/-- A value that is handed on. -/
theorem pass_fin {n : Nat} {l : Bs} {b o c R : Nat} {w w1 w2 wf : World} {j RES : Nat} {v : Value} {x : Js} {rr : PJ Js} {e : Ending} {a0 a1 a2 a3 a4 a5 : Value}
    (B01 : But R w w1) (B12 : But R w1 w2) (hRES : w.heap.size ≤ RES ∧ R < w.heap.size ∧ RES < w1.heap.size) (hr : rr = .ok x j (l.drop j)) (hj : j ≤ l.length) (hx : JAt n w2 (Mid w1.heap.size w2.heap.size) v x) (R5 : Rd l.length b o c R w2 j 0 0) (hwf : wf = put6 w2 RES a0 a1 a2 a3 a4 a5) (he : e = .returned (.tuple #[v, .bool true])) : ValP n l b o c R w rr e wf := by
  subst hwf
  have hk := mid_keep (a := w1.heap.size) (b := w2.heap.size) (a2 := w.heap.size) (b2 := (put6 w2 RES a0 a1 a2 a3 a4 a5).heap.size) (w := w2) (RES := RES) B01.size (Nat.le_of_eq (put6_size ..).symm) hRES.2.2 (put6_keep a0 a1 a2 a3 a4 a5)
  exact ⟨but_put (B01.trans B12) hRES.1 .., .inl ⟨x, v, j, hr, hj, he, hx.keep hk, rd_put R5 (by omega) ..⟩⟩
theorem byte_ne {y : UInt8} (k : Nat) (hk : k < 256) (h : y ≠ UInt8.ofNat k) : ¬ ((y.toNat : Int) = (k : Int)) := fun e => h ((byte_is hk).1 e)
theorem bareR_nil {room : Nat} {l : Bs} {i : Nat} (h : l[i]? = none) : bareR room l i = .bad 1 i := by
  unfold bareR
  rw [List.drop_eq_nil_of_le (List.getElem?_eq_none_iff.1 h)]
  unfold valueJ
  rfl
theorem bareR_cons {room : Nat} {l : Bs} {i : Nat} {y : UInt8} (h : l[i]? = some y) : bareR room l i = (valueJ room i (y :: l.drop (i + 1))).andThen fun x j t => .ok (at0 x) j t := by
  unfold bareR
  rw [drop_at h]
theorem bareR_word {room : Nat} {l : Bs} {i : Nat} {y : UInt8} (h : l[i]? = some y) (q : Bs) (k : Nat) (hq : (y = 110 ∧ q = [110, 117, 108, 108] ∧ k = 1) ∨ (y = 116 ∧ q = [116, 114, 117, 101] ∧ k = 3) ∨ (y = 102 ∧ q = [102, 97, 108, 115, 101] ∧ k = 2)) :
    bareR room l i = (wordJ q i (l.drop i)).andThen fun _ j t => .ok (.mk k 0 [] [] [] 0) j t := by
  rw [bareR_cons h, drop_at h]
  rcases hq with ⟨rfl, rfl, rfl⟩ | ⟨rfl, rfl, rfl⟩ | ⟨rfl, rfl, rfl⟩
  all_goals
    unfold valueJ
    rw [if_neg (by decide), if_neg (by decide), if_neg (by decide)]
    simp only [reduceIte, show ((116 : UInt8) = 110) = False from eq_false (by decide), show ((102 : UInt8) = 110) = False from eq_false (by decide), show ((102 : UInt8) = 116) = False from eq_false (by decide)]
    cases wordJ _ i (_ :: l.drop (i + 1)) <;> rfl
theorem bareR_text {room : Nat} {l : Bs} {i : Nat} (h : l[i]? = some 34) : bareR room l i = (textJ i (l.drop i)).andThen fun x j t => .ok (.mk 5 0 x [] [] 0) j t := by
  rw [bareR_cons h, drop_at h]
  unfold valueJ
  rw [if_neg (by decide), if_pos rfl]
  cases textJ i (34 :: l.drop (i + 1)) <;> rfl
theorem bareR_num {room : Nat} {l : Bs} {i : Nat} {y : UInt8} (h : l[i]? = some y) (hy : y = 45 ∨ digitJ y = true) : bareR room l i = numP l i := by
  have h1 : ¬ (y = 91 ∨ y = 123) := fun e => by rcases e with rfl | rfl <;> exact absurd hy (by decide)
  have h2 : ¬ (y = 34) := fun e => by subst e; exact absurd hy (by decide)
  rw [bareR_cons h]
  unfold numP
  rw [drop_at h]
  unfold valueJ
  rw [if_neg h1, if_neg h2, if_pos hy]
  cases numJ ((y :: l.drop (i + 1)).takeWhile tailJ) <;> rfl
theorem bareR_else {room : Nat} {l : Bs} {i : Nat} {y : UInt8} (h : l[i]? = some y) (h1 : ¬ (y = 91 ∨ y = 123)) (h2 : ¬ (y = 34)) (h3 : ¬ (y = 45 ∨ digitJ y = true)) (h4 : ¬ (y = 110)) (h5 : ¬ (y = 116)) (h6 : ¬ (y = 102)) : bareR room l i = .bad 1 i := by
  rw [bareR_cons h]
  unfold valueJ
  rw [if_neg h1, if_neg h2, if_neg h3, if_neg h4, if_neg h5, if_neg h6]
  rfl
theorem bareR_list {room : Nat} {l : Bs} {i : Nat} (h : l[i]? = some 91) (hr : room ≤ 64) : bareR room l i = listR (valueJ (room - 1)) l (64 - room) i := by
  rw [bareR_cons h]
  unfold listR insR valueJ
  rw [if_pos (.inl rfl)]
  cases room with
  | zero => rfl
  | succ q =>
    have hlen : (l.drop i).length + 1 = l.length - i + 1 := by simp
    rw [if_neg (by omega)]
    show (groupJ (valueJ q) ((91 : UInt8) == 123) i (91 :: l.drop (i + 1))).andThen _ = _
    rw [show ((91 : UInt8) == 123) = false from rfl]
    unfold groupJ
    rw [← drop_at h, List.tail_drop]
    cases hk : skipJ 0 0 (i + 1) (l.drop (i + 1)) with
    | bad k a => rfl
    | ok u j t =>
      simp only [PJ.andThen_ok, Bool.false_eq_true, if_false]
      by_cases ht : t.head? = some 93
      · rw [if_pos ht, if_pos ht]; rfl
      · rw [if_neg ht, if_neg ht, items_loop _ _ _ (by decide), hlen]
        rw [show q + 1 - 1 = q from rfl]
        cases loopJ (stepJ (valueJ q) false) 93 (l.length - i + 1) ([], []) j t with
        | bad k a => rfl
        | ok s2 j2 t2 => rfl
theorem bareR_map {room : Nat} {l : Bs} {i : Nat} (h : l[i]? = some 123) (hr : room ≤ 64) : bareR room l i = mapR (valueJ (room - 1)) l (64 - room) i := by
  rw [bareR_cons h]
  unfold mapR insR valueJ
  rw [if_pos (.inr rfl)]
  cases room with
  | zero => rfl
  | succ q =>
    have hlen : (l.drop i).length + 1 = l.length - i + 1 := by simp
    rw [if_neg (by omega)]
    show (groupJ (valueJ q) ((123 : UInt8) == 123) i (123 :: l.drop (i + 1))).andThen _ = _
    rw [show ((123 : UInt8) == 123) = true from rfl]
    unfold groupJ
    rw [← drop_at h, List.tail_drop]
    cases hk : skipJ 0 0 (i + 1) (l.drop (i + 1)) with
    | bad k a => rfl
    | ok u j t =>
      simp only [PJ.andThen_ok, if_true]
      by_cases ht : t.head? = some 125
      · rw [if_pos ht, if_pos ht]; rfl
      · rw [if_neg ht, if_neg ht, items_loop _ _ _ (by decide), hlen]
        rw [show q + 1 - 1 = q from rfl]
        cases loopJ (stepJ (valueJ q) true) 125 (l.length - i + 1) ([], []) j t <;> rfl
end Go.Proofs.YtgiihljiekagdaaDoor
