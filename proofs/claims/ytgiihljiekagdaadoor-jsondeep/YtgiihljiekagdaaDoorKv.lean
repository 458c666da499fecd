/- Values in memory (package api's Json: six cells each). -/
import Derived.Test.YtgiihljiekagdaaDoorKp
namespace Go.Proofs.YtgiihljiekagdaaDoor
open Go.ChangeShapes Go.WideShapes Go.RowKit Go.Sort
/-- A value, as it is handed about. -/
def aggJ (k : Int) (x : Int) (t : Bs) (pl : Option Addr) (nl cl : Nat) (pq : Option Addr) (nq cq : Nat) (a : Int) : Value :=
  .agg #[.int .i64 k, .int .i64 x, .string (baS t), .slice pl nl cl, .slice pq nq cq, .int .i64 a]
/-- Names lie in blocks of S. -/
def StrsIn (w : World) (S : Nat → Prop) (p : Option Addr) (q : List Bs) : Prop :=
  ∀ (j : Nat) (s : Bs), q[j]? = some s → ∃ g o, p = some ⟨g, o, none⟩ ∧ S g ∧ w.cell? ⟨g, o + j, none⟩ = some (.string (baS s))
/-- Values lie in blocks of S, each as P says. -/
def RowIn (P : Value → Js → Prop) (w : World) (S : Nat → Prop) (p : Option Addr) (l : List Js) : Prop :=
  ∀ (j : Nat) (u : Js), l[j]? = some u → ∃ g o c0 c1 c2 c3 c4 c5, p = some ⟨g, o, none⟩ ∧ S g ∧ w.cell? ⟨g, o + 6 * j, none⟩ = some c0 ∧ w.cell? ⟨g, o + 6 * j + 1, none⟩ = some c1 ∧
    w.cell? ⟨g, o + 6 * j + 2, none⟩ = some c2 ∧ w.cell? ⟨g, o + 6 * j + 3, none⟩ = some c3 ∧ w.cell? ⟨g, o + 6 * j + 4, none⟩ = some c4 ∧ w.cell? ⟨g, o + 6 * j + 5, none⟩ = some c5 ∧ P (.agg #[c0, c1, c2, c3, c4, c5]) u
/-- A value lies in blocks of S (the first argument: more than how deep it is). -/
def JAt : Nat → World → (Nat → Prop) → Value → Js → Prop
  | 0, _, _, _, _ => False
  | n + 1, w, S, v, .mk k x t l q a => ∃ (pl pq : Option Addr) (cl cq : Nat), v = aggJ (k : Int) x t pl l.length cl pq q.length cq (a : Int) ∧ l.length ≤ cl ∧ q.length ≤ cq ∧ StrsIn w S pq q ∧ RowIn (JAt n w S) w S pl l
theorem StrsIn.keep {w w' : World} {S T : Nat → Prop} {p : Option Addr} {q : List Bs} (h : StrsIn w S p q) (hS : ∀ g, S g → T g ∧ (∀ o, w'.cell? ⟨g, o, none⟩ = w.cell? ⟨g, o, none⟩)) : StrsIn w' T p q := fun j s hj => by
  obtain ⟨g, o, h1, h2, h3⟩ := h j s hj
  exact ⟨g, o, h1, (hS g h2).1, ((hS g h2).2 _).trans h3⟩
theorem JAt.keep : ∀ {n : Nat} {w w' : World} {S T : Nat → Prop} {v : Value} {x : Js}, JAt n w S v x → (∀ g, S g → T g ∧ (∀ o, w'.cell? ⟨g, o, none⟩ = w.cell? ⟨g, o, none⟩)) → JAt n w' T v x
  | 0, _, _, _, _, _, _, h, _ => h.elim
  | n + 1, w, w', S, T, v, .mk k x t l q a, h, hS => by
    obtain ⟨pl, pq, cl, cq, h1, h2, h3, h4, h5⟩ := h
    refine ⟨pl, pq, cl, cq, h1, h2, h3, h4.keep hS, fun j u hj => ?_⟩
    obtain ⟨g, o, c0, c1, c2, c3, c4, c5, e, hs, k0, k1, k2, k3, k4, k5, hu⟩ := h5 j u hj
    have hk := (hS g hs).2
    exact ⟨g, o, c0, c1, c2, c3, c4, c5, e, (hS g hs).1, (hk _).trans k0, (hk _).trans k1, (hk _).trans k2, (hk _).trans k3, (hk _).trans k4, (hk _).trans k5, JAt.keep hu hS⟩
theorem RowIn.keep {n : Nat} {w w' : World} {S T : Nat → Prop} {p : Option Addr} {l : List Js} (h : RowIn (JAt n w S) w S p l) (hS : ∀ g, S g → T g ∧ (∀ o, w'.cell? ⟨g, o, none⟩ = w.cell? ⟨g, o, none⟩)) : RowIn (JAt n w' T) w' T p l := fun j u hj => by
  obtain ⟨g, o, c0, c1, c2, c3, c4, c5, e, hs, k0, k1, k2, k3, k4, k5, hu⟩ := h j u hj
  have hk := (hS g hs).2
  exact ⟨g, o, c0, c1, c2, c3, c4, c5, e, (hS g hs).1, (hk _).trans k0, (hk _).trans k1, (hk _).trans k2, (hk _).trans k3, (hk _).trans k4, (hk _).trans k5, hu.keep hS⟩
theorem JAt.more : ∀ {n : Nat} {w : World} {S : Nat → Prop} {v : Value} {x : Js}, JAt n w S v x → JAt (n + 1) w S v x
  | 0, _, _, _, _, h => h.elim
  | n + 1, w, S, v, .mk k x t l q a, h => by
    obtain ⟨pl, pq, cl, cq, h1, h2, h3, h4, h5⟩ := h
    refine ⟨pl, pq, cl, cq, h1, h2, h3, h4, fun j u hj => ?_⟩
    obtain ⟨g, o, c0, c1, c2, c3, c4, c5, e, hs, k0, k1, k2, k3, k4, k5, hu⟩ := h5 j u hj
    exact ⟨g, o, c0, c1, c2, c3, c4, c5, e, hs, k0, k1, k2, k3, k4, k5, JAt.more hu⟩
/-- A value that is in none. -/
theorem JAt.leaf (n : Nat) (w : World) (S : Nat → Prop) (k : Nat) (x : Int) (t : Bs) (a : Nat) : JAt (n + 1) w S (aggJ (k : Int) x t none 0 0 none 0 0 (a : Int)) (.mk k x t [] [] a) :=
  ⟨none, none, 0, 0, rfl, Nat.le_refl _, Nat.le_refl _, fun j s hj => by simp at hj, fun j u hj => by simp at hj⟩
/-- What was laid between two sizes of memory. -/
def Mid (a b : Nat) : Nat → Prop := fun g => a ≤ g ∧ g < b
/-- What a value that is read is, or what is wrong. -/
def ValP (n : Nat) (l : Bs) (b o c R : Nat) (w : World) (r : PJ Js) (e : Ending) (w' : World) : Prop :=
  But R w w' ∧ ((∃ (x : Js) (v : Value) (j : Nat), r = .ok x j (l.drop j) ∧ j ≤ l.length ∧ e = .returned (.tuple #[v, .bool true]) ∧ JAt n w' (Mid w.heap.size w'.heap.size) v x ∧ Rd l.length b o c R w' j 0 0) ∨
    ∃ (k a j : Nat) (k0 x0 a0 : Int) (t0 : Bs) (pl : Option Addr) (nl cl : Nat) (pq : Option Addr) (nq cq : Nat), r = .bad k a ∧ e = .returned (.tuple #[aggJ k0 x0 t0 pl nl cl pq nq cq a0, .bool false]) ∧ Rd l.length b o c R w' j (k : Int) (a : Int))
end Go.Proofs.YtgiihljiekagdaaDoor
