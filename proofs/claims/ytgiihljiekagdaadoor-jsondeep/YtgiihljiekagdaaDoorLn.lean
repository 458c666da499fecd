/- Package json: what a list, and a map, that is read is. -/
import Derived.Test.YtgiihljiekagdaaDoorLm
namespace Go.Proofs.YtgiihljiekagdaaDoor
open Go.ChangeShapes Go.WideShapes Go.RowKit Go.Sort
theorem six_len : ∀ {n : Nat} {w : World} {S : Nat → Prop} {v : Value} {x : Js}, JAt n w S v x → (six v).length = 6
  | 0, _, _, _, _, h => h.elim
  | n + 1, w, S, v, .mk k x t l q a, h => by obtain ⟨pl, pq, cl, cq, rfl, _⟩ := h; rfl
theorem six_agg {n : Nat} {w : World} {S : Nat → Prop} {v : Value} {x : Js} (h : JAt n w S v x) : ∃ c0 c1 c2 c3 c4 c5, v = .agg #[c0, c1, c2, c3, c4, c5] := by
  cases n with
  | zero => exact h.elim
  | succ n => obtain ⟨k, xx, t, l, q, a⟩ := x; obtain ⟨pl, pq, cl, cq, rfl, _⟩ := h; exact ⟨_, _, _, _, _, _, rfl⟩
theorem flat_at : ∀ (vals : List Value) (j i : Nat) (v : Value), (∀ u ∈ vals, (six u).length = 6) → vals[j]? = some v → i < 6 → (vals.flatMap six)[6 * j + i]? = (six v)[i]?
  | [], j, i, v, _, h, _ => by simp at h
  | a :: r, 0, i, v, hl, h, hi => by
    have ha := hl a (by simp)
    simp at h; subst h
    rw [List.flatMap_cons, List.getElem?_append_left (by omega)]; simp
  | a :: r, j + 1, i, v, hl, h, hi => by
    have ha := hl a (by simp)
    rw [List.flatMap_cons, List.getElem?_append_right (by omega), ha]
    have : 6 * (j + 1) + i - 6 = 6 * j + i := by omega
    rw [this]
    exact flat_at r j i v (fun u hu => hl u (by simp [hu])) (by simpa using h) hi
/-- A row of values that is ready. -/
theorem VRow.row {n : Nat} {w : World} {base m q : Nat} {p : Option Addr} {vs : List Js} {A : Nat → Prop} (h : VRow n w base (.slice p m q) vs A) : m = vs.length ∧ vs.length ≤ q ∧ RowIn (JAt n w (Mid base w.heap.size)) w (Mid base w.heap.size) p vs := by
  obtain ⟨cs, S, h1, ⟨vals, v1, v2, v3⟩, h3⟩ := h
  obtain ⟨p', q', he, hq⟩ := own_slice h1
  injection he with e1 e2 e3
  subst e1 e2 e3
  refine ⟨rfl, hq, fun j u hj => ?_⟩
  have hlt := (List.getElem?_eq_some_iff.1 hj).1
  have hs6 : ∀ u ∈ vals, (six u).length = 6 := fun y hy => by
    obtain ⟨k, hk, rfl⟩ := List.getElem_of_mem hy
    exact six_len (v3 k (vs[k]'(by omega)) (vals[k]) (List.getElem?_eq_getElem (by omega)) (List.getElem?_eq_getElem hk))
  have hv : vals[j]? = some (vals[j]'(by omega)) := List.getElem?_eq_getElem (by omega)
  have hJ := v3 j u _ hj hv
  obtain ⟨c0, c1, c2, c3, c4, c5, e⟩ := six_agg hJ
  rw [e] at hv hJ
  rcases h1.2 with ⟨_, h0⟩ | ⟨g, cap, cur, hg, hb, hc, _⟩
  · omega
  · injection hg with g1 g2 g3
    subst g1 g3
    have hgl : g < w.heap.size := (Array.getElem?_eq_some_iff.1 hc).1
    have hat : ∀ i, i < 6 → w.cell? ⟨g, 6 * j + i, none⟩ = (six (.agg #[c0, c1, c2, c3, c4, c5]))[i]? := fun i hi => by
      rw [h1.cellAt (6 * j + i) (by omega), v2]; exact flat_at vals j i _ hs6 hv hi
    refine ⟨g, 0, c0, c1, c2, c3, c4, c5, rfl, ⟨hb, hgl⟩, ?_, ?_, ?_, ?_, ?_, ?_, hJ.keep fun g hg => ⟨⟨(h3 g hg).1, (h3 g hg).2.1⟩, fun _ => rfl⟩⟩
    · rw [Nat.zero_add]; exact (hat 0 (by omega)).trans rfl
    · rw [Nat.zero_add]; exact (hat 1 (by omega)).trans rfl
    · rw [Nat.zero_add]; exact (hat 2 (by omega)).trans rfl
    · rw [Nat.zero_add]; exact (hat 3 (by omega)).trans rfl
    · rw [Nat.zero_add]; exact (hat 4 (by omega)).trans rfl
    · rw [Nat.zero_add]; exact (hat 5 (by omega)).trans rfl
/-- A row of names that is ready. -/
theorem keys_row {w : World} {base m q : Nat} {p : Option Addr} {ks : List Bs} (h : w.ownsRow base 9 1 (.slice p m q) ks.length (keyC ks)) : m = ks.length ∧ ks.length ≤ q ∧ StrsIn w (Mid base w.heap.size) p ks := by
  obtain ⟨p', q', he, hq⟩ := own_slice h
  injection he with e1 e2 e3
  subst e1 e2 e3
  refine ⟨rfl, hq, fun j s hj => ?_⟩
  have hlt := (List.getElem?_eq_some_iff.1 hj).1
  rcases h.2 with ⟨_, h0⟩ | ⟨g, cap, cur, hg, hb, hc, _⟩
  · omega
  · injection hg with g1 g2 g3
    subst g1 g3
    refine ⟨g, 0, rfl, ⟨hb, (Array.getElem?_eq_some_iff.1 hc).1⟩, ?_⟩
    rw [Nat.zero_add, h.cellAt j (by omega)]
    unfold keyC
    rw [List.getElem?_map, hj]; rfl
theorem VRow.none (n : Nat) (w : World) (base : Nat) (A : Nat → Prop) : VRow n w base (.slice none 0 0) [] A :=
  ⟨[], fun _ => False, ⟨rfl, .inl ⟨rfl, rfl⟩⟩, ⟨[], rfl, rfl, fun j u v hu => by simp at hu⟩, fun g hg => hg.elim⟩
theorem keys_none (w : World) (base : Nat) : w.ownsRow base 9 1 (.slice none 0 0) 0 (keyC []) := ⟨rfl, .inl ⟨rfl, rfl⟩⟩
/-- What a list says that is read, without its place. -/
def listR (vf : Nat → Bs → PJ Js) (l : Bs) (inn i : Nat) : PJ Js := (insR (stepJ vf false) l 93 ([], []) inn i).andThen fun s j t => .ok (.mk 6 0 [] s.1 s.2 0) j t
def mapR (vf : Nat → Bs → PJ Js) (l : Bs) (inn i : Nat) : PJ Js := (insR (stepJ vf true) l 125 ([], []) inn i).andThen fun s j t => .ok (.mk 7 0 [] s.1 s.2 0) j t
theorem step_size {vf : Nat → Bs → PJ Js} {m : Bool} {s s2 : List Js × List Bs} {i j : Nat} {t t2 : Bs} (h : stepJ vf m s i t = .ok s2 j t2) : s2.1.length = s.1.length + 1 := by
  unfold stepJ at h
  obtain ⟨a1, b1, d1, g1, g2⟩ := PJ.then_ok h
  obtain ⟨a2, b2, d2, g3, g4⟩ := PJ.then_ok g2
  obtain ⟨a3, b3, d3, g5, g6⟩ := PJ.then_ok g4
  cases g6
  simp
end Go.Proofs.YtgiihljiekagdaaDoor
