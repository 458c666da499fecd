/- Values that are the same (chapter 11), and the values that the laws make of numbers, as mathematics. -/
import Derived.Test.YtgiihljiekagdaaDoorJm
namespace Go.Proofs.YtgiihljiekagdaaDoor
/-- Names without a double, each among as many others: the others are among them. -/
theorem sub_back {α : Type} [DecidableEq α] : ∀ (a b : List α), a.Nodup → (∀ x ∈ a, x ∈ b) → b.length ≤ a.length → ∀ x ∈ b, x ∈ a
  | [], b, _, _, h, x, hx => by
    have : b = [] := List.length_eq_zero_iff.1 (by simpa using h)
    subst this; simp at hx
  | y :: a, b, hn, hs, h, x, hx => by
    have hn2 := List.nodup_cons.1 hn
    have hy : y ∈ b := hs y (by simp)
    have hl : (b.erase y).length = b.length - 1 := List.length_erase_of_mem hy
    have ih := sub_back a (b.erase y) hn2.2 (fun z hz => by
      have hne : z ≠ y := fun e => hn2.1 (e ▸ hz)
      exact (List.mem_erase_of_ne hne).2 (hs z (by simp [hz]))) (by simp at h; omega)
    by_cases e : x = y
    · simp [e]
    · have := ih x ((List.mem_erase_of_ne e).2 hx)
      simp [this]
/-- Where a name stands. -/
def keyJ (s : Bs) : List Bs → Option Nat
  | [] => none
  | x :: q => if x = s then some 0 else (keyJ s q).map (· + 1)
theorem keyJ_some : ∀ {q : List Bs} {s : Bs} {k : Nat}, keyJ s q = some k → q[k]? = some s
  | [], s, k, h => by simp [keyJ] at h
  | x :: q, s, k, h => by
    unfold keyJ at h
    split at h
    · rename_i e; cases h; simp [e]
    · cases hk : keyJ s q with
      | none => rw [hk] at h; cases h
      | some j => rw [hk] at h; simp at h; subst h; simpa using keyJ_some hk
theorem keyJ_at : ∀ {q : List Bs} {s : Bs} {k : Nat}, q.Nodup → q[k]? = some s → keyJ s q = some k
  | [], s, k, _, h => by simp at h
  | x :: q, s, 0, _, h => by simp at h; simp [keyJ, h]
  | x :: q, s, k + 1, hn, h => by
    have hn2 := List.nodup_cons.1 hn
    have hq : q[k]? = some s := by simpa using h
    have hm : s ∈ q := List.mem_of_getElem? hq
    have hne : x ≠ s := fun e => hn2.1 (e ▸ hm)
    simp [keyJ, hne, keyJ_at hn2.2 hq]
theorem keyJ_none {q : List Bs} {s : Bs} (h : keyJ s q = none) : s ∉ q := by
  induction q with
  | nil => simp
  | cons x q ih =>
    unfold keyJ at h
    split at h
    · cases h
    · rename_i e
      simp at h
      simp [ih h, Ne.symm e]
/-- A value as laws make it, so deep at most. -/
def okJ : Nat → Js → Prop
  | 0, _ => False
  | n + 1, .mk k _ _ l q _ => (∀ v ∈ l, okJ n v) ∧ q.length = (if k = 7 then l.length else 0) ∧ q.Nodup
/-- With which of the other's a value is matched. -/
def mateJ (k : Nat) (qa qb : List Bs) (i : Nat) : Option Nat :=
  if k = 7 then (match qa[i]? with | some s => keyJ s qb | none => some i) else some i
/-- The same, but for places; the first argument: more than how deep they are. -/
def sameV : Nat → Js → Js → Bool
  | 0, _, _ => false
  | n + 1, .mk k x t l q _, .mk k2 x2 t2 l2 q2 _ =>
    k == k2 && x == x2 && t == t2 && l.length == l2.length && q.length == q2.length &&
      (List.range l.length).all fun i => match mateJ k q q2 i with
        | none => false
        | some j => match l[i]?, l2[j]? with | some u, some v => sameV n u v | _, _ => false
theorem sameV_is {n k k2 : Nat} {x x2 : Int} {t t2 : Bs} {l l2 : List Js} {q q2 : List Bs} {a a2 : Nat} : sameV (n + 1) (.mk k x t l q a) (.mk k2 x2 t2 l2 q2 a2) = true ↔
    k = k2 ∧ x = x2 ∧ t = t2 ∧ l.length = l2.length ∧ q.length = q2.length ∧ ∀ i, i < l.length → ∃ j u v, mateJ k q q2 i = some j ∧ l[i]? = some u ∧ l2[j]? = some v ∧ sameV n u v = true := by
  simp only [sameV, Bool.and_eq_true, beq_iff_eq, List.all_eq_true, List.mem_range, and_assoc]
  refine and_congr_right fun _ => and_congr_right fun _ => and_congr_right fun _ => and_congr_right fun _ => and_congr_right fun _ => ⟨fun h i hi => ?_, fun h i hi => ?_⟩
  · have := h i hi
    cases hm : mateJ k q q2 i with
    | none => rw [hm] at this; cases this
    | some j =>
      rw [hm] at this
      cases h1 : l[i]? with
      | none => simp [h1] at this
      | some u =>
        cases h2 : l2[j]? with
        | none => simp [h1, h2] at this
        | some v => simp only [h1, h2] at this; exact ⟨j, u, v, rfl, rfl, h2, this⟩
  · obtain ⟨j, u, v, h1, h2, h3, h4⟩ := h i hi
    simp only [h1, h2, h3, h4]
theorem same_self : ∀ (n : Nat) (a : Js), okJ n a → sameV n a a = true
  | 0, _, h => h.elim
  | n + 1, .mk k x t l q a, h => by
    obtain ⟨hl, hq, hn⟩ := h
    refine sameV_is.2 ⟨rfl, rfl, rfl, rfl, rfl, fun i hi => ⟨i, l[i], l[i], ?_, List.getElem?_eq_getElem hi, List.getElem?_eq_getElem hi, same_self n _ (hl _ (List.getElem_mem hi))⟩⟩
    unfold mateJ
    split
    · cases hs : q[i]? with
      | none => rfl
      | some s => exact keyJ_at hn hs
    · rfl
theorem same_turn : ∀ (n : Nat) (a b : Js), okJ n a → okJ n b → sameV n a b = true → sameV n b a = true
  | 0, _, _, h, _, _ => h.elim
  | n + 1, .mk k x t l q a, .mk k2 x2 t2 l2 q2 a2, ha, hb, h => by
    obtain ⟨rfl, rfl, rfl, hl, hq, hi⟩ := sameV_is.1 h
    obtain ⟨hal, haq, han⟩ := ha
    obtain ⟨hbl, hbq, hbn⟩ := hb
    refine sameV_is.2 ⟨rfl, rfl, rfl, hl.symm, hq.symm, fun j hj => ?_⟩
    by_cases hk : k = 7
    · rw [if_pos hk] at haq hbq
      have hsub : ∀ s ∈ q, s ∈ q2 := fun s hs => by
        obtain ⟨i, hlt, rfl⟩ := List.getElem_of_mem hs
        obtain ⟨j, u, v, h1, _, _, _⟩ := hi i (by omega)
        unfold mateJ at h1
        rw [if_pos hk, List.getElem?_eq_getElem hlt] at h1
        exact List.mem_of_getElem? (keyJ_some h1)
      have hback := sub_back q q2 han hsub (by omega)
      have hjq : j < q2.length := by omega
      obtain ⟨i, hlt, he⟩ := List.getElem_of_mem (hback q2[j] (List.getElem_mem hjq))
      obtain ⟨j2, u, v, h1, h2, h3, h4⟩ := hi i (by omega)
      have h1' := h1
      unfold mateJ at h1'
      rw [if_pos hk, List.getElem?_eq_getElem hlt, he] at h1'
      have hj2 := keyJ_at hbn (List.getElem?_eq_getElem hjq)
      simp only [hj2] at h1'
      cases h1'
      refine ⟨i, v, u, ?_, h3, h2, same_turn n u v (hal u (List.mem_of_getElem? h2)) (hbl v (List.mem_of_getElem? h3)) h4⟩
      unfold mateJ
      rw [if_pos hk, List.getElem?_eq_getElem hjq]
      exact keyJ_at han (by rw [List.getElem?_eq_getElem hlt, he])
    · obtain ⟨j2, u, v, h1, h2, h3, h4⟩ := hi j (by omega)
      unfold mateJ at h1
      rw [if_neg hk] at h1
      cases h1
      exact ⟨j, v, u, by unfold mateJ; rw [if_neg hk], h3, h2, same_turn n u v (hal u (List.mem_of_getElem? h2)) (hbl v (List.mem_of_getElem? h3)) h4⟩
theorem same_comm {n : Nat} {a b : Js} (ha : okJ n a) (hb : okJ n b) : sameV n a b = sameV n b a := by
  cases h : sameV n a b with
  | true => exact (same_turn n a b ha hb h).symm
  | false =>
    cases h2 : sameV n b a with
    | false => rfl
    | true => rw [same_turn n b a hb ha h2] at h; cases h
/-- A map whose names stand the other way round. -/
theorem same_rev {n : Nat} {x : Int} {t : Bs} {l : List Js} {q : List Bs} {a a2 : Nat} (h : okJ (n + 1) (.mk 7 x t l q a)) :
    okJ (n + 1) (.mk 7 x t l.reverse q.reverse a2) ∧ sameV (n + 1) (.mk 7 x t l q a) (.mk 7 x t l.reverse q.reverse a2) = true := by
  obtain ⟨hl, hq, hn⟩ := h
  simp at hq
  refine ⟨⟨fun v hv => hl v (by simpa using hv), by simp [hq], List.pairwise_reverse.2 (hn.imp Ne.symm)⟩, sameV_is.2 ⟨rfl, rfl, rfl, by simp, by simp, fun i hi => ?_⟩⟩
  refine ⟨l.length - 1 - i, l[i], l[i], ?_, List.getElem?_eq_getElem hi, ?_, same_self n _ (hl _ (List.getElem_mem hi))⟩
  · have hiq : i < q.length := by omega
    unfold mateJ
    rw [if_pos rfl, List.getElem?_eq_getElem hiq]
    refine keyJ_at (List.pairwise_reverse.2 (hn.imp Ne.symm)) ?_
    rw [List.getElem?_reverse (by omega)]
    rw [show q.length - 1 - (l.length - 1 - i) = i by omega, List.getElem?_eq_getElem hiq]
  · rw [List.getElem?_reverse (by omega)]
    rw [show l.length - 1 - (l.length - 1 - i) = i by omega, List.getElem?_eq_getElem hi]
end Go.Proofs.YtgiihljiekagdaaDoor
