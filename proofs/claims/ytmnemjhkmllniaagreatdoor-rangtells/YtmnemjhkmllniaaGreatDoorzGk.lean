/- Texts of ranges, as plain mathematics: what is told is read as it was. No program stands in this text. -/
import Derived.Test.YtmnemjhkmllniaaGreatDoorzGp
namespace Go.Proofs.YtmnemjhkmllniaaGreatDoor

/-- No dash. -/
def PlainD (s : Bs) : Prop := ∀ c ∈ s, c ≠ 45
theorem hexM_plainD : ∀ (l : Bs) (acc n : Nat), hexM acc l = some n → PlainD l
  | [], _, _, _ => by intro c hc; cases hc
  | c :: r, acc, n, h => by
    unfold hexM at h
    cases hd : hexD c with
    | none => rw [hd] at h; cases h
    | some d =>
      rw [hd] at h
      have ih := hexM_plainD r _ n h
      intro b hb
      rcases List.mem_cons.1 hb with rfl | e
      · rintro rfl; rw [show hexD 45 = none by decide] at hd; cases hd
      · exact ih b e
theorem groupV_plainD {l : Bs} {n : Nat} (h : groupV l = some n) : PlainD l := by
  unfold groupV at h; split at h
  · cases h
  · exact hexM_plainD l 0 n h
theorem groupsV_plainD (ends : Bool) : ∀ (k : Nat) (all : List Nat) (s : Bs) (l : List Nat), groupsV ends k all s = some l → PlainD s
  | 0, _, _, _, h => by cases h
  | k + 1, all, s, l, h => by
    unfold groupsV at h
    split at h
    · rename_i hc
      cases hf : fourV (Lib.cut s [58]).1 with
      | none => rw [hf] at h; cases h
      | some v =>
        have hp := fourV_plain hf 45 (by decide)
        rcases cut1_cases 58 s with ⟨_, hq, _⟩ | ⟨e, _⟩
        · rw [hq] at hc; simp at hc
        · rw [e] at hp; exact hp
    · cases hf : groupV (Lib.cut s [58]).1 with
      | none => rw [hf] at h; cases h
      | some v =>
        rw [hf] at h
        have hp := groupV_plainD hf
        simp only at h
        rcases cut1_cases 58 s with ⟨e, hq, _⟩ | ⟨e, _⟩
        · rw [hq, if_pos rfl] at h
          have ih := groupsV_plainD ends k _ _ l h
          intro c hc
          rw [e, List.mem_append, List.mem_cons] at hc
          rcases hc with hc | rfl | hc
          · exact hp c hc
          · decide
          · exact ih c hc
        · rw [e] at hp; exact hp
theorem sideV_plainD {ends : Bool} {s : Bs} {l : List Nat} (h : sideV ends s = some l) : PlainD s := by
  unfold sideV at h; split at h
  · rename_i e; subst e; intro c hc; cases hc
  · exact groupsV_plainD ends 8 [] s l h
theorem sixV_plainD {s : Bs} {n : Nat} (h : sixV s = some n) : PlainD s := by
  unfold sixV at h
  split at h
  · cases hg : groupsV true 8 [] s with
    | none => rw [hg] at h; cases h
    | some l => exact groupsV_plainD true 8 [] s l hg
  · rename_i hf
    split at h
    · rename_i f b h1 h2
      rcases cut2_cases s with ⟨e, _⟩ | e
      · have p1 := sideV_plainD h1
        have p2 := sideV_plainD h2
        intro c hc
        rw [e] at hc
        simp only [List.mem_append, List.mem_cons, List.not_mem_nil, or_false] at hc
        rcases hc with hc | (rfl | rfl) | hc
        · exact p1 c hc
        · decide
        · decide
        · exact p2 c hc
      · rw [e] at hf; exact absurd rfl hf
    · cases h
theorem parseV_plainD {s : Bs} {a : Nat × Nat} (h : parseV s = some a) : PlainD s := by
  unfold parseV at h
  split at h
  · cases hs : sixV s with
    | none => rw [hs] at h; cases h
    | some n => exact sixV_plainD hs
  · cases hs : fourV s with
    | none => rw [hs] at h; cases h
    | some n => exact fourV_plain hs 45 (by decide)
theorem tellV_plainD (v : Int) (x : Nat) (h : okV v x = true) (hx : x < 340282366920938463463374607431768211456) : PlainD (tellV v x) := parseV_plainD (parse_tell v x h hx)
theorem rang_tell (v : Int) (x y : Nat) (h : okR v x v y = true) (hx : x < 340282366920938463463374607431768211456) (hy : y < 340282366920938463463374607431768211456) : rangV (tellR v x v y) = some (v.toNat, x, y) := by
  obtain ⟨h1, h2, _, h4⟩ := okR_is h
  unfold tellR
  rw [if_pos h]
  unfold rangV
  rw [List.append_assoc, List.singleton_append, cut1_some (tellV_plainD v x h1 hx)]
  simp only
  rw [parse_tell v x h1 hx, parse_tell v y h2 hy]
  have hv : ((v.toNat : Nat) : Int) = v := by rcases okV_v h1 with rfl | rfl <;> rfl
  simp only [rangM]
  rw [hv, if_pos h]
theorem tellR_len (v : Int) (x : Nat) (u : Int) (y : Nat) : (tellR v x u y).length ≤ 201 := by
  unfold tellR
  split
  · have := tellV_len v x; have := tellV_len u y; simp; omega
  · simp
end Go.Proofs.YtmnemjhkmllniaaGreatDoor
