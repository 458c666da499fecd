/- Texts of prefixes as plain mathematics: how they are read and told, and that what is told is read as it was. No program stands in this text. -/
import Derived.Test.YtehhhjkajabliaaDoorPm
namespace Go.Proofs.YtehhhjkajabliaaDoor

/-- A text has a byte, first here; or it has it nowhere. -/
theorem first_of (k : UInt8) : ∀ s : Bs, (∃ p r, s = p ++ k :: r ∧ ∀ c ∈ p, c ≠ k) ∨ (∀ c ∈ s, c ≠ k)
  | [] => Or.inr (by simp)
  | b :: s => by
    by_cases hb : b = k
    · exact Or.inl ⟨[], s, by simp [hb], by simp⟩
    · rcases first_of k s with ⟨p, r, rfl, hp⟩ | h
      · exact Or.inl ⟨b :: p, r, rfl, fun c hc => by rcases List.mem_cons.1 hc with rfl | e; exact hb; exact hp c e⟩
      · exact Or.inr fun c hc => by rcases List.mem_cons.1 hc with rfl | e; exact hb; exact h c e
theorem cut1_cases (k : UInt8) (s : Bs) : (s = (Lib.cut s [k]).1 ++ k :: (Lib.cut s [k]).2.1 ∧ (Lib.cut s [k]).2.2 = true ∧ ∀ c ∈ (Lib.cut s [k]).1, c ≠ k) ∨ (Lib.cut s [k] = (s, [], false) ∧ ∀ c ∈ s, c ≠ k) := by
  rcases first_of k s with ⟨p, r, rfl, hp⟩ | h
  · left; rw [cut1_some hp]; exact ⟨rfl, rfl, hp⟩
  · right; exact ⟨cut1_none h, h⟩
theorem cut2_cases (s : Bs) : (s = (Lib.cut s [58, 58]).1 ++ ([58, 58] ++ (Lib.cut s [58, 58]).2.1) ∧ (Lib.cut s [58, 58]).2.2 = true) ∨ (Lib.cut s [58, 58] = (s, [], false)) := by
  rcases Lib.index_spec s [58, 58] with ⟨h, _⟩ | ⟨i, h, _, ho, _⟩
  · right; unfold Lib.cut; rw [h, if_neg (by decide)]
  · left
    unfold Lib.cut
    rw [h, if_pos (by omega), Int.toNat_natCast]
    refine ⟨?_, rfl⟩
    unfold Lib.occAt at ho
    obtain ⟨t, ht⟩ := List.isPrefixOf_iff_prefix.1 ho
    simp only [List.length_cons, List.length_nil]
    rw [← List.drop_drop, ← ht, List.drop_left' (by rfl), ht, List.take_append_drop]
/-- What a group, a number, an address may not hold. -/
def Plain (s : Bs) : Prop := ∀ c ∈ s, c ≠ 47
theorem hexM_plain : ∀ (l : Bs) (acc n : Nat), hexM acc l = some n → Plain l
  | [], _, _, _ => by intro c hc; cases hc
  | c :: r, acc, n, h => by
    unfold hexM at h
    cases hd : hexD c with
    | none => rw [hd] at h; cases h
    | some d =>
      rw [hd] at h
      have ih := hexM_plain r _ n h
      intro b hb
      rcases List.mem_cons.1 hb with rfl | e
      · rintro rfl; rw [show hexD 47 = none by decide] at hd; cases hd
      · exact ih b e
theorem groupV_plain {l : Bs} {n : Nat} (h : groupV l = some n) : Plain l := by
  unfold groupV at h; split at h
  · cases h
  · exact hexM_plain l 0 n h
theorem parseUintM_digits : ∀ (l : Bs) (M acc u : Nat), Lib.parseUintM M acc l = .ok u → ∀ c ∈ l, 48 ≤ c.toNat ∧ c.toNat ≤ 57
  | [], _, _, _, _ => by intro c hc; cases hc
  | c :: r, M, acc, u, h => by
    unfold Lib.parseUintM at h
    split at h
    · rename_i hc
      split at h
      · cases h
      · split at h
        · cases h
        · have ih := parseUintM_digits r M _ u h
          intro b hb
          rcases List.mem_cons.1 hb with rfl | e
          · exact hc
          · exact ih b e
    · cases h
theorem parseUintB_digits {B : Nat} {l : Bs} {u : Nat} (h : Lib.parseUintB B l = .ok u) : ∀ c ∈ l, 48 ≤ c.toNat ∧ c.toNat ≤ 57 := by
  unfold Lib.parseUintB at h; split at h
  · cases h
  · exact parseUintM_digits l _ _ u h
theorem digit_ne {c k : UInt8} (h : 48 ≤ c.toNat ∧ c.toNat ≤ 57) (hk : k.toNat < 48 ∨ 57 < k.toNat) : c ≠ k := by rintro rfl; omega
theorem decV_digits {l : Bs} {n : Nat} (h : decV l = some n) : ∀ c ∈ l, 48 ≤ c.toNat ∧ c.toNat ≤ 57 := by
  unfold decV at h; split at h
  · cases h
  · split at h
    · rename_i u hu; exact parseUintB_digits hu
    · cases h
theorem four4_plain : ∀ (k acc : Nat) (s : Bs) (n : Nat) (z : UInt8), z.toNat < 46 ∨ z.toNat = 47 ∨ 57 < z.toNat → four4 (k + 1) acc s = some n → ∀ c ∈ s, c ≠ z
  | k, acc, s, n, z, hz, h => by
    unfold four4 at h
    cases hd : decV (Lib.cut s [46]).1 with
    | none => rw [hd] at h; cases h
    | some d =>
      rw [hd] at h
      have hp := decV_digits hd
      simp only at h
      split at h
      · cases h
      · rename_i hm
        rcases cut1_cases 46 s with ⟨e, hf, _⟩ | ⟨e, _⟩
        · rw [hf] at hm
          match k, hm, h with
          | 0, hm, _ => simp at hm
          | k + 1, _, h =>
            have ih := four4_plain k _ _ n z hz h
            intro c hc
            rw [e, List.mem_append, List.mem_cons] at hc
            rcases hc with hc | rfl | hc
            · exact digit_ne (hp c hc) (by omega)
            · rintro rfl; simp at hz
            · exact ih c hc
        · rw [e] at hp
          intro c hc
          exact digit_ne (hp c hc) (by omega)
theorem fourV_plain {s : Bs} {n : Nat} (h : fourV s = some n) (z : UInt8) (hz : z.toNat < 46 ∨ z.toNat = 47 ∨ 57 < z.toNat) : ∀ c ∈ s, c ≠ z := four4_plain 3 0 s n z hz h
theorem groupsV_plain (ends : Bool) : ∀ (k : Nat) (all : List Nat) (s : Bs) (l : List Nat), groupsV ends k all s = some l → Plain s
  | 0, _, _, _, h => by cases h
  | k + 1, all, s, l, h => by
    unfold groupsV at h
    split at h
    · rename_i hc
      cases hf : fourV (Lib.cut s [58]).1 with
      | none => rw [hf] at h; cases h
      | some v =>
        have hp := fourV_plain hf 47 (by decide)
        rcases cut1_cases 58 s with ⟨_, hq, _⟩ | ⟨e, _⟩
        · rw [hq] at hc; simp at hc
        · rw [e] at hp; exact hp
    · cases hf : groupV (Lib.cut s [58]).1 with
      | none => rw [hf] at h; cases h
      | some v =>
        rw [hf] at h
        have hp := groupV_plain hf
        simp only at h
        rcases cut1_cases 58 s with ⟨e, hq, _⟩ | ⟨e, _⟩
        · rw [hq, if_pos rfl] at h
          have ih := groupsV_plain ends k _ _ l h
          intro c hc
          rw [e, List.mem_append, List.mem_cons] at hc
          rcases hc with hc | rfl | hc
          · exact hp c hc
          · decide
          · exact ih c hc
        · rw [e] at hp; exact hp
theorem sideV_plain {ends : Bool} {s : Bs} {l : List Nat} (h : sideV ends s = some l) : Plain s := by
  unfold sideV at h; split at h
  · rename_i e; subst e; intro c hc; cases hc
  · exact groupsV_plain ends 8 [] s l h
theorem sixV_plain {s : Bs} {n : Nat} (h : sixV s = some n) : Plain s := by
  unfold sixV at h
  split at h
  · cases hg : groupsV true 8 [] s with
    | none => rw [hg] at h; cases h
    | some l => exact groupsV_plain true 8 [] s l hg
  · rename_i hf
    split at h
    · rename_i f b h1 h2
      rcases cut2_cases s with ⟨e, _⟩ | e
      · have p1 := sideV_plain h1
        have p2 := sideV_plain h2
        intro c hc
        rw [e] at hc
        simp only [List.mem_append, List.mem_cons, List.not_mem_nil, or_false] at hc
        rcases hc with hc | (rfl | rfl) | hc
        · exact p1 c hc
        · decide
        · decide
        · exact p2 c hc
      · rw [e] at hf; exact absurd rfl hf
    · cases h
theorem parseV_plain {s : Bs} {a : Nat × Nat} (h : parseV s = some a) : Plain s := by
  unfold parseV at h
  split at h
  · cases hs : sixV s with
    | none => rw [hs] at h; cases h
    | some n => exact sixV_plain hs
  · cases hs : fourV s with
    | none => rw [hs] at h; cases h
    | some n => exact fourV_plain hs 47 (by decide)
/-- A number of leading bits. -/
def lenV (l : Bs) : Option Nat := if 1 < l.length ∧ l.head? = some 48 then none else match Lib.parseUintB 8 l with
  | .ok u => some u
  | _ => none
def prefM (a : Option (Nat × Nat)) (l : Option Nat) : Option (Nat × Nat × Nat) := match a, l with
  | some (v, x), some n => if okP v x n = true then some (v, x, n) else none
  | _, _ => none
def prefV (s : Bs) : Option (Nat × Nat × Nat) := prefM (parseV (Lib.cut s [47]).1) (lenV (Lib.cut s [47]).2.1)
def tellP (v : Int) (x : Nat) (n : Int) : Bs := if okP v x n = true then tellV v x ++ 47 :: decS n.toNat else []
theorem lenV_decS : ∀ n, n < 129 → lenV (decS n) = some n := by decide +kernel
theorem prefV_ok {s : Bs} {v x n : Nat} (h : prefV s = some (v, x, n)) : okP v x n = true ∧ x < 340282366920938463463374607431768211456 := by
  unfold prefV prefM at h
  split at h
  · rename_i v' x' n' h1 h2
    split at h
    · rename_i hk
      cases h
      exact ⟨hk, (parseV_ok h1).2.1⟩
    · cases h
  · cases h
theorem tellV_plain (v : Int) (x : Nat) (h : okV v x = true) (hx : x < 340282366920938463463374607431768211456) : Plain (tellV v x) := parseV_plain (parse_tell v x h hx)
theorem pref_tell (v : Int) (x : Nat) (n : Int) (h : okP v x n = true) (hx : x < 340282366920938463463374607431768211456) : prefV (tellP v x n) = some (v.toNat, x, n.toNat) := by
  obtain ⟨h1, h2, h3, h4⟩ := okP_is h
  have hn := okP_lt h
  unfold tellP
  rw [if_pos h]
  unfold prefV prefM
  rw [cut1_some (tellV_plain v x h1 hx)]
  simp only
  rw [parse_tell v x h1 hx, lenV_decS _ (by omega)]
  simp only
  have hv : ((v.toNat : Nat) : Int) = v := by rcases okV_v h1 with rfl | rfl <;> rfl
  have hnn : ((n.toNat : Nat) : Int) = n := by omega
  rw [hv, hnn, if_pos h]
theorem tellP_len (v : Int) (x : Nat) (n : Int) : (tellP v x n).length ≤ 104 := by
  unfold tellP; split
  · have := tellV_len v x; have := (decS_len n.toNat).2; simp; omega
  · simp
end Go.Proofs.YtehhhjkajabliaaDoor
