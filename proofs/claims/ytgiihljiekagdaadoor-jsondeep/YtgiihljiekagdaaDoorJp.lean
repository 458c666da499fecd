/- What is read lies behind where reading began, as mathematics. -/
import Derived.Test.YtgiihljiekagdaaDoorJm
namespace Go.Proofs.YtgiihljiekagdaaDoor
theorem skip_fwd : ∀ (s : Bs) (m f i j : Nat) (t : Bs), skipJ m f i s = .ok () j t → i ≤ j
  | [], m, f, i, j, t, h => by
    unfold skipJ at h
    split at h
    · cases h
    · cases h; exact Nat.le_refl _
  | c :: r, m, f, i, j, t, h => by
    unfold skipJ at h
    repeat' split at h
    all_goals first
      | exact Nat.le_of_succ_le (skip_fwd r _ _ _ _ _ h)
      | (cases h; exact Nat.le_refl _)
      | cases h
theorem sign_fwd {c : UInt8} {i j : Nat} {s t : Bs} (h : signJ c i s = .ok () j t) : i < j := by
  unfold signJ at h
  split at h
  · cases h
  · split at h
    · cases h; exact Nat.lt_succ_self _
    · cases h
theorem word_fwd : ∀ (q : Bs) (i j : Nat) (s t : Bs), wordJ q i s = .ok () j t → i ≤ j
  | [], i, j, s, t, h => by simp [wordJ] at h; omega
  | c :: q, i, j, s, t, h => by
    rw [wordJ] at h
    cases hs : signJ c i s with
    | bad k a => rw [hs] at h; cases h
    | ok u i2 s2 =>
      rw [hs, PJ.andThen_ok] at h
      have h1 := sign_fwd hs
      have h2 := word_fwd q i2 j s2 t h
      omega
theorem esc_fwd' {i j : Nat} {s x t : Bs} (h : escJ i s = .ok x j t) : i < j := by
  unfold escJ at h
  repeat' split at h
  all_goals first
    | (simp only [PJ.ok.injEq] at h; obtain ⟨_, rfl, _⟩ := h; exact Nat.lt_add_of_pos_right (by decide))
    | cases h
theorem inside_fwd : ∀ (k : Nat) (acc : Bs) (i j : Nat) (s x t : Bs), insideJ k acc i s = .ok x j t → i < j
  | 0, _, _, _, _, _, _, h => by simp [insideJ] at h
  | k + 1, _, i, _, [], _, _, h => by simp [insideJ] at h
  | k + 1, acc, i, j, c :: r, x, t, h => by
    rw [insideJ] at h
    split at h
    · cases h; exact Nat.lt_succ_self _
    · split at h
      · split at h
        · cases h
        · rename_i he
          have h1 := esc_fwd' he
          have h2 := inside_fwd k _ _ _ _ _ _ h
          omega
      · split at h
        · cases h
        · have h2 := inside_fwd k _ _ _ _ _ _ h
          omega
theorem text_fwd {i j : Nat} {s x t : Bs} (h : textJ i s = .ok x j t) : i < j := by
  unfold textJ at h
  split at h
  · cases h
  · rename_i he
    split at h
    · cases h
    · cases h
      have := inside_fwd _ _ _ _ _ _ _ he
      omega
theorem PJ.then_ok {α β : Type} {x : PJ α} {f : α → Nat → Bs → PJ β} {y : β} {j : Nat} {t : Bs} (h : x.andThen f = .ok y j t) : ∃ v i s, x = .ok v i s ∧ f v i s = .ok y j t := by
  cases x with
  | ok v i s => exact ⟨v, i, s, rfl, h⟩
  | bad k a => cases h
theorem name_fwd {ks : List Bs} {i j : Nat} {s x t : Bs} (h : nameJ ks i s = .ok x j t) : i < j := by
  unfold nameJ at h
  split at h
  · cases h
  · obtain ⟨v, i1, s1, h1, h⟩ := PJ.then_ok h
    split at h
    · cases h
    · obtain ⟨_, i2, s2, h2, h⟩ := PJ.then_ok h
      obtain ⟨_, i3, s3, h3, h⟩ := PJ.then_ok h
      obtain ⟨_, i4, s4, h4, h⟩ := PJ.then_ok h
      cases h
      have := text_fwd h1
      have := skip_fwd _ _ _ _ _ _ h2
      have := sign_fwd h3
      have := skip_fwd _ _ _ _ _ _ h4
      omega
theorem items_fwd {vf : Nat → Bs → PJ Js} (hv : ∀ i j s v t, vf i s = .ok v j t → i < j) {m : Bool} {e : UInt8} : ∀ (k : Nat) (vs : List Js) (ks : List Bs) (i j : Nat) (s t : Bs) (x : List Js × List Bs), itemsJ vf m e k vs ks i s = .ok x j t → i < j
  | 0, _, _, _, _, _, _, _, h => by simp [itemsJ] at h
  | k + 1, vs, ks, i, j, s, t, x, h => by
    rw [itemsJ] at h
    obtain ⟨ks2, i1, s1, h1, h⟩ := PJ.then_ok h
    have g1 : i ≤ i1 := by
      split at h1
      · obtain ⟨_, i0, s0, h0, h1⟩ := PJ.then_ok h1
        cases h1
        have := name_fwd h0
        omega
      · cases h1; exact Nat.le_refl _
    obtain ⟨v, i2, s2, h2, h⟩ := PJ.then_ok h
    obtain ⟨_, i3, s3, h3, h⟩ := PJ.then_ok h
    have g2 := hv _ _ _ _ _ h2
    have g3 := skip_fwd _ _ _ _ _ _ h3
    split at h
    · obtain ⟨_, i4, s4, h4, h⟩ := PJ.then_ok h
      have g4 := skip_fwd _ _ _ _ _ _ h4
      have g5 := items_fwd hv k _ _ _ _ _ _ _ h
      omega
    · obtain ⟨_, i4, s4, h4, h⟩ := PJ.then_ok h
      cases h
      have g4 := sign_fwd h4
      omega
theorem value_fwd : ∀ (room i j : Nat) (s : Bs) (v : Js) (t : Bs), valueJ room i s = .ok v j t → i < j
  | room, i, j, [], v, t, h => by unfold valueJ at h; cases h
  | room, i, j, c :: r, v, t, h => by
    unfold valueJ at h
    split at h
    · cases room with
      | zero => cases h
      | succ q =>
        have h : groupJ (valueJ q) (c == 123) i (c :: r) = .ok v j t := h
        unfold groupJ at h
        generalize (c == 123) = m at h
        generalize he : (if m then (125 : UInt8) else 93) = ee at h
        obtain ⟨_, i1, s1, h1, h⟩ := PJ.then_ok h
        have g1 := skip_fwd _ _ _ _ _ _ h1
        split at h
        · cases h; omega
        · obtain ⟨_, i2, s2, h2, h⟩ := PJ.then_ok h
          cases h
          have g2 := items_fwd (fun i j s v t h => value_fwd q i j s v t h) _ _ _ _ _ _ _ _ h2
          omega
    · split at h
      · obtain ⟨_, i1, s1, h1, h⟩ := PJ.then_ok h
        cases h
        exact text_fwd h1
      · split at h
        · rename_i hc
          split at h
          · cases h
          · cases h
            have ht : tailJ c = true := by
              rcases hc with rfl | hc
              · decide
              · simp [tailJ, hc]
            simp [ht]
        · split at h
          · rw [wordJ] at h
            obtain ⟨_, i1, s1, h1, h⟩ := PJ.then_ok h
            obtain ⟨_, i2, s2, h2, h3⟩ := PJ.then_ok h1
            cases h
            have := sign_fwd h2
            have := word_fwd _ _ _ _ _ h3
            omega
          · split at h
            · rw [wordJ] at h
              obtain ⟨_, i1, s1, h1, h⟩ := PJ.then_ok h
              obtain ⟨_, i2, s2, h2, h3⟩ := PJ.then_ok h1
              cases h
              have := sign_fwd h2
              have := word_fwd _ _ _ _ _ h3
              omega
            · split at h
              · rw [wordJ] at h
                obtain ⟨_, i1, s1, h1, h⟩ := PJ.then_ok h
                obtain ⟨_, i2, s2, h2, h3⟩ := PJ.then_ok h1
                cases h
                have := sign_fwd h2
                have := word_fwd _ _ _ _ _ h3
                omega
              · cases h
end Go.Proofs.YtgiihljiekagdaaDoor
