/- Texts and values told (chapters 11 and 12), as mathematics; what the law puts between signs. -/
import Derived.Test.YtgiihljiekagdaaDoorJb
namespace Go.Proofs.YtgiihljiekagdaaDoor
def hexdJ (n : UInt8) : UInt8 := if n < 10 then 48 + n else 87 + n
def escB (c : UInt8) : Bs :=
  if c = 34 ∨ c = 92 then [92, c] else if c = 10 then [92, 110] else if c = 13 then [92, 114] else if c = 9 then [92, 116]
  else if c < 32 then [92, 117, 48, 48, hexdJ (c / 16), hexdJ (c % 16)] else [c]
def escT (s : Bs) : Bs := s.flatMap escB
/-- A text told. -/
def tellT (s : Bs) : Bs := 34 :: (escT s ++ [34])
theorem escT_append (a b : Bs) : escT (a ++ b) = escT a ++ escT b := by simp [escT]
theorem piece_read : ∀ p ∈ texts11, ∃ m, m ≤ (escT p).length ∧ ∀ (k : Nat) (acc : Bs) (i : Nat) (r : Bs), insideJ (m + k) acc i (escT p ++ r) = insideJ k (acc ++ p) (i + (escT p).length) r := by
  have hs : ∀ k : Nat, 1 + k = k + 1 := fun k => by omega
  intro p hp
  simp only [texts11, List.mem_cons, List.not_mem_nil, or_false] at hp
  rcases hp with rfl | rfl | rfl | rfl | rfl | rfl | rfl | rfl | rfl
  · exact ⟨0, by simp, fun k acc i r => by simp [escT]⟩
  · exact ⟨1, by decide, fun k acc i r => by rw [hs]; simp [escT, escB, insideJ, runeJ]⟩
  · exact ⟨1, by decide, fun k acc i r => by rw [hs]; simp [escT, escB, insideJ, runeJ]⟩
  · exact ⟨1, by decide, fun k acc i r => by rw [hs]; simp [escT, escB, insideJ, runeJ]⟩
  · exact ⟨2, by decide, fun k acc i r => by rw [show 2 + k = k + 1 + 1 by omega]; simp [escT, escB, insideJ, escJ, plainJ]⟩
  · exact ⟨2, by decide, fun k acc i r => by rw [show 2 + k = k + 1 + 1 by omega]; simp [escT, escB, insideJ, escJ, plainJ]⟩
  · exact ⟨1, by decide, fun k acc i r => by rw [hs]; simp [escT, escB, insideJ, escJ, plainJ, hexsJ, hexJ, hexdJ, digitJ, encJ]⟩
  · exact ⟨1, by decide, fun k acc i r => by rw [hs]; simp [escT, escB, insideJ, runeJ]⟩
  · exact ⟨9, by decide, fun k acc i r => by rw [show 9 + k = k + 1 + 1 + 1 + 1 + 1 + 1 + 1 + 1 + 1 by omega]; simp [escT, escB, insideJ, runeJ]⟩
theorem text_two {p q : Bs} (hp : p ∈ texts11) (hq : q ∈ texts11) (i : Nat) (r : Bs) : textJ i (tellT (p ++ q) ++ r) = .ok (p ++ q) (i + (tellT (p ++ q)).length) r := by
  obtain ⟨m1, hm1, h1⟩ := piece_read p hp
  obtain ⟨m2, hm2, h2⟩ := piece_read q hq
  have hl : ∀ x ∈ texts11, x.length ≤ 9 := by decide
  have e : tellT (p ++ q) ++ r = 34 :: (escT p ++ (escT q ++ 34 :: r)) := by simp [tellT, escT_append]
  have hlen : (tellT (p ++ q)).length = (escT p).length + (escT q).length + 2 := by simp [tellT, escT_append]; omega
  rw [e, hlen]
  unfold textJ
  obtain ⟨k, hk⟩ : ∃ k, (34 :: (escT p ++ (escT q ++ 34 :: r))).length + 1 = m1 + (m2 + (k + 1)) := ⟨(34 :: (escT p ++ (escT q ++ 34 :: r))).length - m1 - m2, by simp; omega⟩
  rw [hk, List.tail_cons, h1, h2, insideJ]
  have h3 := hl p hp
  have h4 := hl q hq
  have h5 : ¬ 255 < ([] ++ p ++ q).length := by simp; omega
  simp only [if_true]
  rw [if_neg h5]
  simp
  omega
theorem text_mem (n : Int) : textT n ∈ texts11 := by
  have : ∀ k, k < 9 → texts11.getD k [] ∈ texts11 := by decide
  exact this _ (by omega)
theorem text_read (n : Int) (i : Nat) (r : Bs) : textJ i (tellT (textT n) ++ r) = .ok (textT n) (i + (tellT (textT n)).length) r := by
  have := text_two (p := []) (by simp [texts11]) (text_mem n) i r
  simpa using this
theorem key_read (n : Int) (j : Nat) (i : Nat) (r : Bs) : textJ i (tellT (keyT n j) ++ r) = .ok (keyT n j) (i + (tellT (keyT n j)).length) r := by
  refine text_two ?_ ?_ i r
  · by_cases h : j < 9
    · have : ∀ k, k < 9 → texts11.getD k [] ∈ texts11 := by decide
      exact this _ h
    · have : texts11.getD j [] = [] := by
        rw [List.getD_eq_getElem?_getD, List.getElem?_eq_none (by show 9 ≤ j; omega)]; rfl
      rw [this]; simp [texts11]
  · have : ∀ k, k < 9 → texts11.getD k [] ∈ texts11 := by decide
    exact this _ (by omega)
/-- What the law puts behind a sign. -/
def seps11 : List Bs := [[32], [9, 13, 10], [35, 32, 125, 10], [47, 47, 32, 93, 10], [47, 42, 32, 34, 32, 42, 47], []]
theorem fill_append {a b : Bs} (ha : ∀ {w : Bs}, FillJ w → FillJ (a ++ w)) (hb : FillJ b) : FillJ (a ++ b) := ha hb
theorem sep_fill : ∀ s ∈ seps11, ∀ w, FillJ w → FillJ (s ++ w) := by
  intro s hs w hw
  simp only [seps11, List.mem_cons, List.not_mem_nil, or_false] at hs
  rcases hs with rfl | rfl | rfl | rfl | rfl | rfl
  · exact fill_blank (by decide) hw
  · exact fill_blank (by decide) (fill_blank (by decide) (fill_blank (by decide) hw))
  · exact fill_hash (q := [32, 125]) (by decide) hw
  · exact fill_two (q := [32, 93]) (by decide) hw
  · refine ⟨fun f i d r hd => ?_, fun r _ => by simp [tailJ, digitJ]⟩
    have h := hw.1 i (i + 7) d r hd
    simp [skipJ, blankJ]
    rw [h]
    congr 1
    omega
  · exact hw
/-- Blanks ahead of a value in others. -/
theorem blanks_fill (n : Nat) {w : Bs} (hw : FillJ w) : FillJ (List.replicate n 32 ++ w) := by
  induction n with
  | zero => exact hw
  | succ n ih => rw [List.replicate_succ]; exact fill_blank (by decide) ih
end Go.Proofs.YtgiihljiekagdaaDoor
