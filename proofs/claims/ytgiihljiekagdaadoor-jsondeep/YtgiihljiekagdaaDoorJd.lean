/- Values in values, as deep as may be (chapter 11), as mathematics. -/
import Derived.Test.YtgiihljiekagdaaDoorJm
namespace Go.Proofs.YtgiihljiekagdaaDoor
/-- A sign at which blanks and comments end. -/
def stopJ (c : UInt8) : Bool := !blankJ c && c != 35 && c != 47
theorem skip_stop {c : UInt8} (h : stopJ c = true) (f i : Nat) (r : Bs) : skipJ 0 f i (c :: r) = .ok () i (c :: r) := by
  simp [stopJ] at h
  simp [skipJ, h]
theorem skip_nil (f i : Nat) : skipJ 0 f i [] = .ok () i [] := by simp [skipJ]
/-- How a list or a map goes whose first value is read, with one sign behind it. -/
theorem items_one (vf : Nat → Bs → PJ Js) (m : Bool) (e : UInt8) (he : stopJ e = true) (he2 : e ≠ 44) (k i j j2 : Nat) (s t r : Bs) (ks : List Bs) (v : Js)
    (hn : (if m then (nameJ [] i s).andThen fun x j t => .ok ([] ++ [x]) j t else .ok [] i s : PJ (List Bs)) = .ok ks j t) (hv : vf j t = .ok v j2 (e :: r)) :
    itemsJ vf m e (k + 1) [] [] i s = .ok ([v], ks) (j2 + 1) r := by
  rw [itemsJ, hn, PJ.andThen_ok, hv, PJ.andThen_ok, skip_stop he, PJ.andThen_ok]
  simp [he2, signJ, PJ.andThen_ok]
theorem items_bad (vf : Nat → Bs → PJ Js) (m : Bool) (e : UInt8) (k i j q a : Nat) (s t : Bs) (ks : List Bs)
    (hn : (if m then (nameJ [] i s).andThen fun x j t => .ok ([] ++ [x]) j t else .ok [] i s : PJ (List Bs)) = .ok ks j t) (hv : vf j t = .bad q a) :
    itemsJ vf m e (k + 1) [] [] i s = .bad q a := by
  rw [itemsJ, hn, PJ.andThen_ok, hv, PJ.andThen_bad]
theorem name_a {c : UInt8} (h : stopJ c = true) (i : Nat) (r : Bs) : nameJ [] i (34 :: 97 :: 34 :: 58 :: c :: r) = .ok [97] (i + 4) (c :: r) := by
  have ht : textJ i (34 :: 97 :: 34 :: 58 :: c :: r) = .ok [97] (i + 3) (58 :: c :: r) := by
    simp [textJ, insideJ, runeJ]
  simp [nameJ, ht, PJ.andThen_ok, skip_stop (c := 58) (by decide), signJ, skip_stop h]
theorem value_list (q i : Nat) (s : Bs) : valueJ (q + 1) i (91 :: s) = groupJ (valueJ q) false i (91 :: s) := by simp [valueJ]
theorem value_map (q i : Nat) (s : Bs) : valueJ (q + 1) i (123 :: s) = groupJ (valueJ q) true i (123 :: s) := by simp [valueJ]
theorem group_list (vf : Nat → Bs → PJ Js) (i : Nat) (s : Bs) : groupJ vf false i (91 :: s) = (skipJ 0 0 (i + 1) s).andThen fun _ j t =>
    if t.head? = some 93 then .ok (.mk 6 0 [] [] [] i) (j + 1) t.tail
    else (itemsJ vf false 93 ((91 :: s).length + 1) [] [] j t).andThen fun x j2 t2 => .ok (.mk 6 0 [] x.1 x.2 i) j2 t2 := by simp [groupJ]
theorem group_map (vf : Nat → Bs → PJ Js) (i : Nat) (s : Bs) : groupJ vf true i (123 :: s) = (skipJ 0 0 (i + 1) s).andThen fun _ j t =>
    if t.head? = some 125 then .ok (.mk 7 0 [] [] [] i) (j + 1) t.tail
    else (itemsJ vf true 125 ((123 :: s).length + 1) [] [] j t).andThen fun x j2 t2 => .ok (.mk 7 0 [] x.1 x.2 i) j2 t2 := by simp [groupJ]
/-- Lists in lists. -/
theorem deepL_ok : ∀ (d room i : Nat) (rest : Bs), 1 ≤ d → d ≤ room → ∃ v, valueJ room i (List.replicate d 91 ++ (List.replicate d 93 ++ rest)) = .ok v (i + 2 * d) rest
  | 0, _, _, _, h, _ => by omega
  | d + 1, 0, _, _, _, h => by omega
  | 1, q + 1, i, rest, _, _ => ⟨.mk 6 0 [] [] [] i, by
      simp [valueJ, groupJ, skip_stop (c := 93) (by decide), PJ.andThen_ok]⟩
  | d + 2, q + 1, i, rest, _, h => by
    obtain ⟨v, hv⟩ := deepL_ok (d + 1) q (i + 1) (93 :: rest) (by omega) (by omega)
    have e : List.replicate (d + 1) (93 : UInt8) ++ 93 :: rest = List.replicate (d + 2) 93 ++ rest := by
      rw [List.replicate_succ' (n := d + 1)]; simp
    rw [e] at hv
    refine ⟨.mk 6 0 [] [v] [] i, ?_⟩
    have hs : List.replicate (d + 2) (91 : UInt8) ++ (List.replicate (d + 2) 93 ++ rest) = 91 :: (List.replicate (d + 1) 91 ++ (List.replicate (d + 2) 93 ++ rest)) := rfl
    have hs2 : List.replicate (d + 1) (91 : UInt8) ++ (List.replicate (d + 2) 93 ++ rest) = 91 :: (List.replicate d 91 ++ (List.replicate (d + 2) 93 ++ rest)) := rfl
    rw [hs]
    have hi := items_one (valueJ q) false 93 (by decide) (by decide) (91 :: (List.replicate (d + 1) 91 ++ (List.replicate (d + 2) 93 ++ rest))).length (i + 1) (i + 1) (i + 1 + 2 * (d + 1)) (List.replicate (d + 1) 91 ++ (List.replicate (d + 2) 93 ++ rest)) _ rest [] v rfl hv
    rw [value_list, group_list, hs2, skip_stop (c := 91) (by decide), PJ.andThen_ok]
    rw [← hs2, hi]
    simp [hs2, PJ.andThen_ok]
    omega
/-- Too many lists in lists. -/
theorem deepL_bad : ∀ (n i : Nat) (rest : Bs), valueJ n i (List.replicate (n + 1) 91 ++ rest) = .bad 2 (i + n)
  | 0, i, rest => by simp [valueJ]
  | n + 1, i, rest => by
    have hv := deepL_bad n (i + 1) rest
    have hi := items_bad (valueJ n) false 93 (91 :: (List.replicate (n + 1) 91 ++ rest)).length (i + 1) (i + 1) 2 (i + 1 + n) (List.replicate (n + 1) 91 ++ rest) _ [] rfl hv
    have hs : List.replicate (n + 2) (91 : UInt8) ++ rest = 91 :: (List.replicate (n + 1) 91 ++ rest) := rfl
    have hs2 : List.replicate (n + 1) (91 : UInt8) ++ rest = 91 :: (List.replicate n 91 ++ rest) := rfl
    rw [hs, value_list, group_list, hs2, skip_stop (c := 91) (by decide), PJ.andThen_ok, ← hs2, hi]
    simp [hs2, PJ.andThen_bad]
    omega
/-- Maps in maps, and a number in the last. -/
def unitM : Bs := [123, 34, 97, 34, 58]
def openM : Nat → Bs
  | 0 => []
  | d + 1 => unitM ++ openM d
theorem openM_head (d : Nat) (c : UInt8) (hc : stopJ c = true) (r : Bs) : ∃ c2 r2, openM d ++ c :: r = c2 :: r2 ∧ stopJ c2 = true := by
  cases d with
  | zero => exact ⟨c, r, rfl, hc⟩
  | succ d => exact ⟨123, _, rfl, by decide⟩
theorem value_one (room i : Nat) (r : Bs) (h : tailJ (r.headD 0) = false) : valueJ room i (49 :: r) = .ok (.mk 4 1 [] [] [] i) (i + 1) r := by
  have h1 : (49 :: r).takeWhile tailJ = [49] := by
    cases r with
    | nil => rfl
    | cons c r => simp at h; simp [List.takeWhile, h, show tailJ 49 = true from by decide]
  have h2 : (49 :: r).dropWhile tailJ = r := by
    cases r with
    | nil => rfl
    | cons c r => simp at h; simp [List.dropWhile, h, show tailJ 49 = true from by decide]
  have h3 : numJ [49] = some 1 := by decide +kernel
  unfold valueJ
  rw [h1, h2, h3]
  simp [digitJ]
theorem deepM_ok : ∀ (d room i : Nat) (rest : Bs), d ≤ room → (tailJ (rest.headD 0) = false ∨ 0 < d) → ∃ v, valueJ room i (openM d ++ 49 :: (List.replicate d 125 ++ rest)) = .ok v (i + 6 * d + 1) rest
  | 0, room, i, rest, _, h => ⟨_, by
      have := value_one room i rest (by rcases h with h | h; exact h; omega)
      simpa [openM] using this⟩
  | d + 1, 0, _, _, h, _ => by omega
  | d + 1, q + 1, i, rest, h, _ => by
    obtain ⟨v, hv⟩ := deepM_ok d q (i + 5) (125 :: rest) (by omega) (.inl (show tailJ 125 = false by decide))
    have e : List.replicate d (125 : UInt8) ++ 125 :: rest = List.replicate (d + 1) 125 ++ rest := by
      rw [List.replicate_succ' (n := d)]; simp
    rw [e] at hv
    obtain ⟨c2, r2, hs2, hc2⟩ := openM_head d 49 (by decide) (List.replicate (d + 1) 125 ++ rest)
    have hs : openM (d + 1) ++ 49 :: (List.replicate (d + 1) 125 ++ rest) = 123 :: 34 :: 97 :: 34 :: 58 :: (openM d ++ 49 :: (List.replicate (d + 1) 125 ++ rest)) := rfl
    have hn := name_a hc2 (i + 1) r2
    rw [← hs2] at hn
    have hi := items_one (valueJ q) true 125 (by decide) (by decide) (123 :: 34 :: 97 :: 34 :: 58 :: (openM d ++ 49 :: (List.replicate (d + 1) 125 ++ rest))).length (i + 1) (i + 5) (i + 5 + 6 * d + 1) (34 :: 97 :: 34 :: 58 :: (openM d ++ 49 :: (List.replicate (d + 1) 125 ++ rest))) _ rest [[97]] v (by simp only [↓reduceIte]; rw [hn]; rfl) hv
    refine ⟨.mk 7 0 [] [v] [[97]] i, ?_⟩
    rw [hs, value_map, group_map, skip_stop (c := 34) (by decide), PJ.andThen_ok, hi]
    simp [PJ.andThen_ok]
    omega
theorem deepM_bad : ∀ (n i : Nat) (c : UInt8) (rest : Bs), stopJ c = true → valueJ n i (openM (n + 1) ++ c :: rest) = .bad 2 (i + 5 * n)
  | 0, i, c, rest, _ => by simp [valueJ, openM, unitM]
  | n + 1, i, c, rest, hc => by
    have hv := deepM_bad n (i + 5) c rest hc
    obtain ⟨c2, r2, hs2, hc2⟩ := openM_head (n + 1) c hc rest
    have hs : openM (n + 2) ++ c :: rest = 123 :: 34 :: 97 :: 34 :: 58 :: (openM (n + 1) ++ c :: rest) := rfl
    have hn := name_a hc2 (i + 1) r2
    rw [← hs2] at hn
    have hi := items_bad (valueJ n) true 125 (123 :: 34 :: 97 :: 34 :: 58 :: (openM (n + 1) ++ c :: rest)).length (i + 1) (i + 5) 2 (i + 5 + 5 * n) (34 :: 97 :: 34 :: 58 :: (openM (n + 1) ++ c :: rest)) _ [[97]] (by simp only [↓reduceIte]; rw [hn]; rfl) hv
    rw [hs, value_map, group_map, skip_stop (c := 34) (by decide), PJ.andThen_ok, hi]
    simp [PJ.andThen_bad]
    omega
/-- A text of so many of one sign. -/
theorem inside_x : ∀ (n k i : Nat) (acc r : Bs), n < k → insideJ k acc i (List.replicate n 120 ++ 34 :: r) = .ok (acc ++ List.replicate n 120) (i + n + 1) r
  | 0, k + 1, i, acc, r, _ => by simp [insideJ]
  | n + 1, k + 1, i, acc, r, h => by
    have h1 : runeJ (120 :: (List.replicate n 120 ++ 34 :: r)) = 1 := by simp [runeJ]
    have ih := inside_x n k (i + 1) (acc ++ [120]) r (by omega)
    rw [List.replicate_succ, List.cons_append, insideJ, h1]
    simp [ih]
    omega
  | n, 0, _, _, _, h => by omega
theorem text_x (n i : Nat) (r : Bs) : textJ i (34 :: (List.replicate n 120 ++ 34 :: r)) = if 255 < n then .bad 2 i else .ok (List.replicate n 120) (i + n + 2) r := by
  unfold textJ
  rw [List.tail_cons, inside_x n _ (i + 1) [] r (by simp; omega)]
  simp
  split
  · rfl
  · congr 1; omega
/-- What the law's texts say. -/
theorem json_deepL_ok (d : Nat) (h1 : 1 ≤ d) (h : d ≤ 64) : ∃ v, jsonV (List.replicate d 91 ++ List.replicate d 93) = .ok v := by
  obtain ⟨v, hv⟩ := deepL_ok d 64 0 [] h1 h
  rw [List.append_nil] at hv
  obtain ⟨r, hr⟩ : ∃ r, List.replicate d (91 : UInt8) ++ List.replicate d 93 = 91 :: r := by
    cases d with
    | zero => omega
    | succ d => exact ⟨_, rfl⟩
  refine ⟨v, ?_⟩
  unfold jsonV
  rw [hr, skip_stop (c := 91) (by decide), PJ.andThen_ok, ← hr, hv, PJ.andThen_ok, skip_nil, PJ.andThen_ok]
  rfl
theorem json_deepL_bad (d : Nat) (h : 64 < d) (rest : Bs) : jsonV (List.replicate d 91 ++ rest) = .bad 2 64 := by
  have hv := deepL_bad 64 0 (List.replicate (d - 65) 91 ++ rest)
  have e : List.replicate 65 (91 : UInt8) ++ (List.replicate (d - 65) 91 ++ rest) = List.replicate d 91 ++ rest := by
    rw [← List.append_assoc, List.replicate_append_replicate, show 65 + (d - 65) = d by omega]
  rw [e] at hv
  obtain ⟨r, hr⟩ : ∃ r, List.replicate d (91 : UInt8) ++ rest = 91 :: r := by
    cases d with
    | zero => omega
    | succ d => exact ⟨_, rfl⟩
  unfold jsonV
  rw [hr, skip_stop (c := 91) (by decide), PJ.andThen_ok, ← hr, hv, PJ.andThen_bad]
theorem json_deepM_ok (d : Nat) (h : d ≤ 64) : ∃ v, jsonV (openM d ++ 49 :: List.replicate d 125) = .ok v := by
  obtain ⟨v, hv⟩ := deepM_ok d 64 0 [] h (.inl (by decide))
  rw [List.append_nil] at hv
  obtain ⟨c, r, hr, hc⟩ := openM_head d 49 (by decide) (List.replicate d 125)
  refine ⟨v, ?_⟩
  unfold jsonV
  rw [hr, skip_stop hc, PJ.andThen_ok, ← hr, hv, PJ.andThen_ok, skip_nil, PJ.andThen_ok]
  rfl
theorem openM_add : ∀ (a b : Nat), openM (a + b) = openM a ++ openM b
  | 0, b => by rw [Nat.zero_add]; rfl
  | a + 1, b => by rw [show a + 1 + b = (a + b) + 1 by omega, openM, openM_add a b, openM, List.append_assoc]
theorem json_deepM_bad (d : Nat) (h : 64 < d) (rest : Bs) : jsonV (openM d ++ 49 :: rest) = .bad 2 320 := by
  obtain ⟨c, r, hr, hc⟩ := openM_head (d - 65) 49 (by decide) rest
  have hv := deepM_bad 64 0 c r hc
  rw [← hr, ← List.append_assoc, ← openM_add, show 64 + 1 + (d - 65) = d by omega] at hv
  obtain ⟨c2, r2, hr2, hc2⟩ := openM_head d 49 (by decide) rest
  unfold jsonV
  rw [hr2, skip_stop hc2, PJ.andThen_ok, ← hr2, hv, PJ.andThen_bad]
theorem json_long (n : Nat) : jsonV (91 :: 34 :: (List.replicate n 120 ++ [34, 93])) = if 255 < n then .bad 2 1 else .ok (.mk 6 0 [] [.mk 5 0 (List.replicate n 120) [] [] 1] [] 0) := by
  have ht := text_x n 1 [93]
  have hv : valueJ 63 1 (34 :: (List.replicate n 120 ++ [34, 93])) = (textJ 1 (34 :: (List.replicate n 120 ++ [34, 93]))).andThen fun x j t => .ok (.mk 5 0 x [] [] 1) j t := by
    rw [valueJ]; simp
  unfold jsonV
  rw [skip_stop (c := 91) (by decide), PJ.andThen_ok, value_list, group_list, skip_stop (c := 34) (by decide), PJ.andThen_ok]
  rw [ht] at hv
  by_cases h : 255 < n
  · rw [if_pos h, PJ.andThen_bad] at hv
    rw [items_bad (valueJ 63) false 93 _ (0 + 1) (0 + 1) 2 1 _ _ [] rfl hv]
    simp [h, PJ.andThen_bad]
  · rw [if_neg h, PJ.andThen_ok] at hv
    rw [items_one (valueJ 63) false 93 (by decide) (by decide) _ (0 + 1) (0 + 1) _ _ _ [] [] _ rfl hv]
    simp [h, PJ.andThen_ok, skip_nil]
end Go.Proofs.YtgiihljiekagdaaDoor
