/- Records, as mathematics: one field at a place of a text, and what stands behind it. -/
import Derived.Test.YtcfminkmidaaoaaDoorVo
import Derived.Test.YtcfminkmidaaoaaDoorTb
namespace Go.Proofs.YtcfminkmidaaoaaDoor

/-- A field that is not in quotes stands from one place to another. -/
def PlainTo (l : Bs) (i j : Nat) : Prop := i ≤ j ∧ j ≤ l.length ∧ (∀ c ∈ pieceV l i j, plainB c = true) ∧ ∀ c, l[j]? = some c → plainB c = false
theorem get_cons8 {l : Bs} {j : Nat} {c : UInt8} (h : l[j]? = some c) : l.drop j = c :: l.drop (j + 1) := by
  have hj := (List.getElem?_eq_some_iff.1 h).1
  rw [List.drop_eq_getElem_cons hj, (List.getElem?_eq_some_iff.1 h).2]
theorem head_get {l : Bs} {j : Nat} {c : UInt8} {q : Bs} (h : l.drop j = c :: q) : l[j]? = some c := by
  have := congrArg (·[0]?) h
  simpa using this
theorem plain_run {l : Bs} {i j : Nat} {row : List Tk} (h : PlainTo l i j) (hne : i < l.length ∨ row ≠ []) (h34 : l[i]? ≠ some 34) : recA (.beg row) i (l.drop i) = recA (.pln row i (pieceV l i j)) j (l.drop j) := by
  obtain ⟨h1, h2, h3, _⟩ := h
  rw [beg_pln row i _ (fun c q e hc => h34 (by rw [head_get e, hc])) (by
    rcases hne with hn | hn
    · exact Or.inl (fun e => by have := congrArg List.length e; rw [List.length_drop] at this; simp at this; omega)
    · exact Or.inr hn), piece_drop h1 h2, pln_run _ _ _ _ _ _ h3, List.nil_append, piece_len h2, show i + (j - i) = j by omega]
theorem plain_bad_at {l : Bs} {i j : Nat} {row : List Tk} {c : UInt8} (h : PlainTo l i j) (hne : i < l.length ∨ row ≠ []) (h34 : l[i]? ≠ some 34) (hc : l[j]? = some c) (hs : stopB c = false) : recA (.beg row) i (l.drop i) = .bad 1 j := by
  rw [plain_run h hne h34, get_cons8 hc, pln_bad _ _ _ _ _ _ (h.2.2.2 c hc) hs]
theorem plain_ok_at {l : Bs} {i j : Nat} {row : List Tk} (h : PlainTo l i j) (hne : i < l.length ∨ row ≠ []) (h34 : l[i]? ≠ some 34) (hs : ∀ c, l[j]? = some c → stopB c = true) : recA (.beg row) i (l.drop i) = if 255 < j - i then .bad 2 i else recA (.aft (row ++ [(5, pieceV l i j, i)])) j (l.drop j) := by
  rw [plain_run h hne h34, pln_end _ _ _ _ _ (fun c q e => hs c (head_get e)), piece_len h.2.1]
theorem quo_at {l : Bs} {i : Nat} (row : List Tk) (h : l[i]? = some 34) : recA (.beg row) i (l.drop i) = match qG [] (l.drop (i + 1)) (i + 1) with
    | .inr x => .bad 1 x
    | .inl (s, k) => if 255 < s.length then .bad 2 i else recA (.aft (row ++ [(5, s, i)])) k (l.drop k) := by
  rw [get_cons8 h, beg_quo, quo_q]
  cases hx : qG [] (l.drop (i + 1)) (i + 1) with
  | inr x => rfl
  | inl x =>
    obtain ⟨s, k⟩ := x
    have := qG_le _ _ _ _ _ hx
    simp only
    rw [List.drop_drop, show i + 1 + (k - (i + 1)) = k by omega]
theorem qG_at {l : Bs} {i : Nat} (h : i < l.length) {s : Bs} {k : Nat} (hx : qG [] (l.drop (i + 1)) (i + 1) = .inl (s, k)) : i < k ∧ k ≤ l.length ∧ s.length ≤ l.length := by
  obtain ⟨h1, h2, h3⟩ := qG_le _ _ _ _ _ hx
  rw [List.length_drop] at h2 h3
  exact ⟨by omega, by omega, by simp at h3; omega⟩
/-- A field in quotes, byte by byte. -/
theorem q_dbl {l acc : Bs} {j : Nat} (h : l[j]? = some 34) (h2 : l[j + 1]? = some 34) : qG acc (l.drop j) j = qG (acc ++ [34]) (l.drop (j + 2)) (j + 2) := by
  rw [get_cons8 h, get_cons8 h2]; conv => lhs; unfold qG
  simp only [if_true]
theorem q_close {l acc : Bs} {j : Nat} (h : l[j]? = some 34) (h2 : l[j + 1]? ≠ some 34) : qG acc (l.drop j) j = .inl (acc, j + 1) := by
  rw [get_cons8 h]; conv => lhs; unfold qG
  rw [if_pos rfl]
  cases hd : l.drop (j + 1) with
  | nil => rfl
  | cons d q =>
    have : d ≠ 34 := fun e => h2 (by rw [head_get hd, e])
    simp [this]
theorem q_go {l acc : Bs} {j : Nat} {b : UInt8} (h : l[j]? = some b) (h1 : b ≠ 34) : qG acc (l.drop j) j = if qokB b then qG (acc ++ [b]) (l.drop (j + 1)) (j + 1) else .inr j := by
  rw [get_cons8 h]; conv => lhs; unfold qG
  rw [if_neg h1]
theorem q_end (l acc : Bs) : qG acc (l.drop l.length) l.length = .inr l.length := by rw [List.drop_length]; rfl
/-- Behind a field, at a place. -/
theorem aft_at_comma {l : Bs} {k : Nat} (row : List Tk) (h : l[k]? = some 44) : recA (.aft row) k (l.drop k) = recA (.beg row) (k + 1) (l.drop (k + 1)) := by rw [get_cons8 h, aft_comma]
theorem aft_at_lf {l : Bs} {k : Nat} (row : List Tk) (h : l[k]? = some 10) : recA (.aft row) k (l.drop k) = (recA (.beg []) (k + 1) (l.drop (k + 1))).pre [row] := by rw [get_cons8 h, aft_lf]
theorem aft_at_crlf {l : Bs} {k : Nat} (row : List Tk) (h : l[k]? = some 13) (h2 : l[k + 1]? = some 10) : recA (.aft row) k (l.drop k) = (recA (.beg []) (k + 2) (l.drop (k + 2))).pre [row] := by rw [get_cons8 h, get_cons8 h2, aft_crlf]
theorem aft_at_cr {l : Bs} {k : Nat} (row : List Tk) (h : l[k]? = some 13) (h2 : l[k + 1]? ≠ some 10) : recA (.aft row) k (l.drop k) = .bad 1 (k + 1) := by
  rw [get_cons8 h, aft_cr _ _ _ (fun c q e hc => h2 (by rw [head_get e, hc]))]
theorem aft_at_end (l : Bs) (row : List Tk) : recA (.aft row) l.length (l.drop l.length) = .ok [row] := by rw [List.drop_length]; rfl
theorem beg_at_end (l : Bs) : recA (.beg []) l.length (l.drop l.length) = .ok [] := by rw [List.drop_length]; rfl
/-- Records are of signs of the fifth kind, each not too long; so many at most as there are bytes. -/
def okRow (row : List Tk) : Prop := ∀ t ∈ row, t.1 = 5 ∧ t.2.1.length ≤ 255
def fitC : SC → Prop
  | .beg row => okRow row
  | .pln row _ _ => okRow row
  | .quo row _ _ => okRow row
  | .qnd row _ _ => okRow row
  | .aft row => okRow row ∧ row ≠ []
  | .cr => True
def lenC : SC → Nat
  | .beg row => row.length
  | .pln row _ _ => row.length + 1
  | .quo row _ _ => row.length + 1
  | .qnd row _ _ => row.length + 1
  | .aft row => row.length
  | .cr => 0
theorem okRow_snoc {row : List Tk} {s : Bs} {i : Nat} (h : okRow row) (hl : s.length ≤ 255) : okRow (row ++ [(5, s, i)]) := fun t ht => by
  rcases List.mem_append.1 ht with h1 | h1
  · exact h t h1
  · simp at h1; subst h1; exact ⟨rfl, hl⟩
theorem aftS_fit {row : List Tk} {c : UInt8} {i : Nat} {s : SC} {ts : List (List Tk)} (h : aftS row c i = .inl (s, ts)) (hr : okRow row) (hn : row ≠ []) : fitC s ∧ ∀ r ∈ ts, okRow r ∧ r ≠ [] := by
  unfold aftS at h
  split at h
  · cases h; exact ⟨hr, by simp⟩
  · split at h
    · cases h; exact ⟨fun t ht => by simp at ht, fun r hr' => by simp at hr'; subst hr'; exact ⟨hr, hn⟩⟩
    · split at h
      · cases h; exact ⟨trivial, fun r hr' => by simp at hr'; subst hr'; exact ⟨hr, hn⟩⟩
      · cases h
theorem stepC_fit {s s' : SC} {c : UInt8} {i : Nat} {ts : List (List Tk)} (h : stepC s c i = .inl (s', ts)) (hs : fitC s) : fitC s' ∧ ∀ r ∈ ts, okRow r ∧ r ≠ [] := by
  cases s with
  | beg row =>
    simp only [stepC] at h
    split at h
    · cases h; exact ⟨hs, by simp⟩
    · split at h
      · cases h; exact ⟨hs, by simp⟩
      · exact aftS_fit h (okRow_snoc hs (by simp)) (by simp)
  | pln row a cur =>
    simp only [stepC] at h
    split at h
    · cases h; exact ⟨hs, by simp⟩
    · split at h
      · split at h
        · cases h
        · rename_i hl; exact aftS_fit h (okRow_snoc hs (by omega)) (by simp)
      · cases h
  | quo row a cur =>
    simp only [stepC] at h
    split at h
    · cases h; exact ⟨hs, by simp⟩
    · split at h
      · cases h; exact ⟨hs, by simp⟩
      · cases h
  | qnd row a cur =>
    simp only [stepC] at h
    split at h
    · cases h; exact ⟨hs, by simp⟩
    · split at h
      · cases h
      · rename_i hl; exact aftS_fit h (okRow_snoc hs (by omega)) (by simp)
  | aft row => exact aftS_fit h hs.1 hs.2
  | cr =>
    simp only [stepC] at h
    split at h
    · cases h; exact ⟨fun t ht => by simp at ht, by simp⟩
    · cases h
theorem recA_fit : ∀ (r : Bs) (s : SC) (i : Nat) (L : List (List Tk)), fitC s → recA s i r = .ok L → ∀ row ∈ L, okRow row ∧ row ≠ []
  | [], s, i, L, hs, h => by
    cases s with
    | beg row =>
      simp only [recA, endC] at h
      split at h
      · cases h; simp
      · cases h; intro r hr; simp at hr; subst hr; exact ⟨okRow_snoc hs (by simp), by simp⟩
    | pln row a cur =>
      simp only [recA, endC] at h
      split at h
      · cases h
      · rename_i hl; cases h; intro r hr; simp at hr; subst hr; exact ⟨okRow_snoc hs (by omega), by simp⟩
    | quo row a cur => cases h
    | qnd row a cur =>
      simp only [recA, endC] at h
      split at h
      · cases h
      · rename_i hl; cases h; intro r hr; simp at hr; subst hr; exact ⟨okRow_snoc hs (by omega), by simp⟩
    | aft row => cases h; intro r hr; simp at hr; subst hr; exact hs
    | cr => cases h
  | c :: r, s, i, L, hs, h => by
    rw [recA] at h
    cases hx : stepC s c i with
    | inr x => obtain ⟨k, a⟩ := x; rw [hx] at h; cases h
    | inl x =>
      obtain ⟨s', ts⟩ := x
      rw [hx] at h
      obtain ⟨h1, h2⟩ := stepC_fit hx hs
      simp only at h
      cases hy : recA s' (i + 1) r with
      | bad k a => rw [hy] at h; cases h
      | ok M =>
        rw [hy] at h; cases h
        intro row hrow
        rcases List.mem_append.1 hrow with h3 | h3
        · exact h2 row h3
        · exact recA_fit r s' (i + 1) M h1 hy row h3
theorem recV_fit {l : Bs} {L : List (List Tk)} (h : recV l = .ok L) : ∀ row ∈ L, okRow row ∧ row ≠ [] := recA_fit l (.beg []) 0 L (fun t ht => by simp at ht) h
end Go.Proofs.YtcfminkmidaaoaaDoor
