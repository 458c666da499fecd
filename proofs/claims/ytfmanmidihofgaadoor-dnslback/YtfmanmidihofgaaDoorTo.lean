/- Signs of a text, as mathematics: what the laws ask. -/
import Derived.Test.YtfmanmidihofgaaDoorTn
namespace Go.Proofs.YtfmanmidihofgaaDoor

/-- A sign told again, behind a blank, a tab and a comment. -/
def pieceT (t : Tk) : Bs := [32, 9, 35, 32, 195, 169, 10] ++ (if t.1 = 3 then quoteV t.2.1 else t.2.1)
theorem ahead_piece (i : Nat) (r : Bs) : tokA .top i ([32, 9, 35, 32, 195, 169, 10] ++ r) = tokA .top (i + 7) r := by
  show tokA .top i (32 :: 9 :: 35 :: ([32, 195, 169] ++ (10 :: r))) = _
  rw [tok_blank (by decide), tok_blank (by decide), top_com, tok_com [32, 195, 169] _ _ (by decide), com_end _ _ (fun c q e => by cases e; rfl), tok_blank (by decide)]
  simp only [List.length_cons, List.length_nil, show i + 1 + 1 + 1 + (0 + 1 + 1 + 1) + 1 = i + 7 by omega]
theorem pieces_head (q : List Tk) : ∀ c r, q.flatMap pieceT = c :: r → wordB c = false := by
  intro c r h
  cases q with
  | nil => cases h
  | cons t q =>
    rw [List.flatMap_cons] at h
    unfold pieceT at h
    simp only [List.cons_append] at h
    cases h; decide
theorem back_pieces : ∀ (y : List Tk) (i : Nat), (∀ t ∈ y, okTk t) → ∃ L, tokA .top i (y.flatMap pieceT) = .ok L ∧ L.length = y.length ∧ ∀ (j : Nat) (t : Tk), y[j]? = some t → ∃ a, L[j]? = some (t.1, t.2.1, a)
  | [], i, _ => ⟨[], rfl, rfl, fun j t h => by simp at h⟩
  | (k, x, b) :: q, i, h => by
    have hq := pieces_head q
    have step : ∀ n e, tokA .top (i + 7) ((if k = 3 then quoteV x else x) ++ q.flatMap pieceT) = (tokA .top n (q.flatMap pieceT)).pre [(k, x, e)] → ∃ L, tokA .top i (((k, x, b) :: q).flatMap pieceT) = .ok L ∧ L.length = ((k, x, b) :: q).length ∧ ∀ (j : Nat) (t : Tk), ((k, x, b) :: q)[j]? = some t → ∃ a, L[j]? = some (t.1, t.2.1, a) := by
      intro n e he
      obtain ⟨L, h1, h2, h3⟩ := back_pieces q n (fun t ht => h t (by simp [ht]))
      refine ⟨(k, x, e) :: L, ?_, by simp [h2], fun j t hj => ?_⟩
      · rw [List.flatMap_cons]
        unfold pieceT
        rw [List.append_assoc, ahead_piece]
        show tokA .top (i + 7) ((if k = 3 then quoteV x else x) ++ q.flatMap pieceT) = _
        rw [he, h1]; rfl
      · cases j with
        | zero => simp at hj; subst hj; exact ⟨e, rfl⟩
        | succ j => simpa using h3 j t (by simpa using hj)
    rcases h (k, x, b) (by simp) with ⟨hk, h1, h2, h3⟩ | ⟨hk, h2, h3⟩ | ⟨hk, c, h1, h2⟩
    · have hk : k = 2 := hk
      subst hk
      refine step (i + 7 + x.length) (i + 7) ?_
      rw [if_neg (by decide), top_words h1 h3 _ _ hq, if_neg (Nat.not_lt.2 h2)]
    · have hk : k = 3 := hk
      subst hk
      refine step (i + 7 + (quoteV x).length) (i + 7) ?_
      rw [if_pos rfl, top_quote h3, if_neg (Nat.not_lt.2 h2)]
    · have hk : k = 4 := hk
      have h1 : x = [c] := h1
      subst hk; subst h1
      refine step (i + 7 + 1) (i + 7) ?_
      rw [if_neg (by decide), List.cons_append, List.nil_append, top_sign h2]
/-- A quoted text behind a word, ahead of another. -/
theorem quote_mid {s : Bs} (h : ∀ c ∈ s, prtB c = true) (hl : s.length ≤ 255) : tokV ([97, 32] ++ quoteV s ++ [98]) = .ok [(2, [97], 0), (3, s, 2), (2, [98], 2 + (quoteV s).length)] := by
  unfold tokV
  rw [List.append_assoc]
  show tokA .top 0 ([97] ++ (32 :: (quoteV s ++ [98]))) = _
  rw [top_words (p := [97]) (by decide) (by decide) 0 _ (fun c q e => by cases e; decide), if_neg (by decide), tok_blank (by decide), top_quote h, if_neg (Nat.not_lt.2 hl)]
  show ((tokA .top (0 + 1 + 1 + (quoteV s).length) ([98] ++ [])).pre _).pre _ = _
  rw [top_words (p := [98]) (by decide) (by decide) _ [] (fun c q e => by cases e), if_neg (by decide)]
  simp only [tokA, endS, TR.pre, List.append_nil, List.cons_append, List.nil_append, show 0 + 1 + 1 + (quoteV s).length = 2 + (quoteV s).length by omega]
  rfl
/-- What a long text stands for. -/
def longU (text : Bool) (i : Nat) : UInt8 := if text = true ∧ i % 8 = 3 then 34 else 97
def longD (text : Bool) (n : Nat) : Bs := (List.range n).map (longU text)
def longS (text : Bool) (n : Nat) : Bs := (longD text n).flatMap unitQ
theorem longD_len (text : Bool) (n : Nat) : (longD text n).length = n := by simp [longD]
theorem longD_snoc (text : Bool) (n : Nat) : longD text (n + 1) = longD text n ++ [longU text n] := by simp [longD, List.range_succ]
theorem longS_snoc (text : Bool) (n : Nat) : longS text (n + 1) = longS text n ++ unitQ (longU text n) := by unfold longS; rw [longD_snoc, List.flatMap_append]; simp
theorem longU_cases (text : Bool) (i : Nat) : longU text i = 34 ∨ longU text i = 97 := by unfold longU; split; exact Or.inl rfl; exact Or.inr rfl
theorem longD_prt (text : Bool) (n : Nat) : ∀ c ∈ longD text n, prtB c = true := by
  intro c hc
  simp only [longD, List.mem_map] at hc
  obtain ⟨i, _, rfl⟩ := hc
  rcases longU_cases text i with h | h <;> rw [h] <;> decide
theorem longS_word (n : Nat) : longS false n = longD false n ∧ ∀ c ∈ longD false n, wordB c = true := by
  have hu : ∀ i, longU false i = 97 := fun i => by simp [longU]
  constructor
  · induction n with
    | zero => rfl
    | succ n ih => rw [longS_snoc, ih, longD_snoc, hu]; rfl
  · intro c hc
    simp only [longD, List.mem_map] at hc
    obtain ⟨i, _, rfl⟩ := hc
    rw [hu]; decide
theorem long_start (r : Bs) (h : ∀ c q, r = c :: q → wordB c = false) : tokV (120 :: r) = (tokA .top 1 r).pre [(2, [120], 0)] := by
  unfold tokV
  have := top_words (p := [120]) (by decide) (by decide) 0 r h
  rw [if_neg (by decide)] at this
  exact this
theorem long_txt (text : Bool) (n : Nat) (r : Bs) : txtG [] (longS text n ++ r) 3 = txtG (longD text n) r (3 + (longS text n).length) := by
  unfold longS
  rw [txt_units _ _ _ _ (longD_prt text n), List.nil_append]
theorem long_wrong (text : Bool) (n : Nat) : tokV ([120, 32, 34] ++ longS text n ++ [9]) = .bad 1 (3 + (longS text n).length) := by
  show tokV (120 :: 32 :: 34 :: (longS text n ++ [9])) = _
  rw [long_start _ (fun c q e => by cases e; decide), tok_blank (by decide), top_txt, tok_txt, long_txt]
  have e : txtG (longD text n) [9] (3 + (longS text n).length) = .inr (3 + (longS text n).length) := by
    unfold txtG; rw [if_neg (by decide), if_neg (by decide), if_pos (by decide)]
  rw [e]; rfl
theorem long_text (text : Bool) (n : Nat) : tokV ([120, 32, 34] ++ longS text n ++ [34]) = if 255 < n then .bad 2 2 else .ok [(2, [120], 0), (3, longD text n, 2)] := by
  show tokV (120 :: 32 :: 34 :: (longS text n ++ [34])) = _
  rw [long_start _ (fun c q e => by cases e; decide), tok_blank (by decide), top_txt, tok_txt, long_txt, txt_quote]
  simp only [longD_len]
  by_cases hn : 255 < n
  · rw [if_pos hn, if_pos hn]; rfl
  · rw [if_neg hn, if_neg hn, List.drop_eq_nil_of_le (by simp; omega)]; rfl
theorem long_word (n : Nat) : tokV ([120, 32] ++ longS false n) = if n = 0 then .ok [(2, [120], 0)] else if 255 < n then .bad 2 2 else .ok [(2, [120], 0), (2, longD false n, 2)] := by
  obtain ⟨e, hw⟩ := longS_word n
  show tokV (120 :: 32 :: longS false n) = _
  rw [long_start _ (fun c q e => by cases e; decide), tok_blank (by decide), e]
  by_cases h0 : n = 0
  · subst h0; rfl
  · rw [if_neg h0]
    have := top_words (p := longD false n) (fun e => h0 (by rw [← longD_len false n, e]; rfl)) hw 2 [] (fun c q e => by cases e)
    rw [List.append_nil, longD_len] at this
    rw [this]
    by_cases hn : 255 < n
    · rw [if_pos hn, if_pos hn]; rfl
    · rw [if_neg hn, if_neg hn]; rfl
end Go.Proofs.YtfmanmidihofgaaDoor
