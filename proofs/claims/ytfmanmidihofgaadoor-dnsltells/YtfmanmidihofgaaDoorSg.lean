/- The second writing's Lines. -/
import Derived.Test.YtfmanmidihofgaaDoorSf
import Derived.Test.YtfmanmidihofgaaDoorTb
namespace Go.Proofs.YtfmanmidihofgaaDoor
open Go.ChangeShapes Go.WideShapes Go.RowKit Go.Sort
theorem piece_trim {l : Bs} {f i : Nat} (h : l[i]? = some 13) (hf : f ≤ i) : trimV (pieceV l f (i + 1)) = pieceV l f i := by
  rw [piece_snoc h hf]; unfold trimV; simp
theorem piece_plain {l : Bs} {f i : Nat} {c : UInt8} (h : l[i]? = some c) (hf : f ≤ i) (hc : c ≠ 13) : trimV (pieceV l f (i + 1)) = pieceV l f (i + 1) := by
  rw [piece_snoc h hf]; unfold trimV; simp [hc]
set_option maxHeartbeats 4000000 in
set_option maxRecDepth 100000 in
theorem linesR_none (c : Nat) (w : World) :
    Calls Tryd.prog 19 #[.slice none 0 c] w fun e w' => LinesE w [] e w' := by
  go_enter Tryd.func19, Tryd.ntmps19
  go_wp2
  go_loopw [3, 4, 5] (fun sv fv iv wr => ∃ i : Nat, sv = .slice none 0 0 ∧ fv = .int .i64 0 ∧ iv = .int .i64 (i : Int) ∧ i ≤ 1 ∧ wr = w) (fun _ _ iv _ => 3 - intN iv)
  case atStart => exact ⟨0, rfl, rfl, rfl, Nat.zero_le _, rfl⟩
  case round =>
    obtain ⟨i, rfl, rfl, rfl, hi, rfl⟩ := hrel
    by_cases h0 : i = 0
    · subst h0
      go_wp2
      exact ⟨⟨1, rfl, rfl, by simp, Nat.le_refl _, trivial⟩, by simp [intN]⟩
    · obtain rfl : i = 1 := by omega
      go_wp2
      go_ret
      exact ⟨Below.refl _ _, none, 0, rfl, fun j t n hj => by simp at hj⟩
/-- What is left of the lines when the walk stands at a place, the line's first byte at another. -/
def restV (l : Bs) (f i : Nat) : List (Bs × Nat) := if i ≤ l.length then linesG (pieceV l f i) f (l.drop i) else []
theorem rest_go {l : Bs} {f i : Nat} {c : UInt8} (h : l[i]? = some c) (hf : f ≤ i) (hc : c ≠ 10) : restV l f i = restV l f (i + 1) := by
  have hi := (List.getElem?_eq_some_iff.1 h).1
  unfold restV
  rw [if_pos (by omega), if_pos (by omega), List.drop_eq_getElem_cons hi, linesG, (List.getElem?_eq_some_iff.1 h).2, if_neg hc, ← piece_snoc h hf]
theorem rest_cut {l : Bs} {f i : Nat} (h : l[i]? = some 10) (hf : f ≤ i) : restV l f i = (trimV (pieceV l f i), f) :: restV l (i + 1) (i + 1) := by
  have hi := (List.getElem?_eq_some_iff.1 h).1
  unfold restV
  rw [if_pos (by omega), if_pos (by omega), List.drop_eq_getElem_cons hi, linesG, (List.getElem?_eq_some_iff.1 h).2, if_pos rfl, piece_nil, piece_len (by omega), show f + (i - f) + 1 = i + 1 by omega]
theorem rest_end (l : Bs) (f : Nat) (hf : f ≤ l.length) : restV l f l.length = if f = l.length then [] else [(pieceV l f l.length, f)] := by
  unfold restV
  rw [if_pos (Nat.le_refl _), List.drop_length, linesG]
  by_cases h : f = l.length
  · rw [if_pos h, h, piece_nil, if_pos rfl]
  · rw [if_neg h, if_neg (fun e => h (by have := congrArg List.length e; rw [piece_len (Nat.le_refl _)] at this; simp at this; omega))]
theorem rest_off (l : Bs) (f : Nat) : restV l f (l.length + 1) = [] := by unfold restV; rw [if_neg (by omega)]
theorem trim_zero (l : Bs) (i : Nat) : trimV (pieceV l i i) = pieceV l i i := by rw [piece_nil]; rfl
/-- One line of the walk: which one, and where it ends. -/
theorem rest_one {l : Bs} {f i : Nat} (hf : f ≤ i) (hi : i ≤ l.length) (ho : ¬ (i = l.length ∧ f = i)) (hc : i < l.length → l[i]? = some 10) :
    ∃ k, f ≤ k ∧ k ≤ l.length ∧ restV l f i = (pieceV l f k, f) :: restV l (i + 1) (i + 1) ∧
      ((i < l.length ∧ f < i ∧ l[i - 1]? = some 13 ∧ k = i - 1) ∨ (¬ (i < l.length ∧ f < i ∧ l[i - 1]? = some 13) ∧ k = i)) := by
  by_cases hlt : i < l.length
  · have h10 := hc hlt
    by_cases h13 : f < i ∧ l[i - 1]? = some 13
    · refine ⟨i - 1, by omega, by omega, ?_, Or.inl ⟨hlt, h13.1, h13.2, rfl⟩⟩
      rw [rest_cut h10 hf]
      have := piece_trim h13.2 (f := f) (by omega)
      rw [show i - 1 + 1 = i by omega] at this
      rw [this]
    · refine ⟨i, hf, hi, ?_, Or.inr ⟨fun h => h13 h.2, rfl⟩⟩
      rw [rest_cut h10 hf]
      by_cases hfi : f = i
      · subst hfi; rw [trim_zero]
      · have hlt' : i - 1 < l.length := by omega
        have := piece_plain (List.getElem?_eq_getElem hlt') (f := f) (by omega) (fun e => h13 ⟨by omega, by rw [List.getElem?_eq_getElem hlt', e]⟩)
        rw [show i - 1 + 1 = i by omega] at this
        rw [this]
  · obtain rfl : i = l.length := by omega
    refine ⟨l.length, hf, Nat.le_refl _, ?_, Or.inr ⟨fun h => hlt h.1, rfl⟩⟩
    rw [rest_end l f hf, if_neg (fun e => ho ⟨rfl, e⟩), rest_off]
set_option maxHeartbeats 8000000 in
set_option maxRecDepth 100000 in
theorem linesR_some (l : Bs) (ad : Addr) (c : Nat) (w : World) (h : BytesAt w (some ad) l) (hc : l.length ≤ c) (hl : l.length ≤ 1000000) :
    Calls Tryd.prog 19 #[.slice (some ad) l.length c] w fun e w' => LinesE w (linesV l) e w' := by
  obtain ⟨i0, hi, hz0, hz1, hz2⟩ := info_parts infoT
  have HH := Lib.hid h
  have HN : Hid ((linesV l).length ≤ 1000000) := Nat.le_trans (linesV_len l) hl
  have HL : Hid (linesV l = [] ++ restV l 0 0) := by show _ = _; unfold restV linesV; rw [if_pos (Nat.zero_le _)]; rfl
  generalize linesV l = L at *
  have HC : Hid (∀ V, BytesAt V (some ad) l → ∀ f k, k ≤ l.length → (convert 29 9 (.slice (adv (some ad) c f) (k - f) (c - f))).run Tryd.prog V = .ok (.string (baS (pieceV l f k))) V) := fun V hV f k hk => piece_at hV hc f k hk
  clear h
  go_enter Tryd.func19, Tryd.ntmps19
  go_wp2_with fail
  go_loopw [3, 4, 5] (fun sv fv iv wr => ∃ (acc : List (Bs × Nat)) (f i : Nat) (p : Option Addr) (q : Nat), sv = .slice p acc.length q ∧ fv = .int .i64 (f : Int) ∧ iv = .int .i64 (i : Int) ∧ Hid (L = acc ++ restV l f i) ∧ i ≤ l.length + 1 ∧ f ≤ i ∧ wr.ownsRow w.heap.size 36 3 (.slice p acc.length q) acc.length (acc.flatMap cellsT) ∧ Below w.heap.size w wr) (fun _ _ iv _ => l.length + 3 - intN iv)
  case atStart => exact ⟨[], 0, 0, none, 0, rfl, rfl, rfl, HL, Nat.zero_le _, Nat.le_refl _, World.ownsRow_nil _ _ _ _, Below.refl _ _⟩
  case round =>
    obtain ⟨acc, f, i, p, q, rfl, rfl, rfl, hacc, hi1, hfi, hown, hb⟩ := hrel
    by_cases hle : i ≤ l.length
    · by_cases hgo : (i < l.length ∧ l[i]? ≠ some 10) ∨ (i = l.length ∧ f = i)
      · rcases hgo with ⟨hlt, hne⟩ | ⟨rfl, rfl⟩
        · have hcell := bytesAt_cell (HH.out.below hb) i hlt
          have hne' : l[i]'hlt ≠ 10 := fun e => hne (by rw [List.getElem?_eq_getElem hlt, e])
          have hb10 : ¬ (((l[i]'hlt).toNat : Int) = 10) := fun e => hne' (is10 (by simp [e]))
          have HF : Hid (L = acc ++ restV l f (i + 1)) := by show _ = _; rw [hacc.out, rest_go (List.getElem?_eq_getElem hlt) hfi hne']
          clear hacc HC
          generalize (l[i]'hlt).toNat = u at *
          go_wp2
          refine ⟨⟨acc, f, i + 1, p, q, rfl, rfl, by simp, HF, by omega, by omega, hown, hb⟩, by simp [intN]; omega⟩
        · have HF : Hid (L = acc ++ restV l l.length (l.length + 1)) := by show _ = _; rw [hacc.out, rest_end _ _ (Nat.le_refl _), if_pos rfl, rest_off]
          clear hacc HC
          go_wp2
          refine ⟨⟨acc, l.length, l.length + 1, p, q, rfl, rfl, by simp, HF, by omega, by omega, hown, hb⟩, by simp [intN]; omega⟩
      · obtain ⟨k, hfk, hkl, HR, hcase⟩ := rest_one hfi hle (fun e => hgo (Or.inr e)) (fun hlt => Classical.not_not.1 (fun e => hgo (Or.inl ⟨hlt, e⟩)))
        have HF : Hid (L = (acc ++ [(pieceV l f k, f)]) ++ restV l (i + 1) (i + 1)) := by show _ = _; rw [hacc.out, HR]; simp
        have hlen : acc.length + 1 ≤ L.length := by rw [HF.out]; simp
        have hN := HN.out
        have hzs := hb.size
        have hv := HC.out wr (HH.out.below hb) f k hkl
        have hsl := fun V => sl_lh (some ad) l.length c f k hfk (by omega) V
        have ecell : cellsT (pieceV l f k, f) = [.int .i64 1, .string (baS (pieceV l f k)), .int .i64 (f : Int)] := rfl
        by_cases hlt : i < l.length
        · have h10 : l[i]'hlt = 10 := by
            have := Classical.not_not.1 (fun e => hgo (Or.inl ⟨hlt, e⟩))
            rw [List.getElem?_eq_getElem hlt] at this; exact Option.some.inj this
          have hcell := bytesAt_cell (HH.out.below hb) i hlt
          rw [h10] at hcell
          by_cases hff : f < i
          · have hlt' : i - 1 < l.length := by omega
            have hcell' := bytesAt_cell (HH.out.below hb) (i - 1) hlt'
            have hpre : IntKind.i64.wrap ((i : Int) - 1) = ((i - 1 : Nat) : Int) := by rw [IntKind.wrap_i64]; omega
            by_cases h13 : l[i - 1]? = some 13
            · have h13' : l[i - 1]'hlt' = 13 := by rw [List.getElem?_eq_getElem hlt'] at h13; exact Option.some.inj h13
              rw [h13'] at hcell'
              obtain rfl : k = i - 1 := by rcases hcase with h | h; exact h.2.2.2; exact absurd ⟨hlt, hff, h13⟩ h.1
              clear hacc HC HR hcase hgo h13 h13' h10
              generalize pieceV l f (i - 1) = T at *
              go_wp2_with (at_builtin; refine wpList_append_lies _ (by rfl) _ _ 30 (by rfl) w.heap.size 36 i0 (.agg #[.int .i64 0, .string .empty, .int .i64 0]) 3 32 Tryd.underlying30 hi hz0 hz1 hz2 rfl (by decide) _ _ _ (by rfl) (hown.alloc _) ⟨wr.heap.size, 0, none⟩ 1 1 [.int .i64 1, .string (baS T), .int .i64 (f : Int)] (by rfl) (by rfl) three_new (fun x hx => by simp at hx; rcases hx with rfl | rfl | rfl <;> rfl) (by decide) (by unfold maxLen; omega) (by omega) (by simp; omega) (wr.heap.size + 1) (by simp) ?_)
              intro g3 cap w4 hown4 hgrow hat4 hlt4
              have B4 : Below w.heap.size w w4 := (ball hb).grown hgrow (by simp; omega) (fun k hk => (hown.lt k hk).1)
              rw [← ecell] at hown4
              clear hgrow hat4 hown hb
              go_wp2
              refine ⟨⟨acc ++ [(T, f)], i + 1, i + 1, some ⟨g3, 0, none⟩, cap, by simp, by simp, by simp, HF, by omega, Nat.le_refl _, by simpa using hown4, B4⟩, by simp [intN]; omega⟩
            · have h13' : ¬ (((l[i - 1]'hlt').toNat : Int) = 13) := fun e => h13 (by rw [List.getElem?_eq_getElem hlt']; congr 1; apply UInt8.toNat_inj.1; show (l[i - 1]'hlt').toNat = 13; omega)
              obtain rfl : k = i := by rcases hcase with h | h; exact absurd h.2.2.1 h13; exact h.2
              clear hacc HC HR hcase hgo h13 h10
              generalize (l[k - 1]'hlt').toNat = u at *
              generalize pieceV l f k = T at *
              go_wp2_with (at_builtin; refine wpList_append_lies _ (by rfl) _ _ 30 (by rfl) w.heap.size 36 i0 (.agg #[.int .i64 0, .string .empty, .int .i64 0]) 3 32 Tryd.underlying30 hi hz0 hz1 hz2 rfl (by decide) _ _ _ (by rfl) (hown.alloc _) ⟨wr.heap.size, 0, none⟩ 1 1 [.int .i64 1, .string (baS T), .int .i64 (f : Int)] (by rfl) (by rfl) three_new (fun x hx => by simp at hx; rcases hx with rfl | rfl | rfl <;> rfl) (by decide) (by unfold maxLen; omega) (by omega) (by simp; omega) (wr.heap.size + 1) (by simp) ?_)
              intro g3 cap w4 hown4 hgrow hat4 hlt4
              have B4 : Below w.heap.size w w4 := (ball hb).grown hgrow (by simp; omega) (fun k hk => (hown.lt k hk).1)
              rw [← ecell] at hown4
              clear hgrow hat4 hown hb
              go_wp2
              refine ⟨⟨acc ++ [(T, f)], k + 1, k + 1, some ⟨g3, 0, none⟩, cap, by simp, by simp, by simp, HF, by omega, Nat.le_refl _, by simpa using hown4, B4⟩, by simp [intN]; omega⟩
          · obtain rfl : k = i := by rcases hcase with h | h; exact absurd h.2.1 hff; exact h.2
            obtain rfl : f = k := by omega
            simp only [Nat.sub_self] at hv hsl
            clear hacc HC HR hcase hgo h10
            generalize pieceV l f f = T at *
            go_wp2_with (at_builtin; refine wpList_append_lies _ (by rfl) _ _ 30 (by rfl) w.heap.size 36 i0 (.agg #[.int .i64 0, .string .empty, .int .i64 0]) 3 32 Tryd.underlying30 hi hz0 hz1 hz2 rfl (by decide) _ _ _ (by rfl) (hown.alloc _) ⟨wr.heap.size, 0, none⟩ 1 1 [.int .i64 1, .string (baS T), .int .i64 (f : Int)] (by rfl) (by rfl) three_new (fun x hx => by simp at hx; rcases hx with rfl | rfl | rfl <;> rfl) (by decide) (by unfold maxLen; omega) (by omega) (by simp; omega) (wr.heap.size + 1) (by simp) ?_)
            intro g3 cap w4 hown4 hgrow hat4 hlt4
            have B4 : Below w.heap.size w w4 := (ball hb).grown hgrow (by simp; omega) (fun k hk => (hown.lt k hk).1)
            rw [← ecell] at hown4
            clear hgrow hat4 hown hb
            go_wp2
            refine ⟨⟨acc ++ [(T, f)], f + 1, f + 1, some ⟨g3, 0, none⟩, cap, by simp, by simp, by simp, HF, by omega, Nat.le_refl _, by simpa using hown4, B4⟩, by simp [intN]; omega⟩
        · obtain rfl : k = i := by rcases hcase with h | h; exact absurd h.1 hlt; exact h.2
          obtain rfl : k = l.length := by omega
          have hff : f < l.length := by
            rcases Nat.lt_or_ge f l.length with h | h
            · exact h
            · exact absurd (Or.inr ⟨rfl, by omega⟩) hgo
          clear hacc HC HR hcase hgo
          generalize pieceV l f l.length = T at *
          go_wp2_with (at_builtin; refine wpList_append_lies _ (by rfl) _ _ 30 (by rfl) w.heap.size 36 i0 (.agg #[.int .i64 0, .string .empty, .int .i64 0]) 3 32 Tryd.underlying30 hi hz0 hz1 hz2 rfl (by decide) _ _ _ (by rfl) (hown.alloc _) ⟨wr.heap.size, 0, none⟩ 1 1 [.int .i64 1, .string (baS T), .int .i64 (f : Int)] (by rfl) (by rfl) three_new (fun x hx => by simp at hx; rcases hx with rfl | rfl | rfl <;> rfl) (by decide) (by unfold maxLen; omega) (by omega) (by simp; omega) (wr.heap.size + 1) (by simp) ?_)
          intro g3 cap w4 hown4 hgrow hat4 hlt4
          have B4 : Below w.heap.size w w4 := (ball hb).grown hgrow (by simp; omega) (fun k hk => (hown.lt k hk).1)
          rw [← ecell] at hown4
          clear hgrow hat4 hown hb
          go_wp2
          refine ⟨⟨acc ++ [(T, f)], l.length + 1, l.length + 1, some ⟨g3, 0, none⟩, cap, by simp, by simp, by simp, HF, by omega, Nat.le_refl _, by simpa using hown4, B4⟩, by simp [intN]; omega⟩
    · have HF : Hid (L = acc) := by show _ = _; rw [hacc.out, show i = l.length + 1 by omega, rest_off]; simp
      clear hacc HC
      go_wp2_with fail
      go_ret
      refine ⟨hb, p, q, ?_, ?_⟩
      · rw [HF.out]; rfl
      · rw [HF.out]; exact tokAt_own hown
theorem linesR_x (l : Bs) (a : Option Addr) (c : Nat) (w : World) (h : BytesAt w a l) (hc : l.length ≤ c) (hl : l.length ≤ 1000000) :
    Calls Tryd.prog 19 #[.slice a l.length c] w fun e w' => LinesE w (linesV l) e w' := by
  cases a with
  | some ad => exact linesR_some l ad c w h hc hl
  | none =>
    have hn : l = [] := by
      cases l with
      | nil => rfl
      | cons a r => obtain ⟨ad, e, _⟩ := h 0 a rfl; cases e
    subst hn
    exact linesR_none c w
end Go.Proofs.YtfmanmidihofgaaDoor
