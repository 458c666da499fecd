/- Package scan: Lines, as a row of toks in memory. -/
import Derived.Test.YtfmanmidihofgaaDoorSd
import Derived.OneCell
namespace Go.Proofs.YtfmanmidihofgaaDoor
open Go.ChangeShapes Go.WideShapes Go.RowKit Go.Sort
/-- The cells of a line. -/
def cellsT (p : Bs × Nat) : List Value := [.int .i64 1, .string (baS p.1), .int .i64 (p.2 : Int)]
/-- A row of lines lies in memory. -/
def TokAt (w : World) (p : Option Addr) (l : List (Bs × Nat)) : Prop := ∀ (j : Nat) (t : Bs) (n : Nat), l[j]? = some (t, n) → ∃ g, p = some ⟨g, 0, none⟩ ∧ g < w.heap.size ∧ w.cell? ⟨g, j * 3, none⟩ = some (.int .i64 1) ∧ w.cell? ⟨g, j * 3 + 1, none⟩ = some (.string (baS t)) ∧ w.cell? ⟨g, j * 3 + 2, none⟩ = some (.int .i64 (n : Int))
theorem TokAt.below {w w' : World} {p : Option Addr} {l : List (Bs × Nat)} (h : TokAt w p l) (hb : Below w.heap.size w w') : TokAt w' p l := fun j t n hj => by
  obtain ⟨g, e, hg, h0, h1, h2⟩ := h j t n hj
  exact ⟨g, e, Nat.lt_of_lt_of_le hg hb.size, (olds hb g _ hg).trans h0, (olds hb g _ hg).trans h1, (olds hb g _ hg).trans h2⟩
theorem flat3 : ∀ (l : List (Bs × Nat)) (j i : Nat) (p : Bs × Nat), l[j]? = some p → i < 3 → (l.flatMap cellsT)[j * 3 + i]? = (cellsT p)[i]?
  | [], j, i, p, h, _ => by simp at h
  | q :: r, 0, i, p, h, hi => by
    simp at h; subst h
    rw [List.flatMap_cons, List.getElem?_append_left (by simp [cellsT]; omega), Nat.zero_mul, Nat.zero_add]
  | q :: r, j + 1, i, p, h, hi => by
    rw [List.flatMap_cons, List.getElem?_append_right (by simp [cellsT]; omega), show (j + 1) * 3 + i - (cellsT q).length = j * 3 + i by simp [cellsT]; omega]
    exact flat3 r j i p (by simpa using h) hi
theorem tokAt_own {w : World} {base c : Nat} {p : Option Addr} {l : List (Bs × Nat)} (h : w.ownsRow base 36 3 (.slice p l.length c) l.length (l.flatMap cellsT)) : TokAt w p l := fun j t n hj => by
  have hlt : j < l.length := (List.getElem?_eq_some_iff.1 hj).1
  have h' := h
  rcases h.2 with ⟨_, h0⟩ | ⟨g, cap, cur, hv, b, hg2, hcap, _⟩
  · omega
  · obtain ⟨rfl, rfl⟩ : p = some ⟨g, 0, none⟩ ∧ c = cap := by injection hv with a _ b; exact ⟨a, b⟩
    refine ⟨g, rfl, (Array.getElem?_eq_some_iff.1 hg2).1, ?_, ?_, ?_⟩
    · have := h'.cellAt (j * 3) (by omega); rw [this]; exact flat3 l j 0 _ hj (by decide)
    · rw [h'.cellAt (j * 3 + 1) (by omega), flat3 l j 1 _ hj (by decide)]; rfl
    · rw [h'.cellAt (j * 3 + 2) (by omega), flat3 l j 2 _ hj (by decide)]; rfl
/-- What Lines hands back. -/
def LinesE (w : World) (l : List (Bs × Nat)) (e : Ending) (w' : World) : Prop := Below w.heap.size w w' ∧ ∃ p c, e = .returned (.slice p l.length c) ∧ TokAt w' p l
theorem infoT : (Tryd.prog.info? 36).map (fun i => (i.zero, i.size, i.bytes)) = some (some (.agg #[.int .i64 0, .string .empty, .int .i64 0]), 3, 32) := by kernel_rfl
theorem three_new {w : World} {a b c : Value} {t : TypeId} : ∀ (j : Nat) (x : Value), [a, b, c][j]? = some x → (w.alloc (.cells #[a, b, c] t)).cell? ((⟨w.heap.size, 0, none⟩ : Addr).add j) = some x := by
  intro j x hj
  match j, hj with
  | 0, hj => simp at hj; subst hj; simp [Addr.add]
  | 1, hj => simp at hj; subst hj; simp [Addr.add]
  | 2, hj => simp at hj; subst hj; simp [Addr.add]
set_option maxHeartbeats 8000000 in
set_option maxRecDepth 100000 in
theorem lines_x (l : Bs) (a : Option Addr) (c : Nat) (w : World) (h : BytesAt w a l) (hc : l.length ≤ c) (hl : l.length ≤ 1000000) :
    Calls Tryd.prog 15 #[.slice a l.length c] w fun e w' => LinesE w (linesV l) e w' := by
  obtain ⟨i0, hi, hz0, hz1, hz2⟩ := info_parts infoT
  have HH := Lib.hid h
  have HN : Hid ((linesV l).length ≤ 1000000) := Nat.le_trans (linesV_len l) hl
  have HL : Hid (linesV l = [] ++ linesG [] 0 (l.drop 0)) := rfl
  generalize linesV l = L at *
  have HA : Hid (∀ V t, BytesAt V a l → t ≤ l.length → Calls Tryd.prog 25 #[.slice a l.length c, .int .i64 (t : Nat)] V fun e w' => e = .returned (.tuple #[.string (baS (lineT l t)), .int .i64 (lineN l t)]) ∧ Below V.heap.size V w') := fun V t hV ht => lineAt_x l a c t V hV hc hl ht
  clear h
  go_enter Tryd.func15, Tryd.ntmps15
  go_wp2_with fail
  go_loopw [3, 4] (fun sv tv wr => ∃ (acc : List (Bs × Nat)) (t : Nat) (p : Option Addr) (q : Nat), sv = .slice p acc.length q ∧ tv = .int .i64 (t : Int) ∧ Hid (L = acc ++ linesG [] t (l.drop t)) ∧ t ≤ l.length ∧ wr.ownsRow w.heap.size 36 3 (.slice p acc.length q) acc.length (acc.flatMap cellsT) ∧ Below w.heap.size w wr) (fun _ tv _ => l.length + 1 - intN tv)
  case atStart => exact ⟨[], 0, none, 0, rfl, rfl, HL, Nat.zero_le _, World.ownsRow_nil _ _ _ _, Below.refl _ _⟩
  case round =>
    obtain ⟨acc, t, p, q, rfl, rfl, hacc, ht, hown, hb⟩ := hrel
    by_cases hlt : t < l.length
    · obtain ⟨s1, s2, s3⟩ := lines_step hlt
      have HF : Hid (L = (acc ++ [(lineT l t, t)]) ++ linesG [] (lineN l t) (l.drop (lineN l t))) := by show _ = _; rw [hacc.out, s1]; simp
      have hlen : acc.length + 1 ≤ L.length := by rw [HF.out]; simp
      have hN := HN.out
      have hcall := Lib.hid (HA.out wr t (HH.out.below hb) ht)
      have ecell : cellsT (lineT l t, t) = [.int .i64 1, .string (baS (lineT l t)), .int .i64 (t : Int)] := rfl
      clear s1 hacc HA
      generalize lineT l t = T at *
      generalize lineN l t = N at *
      go_wp2_with fail
      refine hcall.out.mono ?_
      rintro e w1 ⟨rfl, hb1⟩
      have hown1 := own_next hown hb1
      have B1 := below_next hb hb1
      have hzs := B1.size
      clear hown hb hb1 hcall
      go_wp2_with (at_builtin; refine wpList_append_lies _ (by rfl) _ _ 30 (by rfl) w.heap.size 36 i0 (.agg #[.int .i64 0, .string .empty, .int .i64 0]) 3 32 Tryd.underlying30 hi hz0 hz1 hz2 rfl (by decide) _ _ _ (by rfl) (hown1.alloc _) ⟨w1.heap.size, 0, none⟩ 1 1 [.int .i64 1, .string (baS T), .int .i64 (t : Int)] (by rfl) (by rfl) three_new (fun x hx => by simp at hx; rcases hx with rfl | rfl | rfl <;> rfl) (by decide) (by unfold maxLen; omega) (by omega) (by simp; omega) (w1.heap.size + 1) (by simp) ?_)
      intro g3 cap w4 hown4 hgrow hat4 hlt4
      have B4 : Below w.heap.size w w4 := (ball B1).grown hgrow (by simp; omega) (fun k hk => (hown1.lt k hk).1)
      rw [← ecell] at hown4
      clear hgrow hat4 hown1 B1
      go_wp2
      go_roundw
      case rel =>
        exact ⟨acc ++ [(T, t)], N, some ⟨g3, 0, none⟩, cap, by simp, rfl, HF, s3, by simpa using hown4, B4⟩
      case measure => simp [intN]; omega
    · have HF : Hid (L = acc) := by show _ = _; rw [hacc.out, List.drop_eq_nil_of_le (by omega)]; simp [linesG]
      obtain rfl : t = l.length := by omega
      clear hacc HA
      go_wp2_with fail
      go_ret
      refine ⟨hb, p, q, ?_, ?_⟩
      · rw [HF.out]; rfl
      · rw [HF.out]; exact tokAt_own hown
end Go.Proofs.YtfmanmidihofgaaDoor
