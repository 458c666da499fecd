/- dnsl.rowOf: the row that a line tells, or where it is wrong. -/
import Derived.Test.YtfmanmidihofgaaDoorXf
import Derived.Test.YtfmanmidihofgaaDoorXk
import Derived.Deep.DeepCutAuto
import Derived.Deep.RegionHeld3
import Derived.BigRegion
namespace Go.Proofs.YtfmanmidihofgaaDoor
open Go.ChangeShapes Go.WideShapes Go.RowKit Go.Sort

/-- What a line's row is handed back as. -/
def RowE (w : World) (r : Rw ⊕ (Nat × Nat)) (e : Ending) (w' : World) : Prop :=
  Below w.heap.size w w' ∧ match r with
    | .inl t => ∃ p c, e = .returned (.tuple #[.agg #[.string (baS t.1), .slice p t.2.1.length c, .int .i64 (t.2.2 : Int)], .agg #[.int .i64 0, .int .i64 0]]) ∧ TokK w' p t.2.1 ∧ ∀ g, p = some ⟨g, 0, none⟩ → w.heap.size ≤ g ∧ g < w'.heap.size
    | .inr (k, x) => e = .returned (.tuple #[.agg #[.string ⟨#[]⟩, .slice none 0 0, .int .i64 0], .agg #[.int .i64 (k : Int), .int .i64 (x : Int)]])
/-- What a row's parts are handed back as, in one form. -/
def PartsR (n₀ : Nat) (r : List Tk ⊕ (Nat × Nat)) (p : Option Addr) (n c : Nat) (q x : Int) (w' : World) : Prop :=
  match r with
    | .inl ts => n = ts.length ∧ q = 0 ∧ x = 0 ∧ TokK w' p ts ∧ ∀ g, p = some ⟨g, 0, none⟩ → n₀ ≤ g ∧ g < w'.heap.size
    | .inr (k, y) => p = none ∧ n = 0 ∧ c = 0 ∧ q = (k : Int) ∧ x = (y : Int)
theorem PartsE.one {w w' : World} {r : List Tk ⊕ (Nat × Nat)} {e : Ending} (h : PartsE w r e w') : ∃ p n c q x, e = .returned (.tuple #[.slice p n c, .agg #[.int .i64 q, .int .i64 x]]) ∧ PartsR w.heap.size r p n c q x w' ∧ Below w.heap.size w w' := by
  obtain ⟨hb, h⟩ := h
  cases r with
  | inl ts => obtain ⟨p, c, e, h1, h2⟩ := h; exact ⟨p, ts.length, c, 0, 0, e, ⟨rfl, rfl, rfl, h1, h2⟩, hb⟩
  | inr y => obtain ⟨k, y⟩ := y; exact ⟨none, 0, 0, k, y, h, ⟨rfl, rfl, rfl, rfl, rfl⟩, hb⟩
theorem PartsR.keep {n₀ n c : Nat} {r : List Tk ⊕ (Nat × Nat)} {p : Option Addr} {q x : Int} {w w' : World} (h : PartsR n₀ r p n c q x w) (hs : w.heap.size ≤ w'.heap.size) (hk : ∀ g, n₀ ≤ g → g < w.heap.size → ∀ o, w'.cell? ⟨g, o, none⟩ = w.cell? ⟨g, o, none⟩) : PartsR n₀ r p n c q x w' := by
  cases r with
  | inl ts =>
    obtain ⟨a, b, c', d, f⟩ := h
    refine ⟨a, b, c', fun j t hj => ?_, fun g hg => ⟨(f g hg).1, Nat.lt_of_lt_of_le (f g hg).2 hs⟩⟩
    obtain ⟨g, e, hg, h0, h1, h2⟩ := d j t hj
    have := hk g (f g e).1 hg
    exact ⟨g, e, Nat.lt_of_lt_of_le hg hs, (this _).trans h0, (this _).trans h1, (this _).trans h2⟩
  | inr y => exact h
/-- The function's own results. -/
structure FrR (z : Nat) (W : World) : Prop where
  d0 : W.cell? ⟨z + 1, 0, none⟩ = some (.string ⟨#[]⟩)
  d1 : W.cell? ⟨z + 1, 1, none⟩ = some (.slice none 0 0)
  d2 : W.cell? ⟨z + 1, 2, none⟩ = some (.int .i64 0)
  df : ∀ o, W.frozen? ⟨z + 1, o, none⟩ = false
  e0 : W.cell? ⟨z + 1 + 1, 0, none⟩ = some (.int .i64 0)
  e1 : W.cell? ⟨z + 1 + 1, 1, none⟩ = some (.int .i64 0)
  ef : ∀ o, W.frozen? ⟨z + 1 + 1, o, none⟩ = false
  lt : z + 3 ≤ W.heap.size
theorem FrR.next {z : Nat} {W V : World} (h : FrR z W) (hb : Below (z + 3) W V) : FrR z V :=
  ⟨(hb.cell (p := ⟨z + 1, 0, none⟩) (by simp)).trans h.d0, (hb.cell (p := ⟨z + 1, 1, none⟩) (by simp)).trans h.d1, (hb.cell (p := ⟨z + 1, 2, none⟩) (by simp)).trans h.d2, fun o => (hb.frozen (p := ⟨z + 1, o, none⟩) (by simp)).trans (h.df o),
    (hb.cell (p := ⟨z + 1 + 1, 0, none⟩) (by simp)).trans h.e0, (hb.cell (p := ⟨z + 1 + 1, 1, none⟩) (by simp)).trans h.e1, fun o => (hb.frozen (p := ⟨z + 1 + 1, o, none⟩) (by simp)).trans (h.ef o), by have := h.lt; have := hb.size; omega⟩
theorem drew_heap (W : World) : W.drew.heap = W.heap := rfl
/-- Both results written. -/
theorem five_set {z : Nat} {W X : World} {r0 r1 r2 k x : Value} (F : FrR z W) (hX : (((((W.setCell ⟨z + 1, 0, none⟩ r0).setCell ⟨z + 1, 1, none⟩ r1).setCell ⟨z + 1, 2, none⟩ r2).setCell ⟨z + 1 + 1, 0, none⟩ k).setCell ⟨z + 1 + 1, 1, none⟩ x).drew = X) :
    (X.cell? ⟨z + 1, 0, none⟩ = some r0 ∧ X.cell? ⟨z + 1, 1, none⟩ = some r1 ∧ X.cell? ⟨z + 1, 2, none⟩ = some r2 ∧ X.cell? ⟨z + 1 + 1, 0, none⟩ = some k ∧ X.cell? ⟨z + 1 + 1, 1, none⟩ = some x) ∧ (∀ w, w.heap.size ≤ z → Below w.heap.size w W → Below w.heap.size w X) ∧ W.heap.size ≤ X.heap.size ∧ ∀ g, z + 3 ≤ g → ∀ o, X.cell? ⟨g, o, none⟩ = W.cell? ⟨g, o, none⟩ := by
  obtain ⟨d0, d1, d2, df, e0, e1, ef, lt⟩ := F
  subst hX
  refine ⟨⟨?_, ?_, ?_, ?_, ?_⟩, fun w hw hb => ?_, by simp [World.setCell], fun g hg o => ?_⟩
  · simp [go_sem, *]
  · simp [go_sem, *]
  · simp [go_sem, *]
  · simp [go_sem, *]
  · simp [go_sem, *]
  · exact (((((hb.setCell (by simp; omega) _).setCell (by simp; omega) _).setCell (by simp; omega) _).setCell (by simp; omega) _).setCell (by simp; omega) _).drew
  · have n1 : g ≠ z + 1 := by omega
    have n2 : g ≠ z + 1 + 1 := by omega
    refine World.cell?_of_block (a := ⟨g, o, none⟩) ?_
    rw [drew_heap, Below.heap_setCell _ _ _ _ n2, Below.heap_setCell _ _ _ _ n2, Below.heap_setCell _ _ _ _ n1, Below.heap_setCell _ _ _ _ n1, Below.heap_setCell _ _ _ _ n1]
theorem PartsR.lower {n₀ n₁ n c : Nat} {r : List Tk ⊕ (Nat × Nat)} {p : Option Addr} {q x : Int} {w : World} (h : PartsR n₁ r p n c q x w) (hn : n₀ ≤ n₁) : PartsR n₀ r p n c q x w := by
  cases r with
  | inl ts =>
    obtain ⟨a, b, c', d, f⟩ := h
    exact ⟨a, b, c', d, fun g hg => ⟨Nat.le_trans hn (f g hg).1, (f g hg).2⟩⟩
  | inr y => exact h
set_option maxHeartbeats 8000000 in
set_option maxRecDepth 100000 in
theorem rowOf_x (s : Bs) (a : Nat) (w : World) (hs : s.length ≤ 1000000) (ha : a + s.length ≤ 1000000) :
    Calls Tryd.prog 17 #[.agg #[.int .i64 1, .string (baS s), .int .i64 (a : Int)]] w fun e w' => RowE w (rowV s a) e w' := by
  have hk := keyN_le s
  have hsz := baS_size s
  have HE := Lib.hid (fun V => keyEnd_x s V hs)
  have HV : Hid (rowV s a = if keyN s = 0 ∨ s[keyN s]? ≠ some 61 then .inr (1, a + keyN s) else match partsA (a + keyN s + 1) [] (a + keyN s + 1) (s.drop (keyN s + 1)) with | .inl ts => .inl (s.take (keyN s), ts, a) | .inr e => .inr e) := Lib.hid rfl
  have HP := Lib.hid (fun V => partsOf_x (s.drop (keyN s + 1)) (a + keyN s + 1) V (by rw [List.length_drop]; omega) (by omega))
  generalize hR : rowV s a = R at *
  generalize hK : keyN s = K at *
  have hw1 : IntKind.i64.wrap ((a : Int) + (K : Int)) = (a : Int) + (K : Int) := by rw [IntKind.wrap_i64]; omega
  have hw2 : IntKind.i64.wrap ((a : Int) + (K : Int) + 1) = (a : Int) + (K : Int) + 1 := by rw [IntKind.wrap_i64]; omega
  have hw3 : IntKind.i64.wrap ((K : Int) + 1) = (K : Int) + 1 := by rw [IntKind.wrap_i64]; omega
  go_enter Tryd.func17, Tryd.ntmps17
  go_upto_region 1 with fail
  generalize hw0 : ((w.alloc _).alloc _).alloc _ = w0
  have B0 : Below w.heap.size w w0 := hw0 ▸ ball (ball (ball (Below.refl _ _)))
  have c0 : w0.cell? ⟨w.heap.size, 0, none⟩ = some (.int .i64 1) := by subst hw0; simp [go_sem]
  have c1 : w0.cell? ⟨w.heap.size, 1, none⟩ = some (.string (baS s)) := by subst hw0; simp [go_sem]
  have c2 : w0.cell? ⟨w.heap.size, 2, none⟩ = some (.int .i64 (a : Int)) := by subst hw0; simp [go_sem]
  have FF : FrR w.heap.size w0 := by subst hw0; exact ⟨by simp [go_sem], by simp [go_sem], by simp [go_sem], fun o => by simp [go_sem], by simp [go_sem], by simp [go_sem], fun o => by simp [go_sem], by simp⟩
  clear hw0
  go_upto_region 2 with (go_at_call 27; refine (HE.out _).mono ?_; rintro e w' ⟨rfl, hww⟩; rw [hww]; clear hww)
  by_cases hbad : K = 0 ∨ s[K]? ≠ some 61
  · have HF : Hid (R = .inr (1, a + K)) := Lib.hid (by rw [HV.out, if_pos hbad])
    clear HV HP HE
    go_cut [25] (fun bv wx => bv = .bool true ∧ wx = w0)
    case first =>
      by_cases h0 : K = 0
      · have h0' : ((K : Int) == 0) = true := by simp [h0]
        clear h0
        go_wp2_with fail
        go_meet
        exact ⟨by first | rfl | trivial | simp, by first | rfl | trivial⟩
      · by_cases h1 : K = s.length
        · have h0' : ((K : Int) == 0) = false := by simp [h0]
          have h1' : ((K : Int) == (s.length : Int)) = true := by simp [h1]
          have h1'' : ((K : Int) == ((baS s).size : Int)) = true := by simp [h1, hsz]
          clear h0 h1 hsz
          go_wp2_with fail
          go_meet
          exact ⟨by first | rfl | trivial | simp, by first | rfl | trivial⟩
        · have hlt2 : K < s.length := by omega
          have hx := fun V => str_at8 s K hlt2 V
          have hne : ¬ (((s[K]'hlt2).toNat : Int) = 61) := fun e => by
            rcases hbad with h | h
            · exact h0 h
            · exact h (by rw [List.getElem?_eq_getElem hlt2]; congr 1; apply UInt8.toNat_inj.1; show (s[K]'hlt2).toNat = 61; omega)
          generalize (s[K]'hlt2).toNat = u at *
          go_wp2_with fail
          go_meet
          exact ⟨by first | rfl | trivial | (simp [hne]), by first | rfl | trivial⟩
    case rest =>
      obtain ⟨rfl, hww⟩ := hcut
      rw [hww]
      clear hww hbad
      obtain ⟨d0, d1, d2, df, e0, e1, ef, lt⟩ := FF
      go_wp2_with fail
      go_region
      generalize hw6 : World.drew _ = w6
      obtain ⟨⟨s0, s1, s2, s3, s4⟩, s5, _⟩ := five_set ⟨d0, d1, d2, df, e0, e1, ef, lt⟩ hw6
      clear hw6 d0 d1 d2 df e0 e1 ef
      go_wp2_with fail
      exact bodyPost_ret (v := .tuple #[.agg #[.string ⟨#[]⟩, .slice none 0 0, .int .i64 0], .agg #[.int .i64 1, .int .i64 ((a : Int) + (K : Int))]]) (by simp [results, Tryd.results17, go_sem, s0, s1, s2, s3, s4]) rfl ⟨s5 w (Nat.le_refl _) B0, by rw [HF.out]; show _ = _; rw [show ((a + K : Nat) : Int) = (a : Int) + (K : Int) by omega]; rfl⟩
      skip
  · have hK0 : K ≠ 0 := fun e => hbad (Or.inl e)
    have h61 : s[K]? = some 61 := Classical.not_not.1 fun e => hbad (Or.inr e)
    have hlt2 : K < s.length := (List.getElem?_eq_some_iff.1 h61).1
    have hx := fun V => str_at8 s K hlt2 V
    rw [(List.getElem?_eq_some_iff.1 h61).2] at hx
    have HF := Lib.hid (HV.out.trans (if_neg hbad))
    have S2 : ∀ V, (Instr.slice 9 (.string (baS s)) (some (.int .i64 ((K : Int) + 1))) none none).run Tryd.prog V = .ok (.string (baS (s.drop (K + 1)))) V := fun V => by
      have h := sliceFrom s (K + 1) (by omega) V
      rwa [show ((K + 1 : Nat) : Int) = (K : Int) + 1 by omega] at h
    have S1 := fun V => sliceTo s K (by omega) V
    have HP2 : Hid (∀ V, Calls Tryd.prog 28 #[.string (baS (s.drop (K + 1))), .int .i64 ((a : Int) + (K : Int) + 1)] V fun e w' => PartsE V (partsA (a + K + 1) [] (a + K + 1) (s.drop (K + 1))) e w') := fun V => by
      have h := HP.out V
      rwa [show ((a + K + 1 : Nat) : Int) = (a : Int) + (K : Int) + 1 by omega] at h
    have HKK : Hid (∀ k y, partsA (a + K + 1) [] (a + K + 1) (s.drop (K + 1)) = .inr (k, y) → k = 1 ∨ k = 2) := fun k y h => (partsA_bad _ _ [] _ k y (by simp) h).2
    clear HV HP HE hbad h61
    generalize hPA : partsA (a + K + 1) [] (a + K + 1) (s.drop (K + 1)) = PA at *
    clear hPA
    go_cut [25] (fun bv wx => bv = .bool false ∧ wx = w0)
    case first =>
      have h0' : ((K : Int) == 0) = false := by simp [hK0]
      have h1' : ((K : Int) == (s.length : Int)) = false := by simp; omega
      have h1'' : ((K : Int) == ((baS s).size : Int)) = false := by simp [hsz]; omega
      clear hsz
      go_wp2_with fail
      go_meet
      exact ⟨by first | rfl | trivial | simp, by first | rfl | trivial⟩
    case rest =>
      obtain ⟨rfl, hww⟩ := hcut
      rw [hww]
      clear hww
      have lt := FF.lt
      have m1 : ¬ (w.heap.size = w0.heap.size) := by omega
      have m2 : ¬ (w0.heap.size = w.heap.size) := by omega
      go_upto_region 4 with fail
      go_cut [5, 6] (fun pv ev wx => ∃ (p : Option Addr) (n c : Nat) (q x : Int) (E : Nat), pv = .slice p n c ∧ ev = .pointer (some ⟨E, 0, none⟩) ∧ PartsR w0.heap.size PA p n c q x wx ∧ wx.cell? ⟨E, 0, none⟩ = some (.int .i64 q) ∧ wx.cell? ⟨E, 1, none⟩ = some (.int .i64 x) ∧ E < wx.heap.size ∧ w0.heap.size ≤ E ∧ Below w0.heap.size w0 wx)
      case first =>
        go_region_held3 (fun w' => w'.cell? ⟨w.heap.size, 1, none⟩ = some (.string (baS s)) ∧ w'.cell? ⟨w.heap.size, 2, none⟩ = some (.int .i64 (a : Int))) (go_keep)
          (first
            | (go_at_call 28; refine (HP2.out _).mono ?_; intro e w9 hE; have T := PartsE.one hE; obtain ⟨p, n, c, q, x, hEE, hP, hb9⟩ := T; subst hEE; clear hE; have T := keep hb9 w.heap.size (by first | omega | (simp; omega)); obtain ⟨k9, l9⟩ := T; have q9 := keepf hb9 w0.heap.size; have n9 := Nat.ne_of_gt l9; have n9' := Nat.ne_of_lt l9; have C9 := below_next (W := w0) (by repeat (first | exact Below.refl _ _ | apply Below.drew | apply ball)) hb9))
        all_goals
          go_wp2_with fail
          go_meet
        · exact ⟨p, n, c, q, x, w9.heap.size, rfl, rfl, hP.keep (by simp) (fun g _ hg o => (ball (o := Obj.cells #[.int .i64 q, .int .i64 x] 26) (Below.refl w9.heap.size w9)).cell (p := ⟨g, o, none⟩) hg), by simp [go_sem], by simp [go_sem], by simp, C9.size, ball C9⟩
        · have hs0 : (w0.alloc (Obj.cells #[.int .i64 0, .int .i64 0] 26)).drew.heap.size = w0.heap.size + 1 := by simp
          rw [hs0] at hP
          have hz9 : w0.heap.size + 1 ≤ w9.heap.size := by have := hb9.size; rw [hs0] at this; exact this
          obtain ⟨f0, _, _⟩ := q9 (by simp)
          have e0 : w9.cell? ⟨w0.heap.size, 0, none⟩ = some (.int .i64 0) := (f0 0).trans (by simp [go_sem])
          have e1 : w9.cell? ⟨w0.heap.size, 1, none⟩ = some (.int .i64 0) := (f0 1).trans (by simp [go_sem])
          refine ⟨p, n, c, q, x, w0.heap.size, rfl, rfl, (hP.keep (by simp [World.setCell]) (fun g h1 hg o => ?_)).lower (Nat.le_succ _), (set2 e0 e1).1, (set2 e0 e1).2, by simp [World.setCell]; omega, Nat.le_refl _, (C9.setCell (Nat.le_refl _) _).setCell (Nat.le_refl _) _⟩
          have n1 : g ≠ w0.heap.size := by omega
          refine World.cell?_of_block (a := ⟨g, o, none⟩) ?_
          rw [Below.heap_setCell _ _ _ _ n1, Below.heap_setCell _ _ _ _ n1]
      case rest =>
        obtain ⟨p, n, c, q, x, E, rfl, rfl, hP, g0, g1, gl, gE, C⟩ := hcut
        have BW := below_next B0 C
        have FW : FrR w.heap.size wc := FF.next (C.mono lt)
        have c1' : wc.cell? ⟨w.heap.size, 1, none⟩ = some (.string (baS s)) := (olds C _ _ (by omega)).trans c1
        have c2' : wc.cell? ⟨w.heap.size, 2, none⟩ = some (.int .i64 (a : Int)) := (olds C _ _ (by omega)).trans c2
        clear c0 c1 c2 FF C B0
        obtain ⟨d0, d1, d2, df, e0, e1, ef, lt'⟩ := FW
        have m3 : ¬ (E = w.heap.size + 1) := by omega
        have m4 : ¬ (E = w.heap.size + 1 + 1) := by omega
        cases PA with
        | inl ts =>
          obtain ⟨rfl, rfl, rfl, hT, hfr⟩ := hP
          have HFF : Hid (R = .inl (s.take K, ts, a)) := HF
          clear HF
          go_wp2_with fail
          go_region
          generalize hw6 : World.drew _ = w6
          obtain ⟨⟨s0, s1, s2, s3, s4⟩, s5, s6, s7⟩ := five_set ⟨d0, d1, d2, df, e0, e1, ef, lt'⟩ hw6
          clear hw6 d0 d1 d2 df e0 e1 ef
          go_wp2_with fail
          refine bodyPost_ret (v := .tuple #[.agg #[.string (baS (s.take K)), .slice p ts.length c, .int .i64 (a : Int)], .agg #[.int .i64 0, .int .i64 0]]) (by simp [results, Tryd.results17, go_sem, s0, s1, s2, s3, s4]) rfl ⟨s5 w (Nat.le_refl _) BW, ?_⟩
          rw [HFF.out]
          refine ⟨p, c, rfl, fun j t hj => ?_, fun g hg => ⟨by have := (hfr g hg).1; omega, by have := (hfr g hg).2; omega⟩⟩
          obtain ⟨g, eg, hg, a0, a1, a2⟩ := hT j t hj
          have h3 := s7 g (by have := (hfr g eg).1; omega)
          exact ⟨g, eg, by omega, (h3 _).trans a0, (h3 _).trans a1, (h3 _).trans a2⟩
        | inr y =>
          obtain ⟨k, y⟩ := y
          obtain ⟨rfl, rfl, rfl, rfl, rfl⟩ := hP
          have HFF : Hid (R = .inr (k, y)) := HF
          have hkk := HKK.out k y rfl
          clear HF HKK
          rcases hkk with rfl | rfl
          · go_wp2_with fail
            go_region
            generalize hw6 : World.drew _ = w6
            obtain ⟨⟨s0, s1, s2, s3, s4⟩, s5, s6, s7⟩ := five_set ⟨d0, d1, d2, df, e0, e1, ef, lt'⟩ hw6
            clear hw6 d0 d1 d2 df e0 e1 ef
            go_wp2_with fail
            exact bodyPost_ret (v := .tuple #[.agg #[.string ⟨#[]⟩, .slice none 0 0, .int .i64 0], .agg #[.int .i64 1, .int .i64 (y : Int)]]) (by simp [results, Tryd.results17, go_sem, s0, s1, s2, s3, s4]) rfl ⟨s5 w (Nat.le_refl _) BW, by rw [HFF.out]; rfl⟩
          · go_wp2_with fail
            go_region
            generalize hw6 : World.drew _ = w6
            obtain ⟨⟨s0, s1, s2, s3, s4⟩, s5, s6, s7⟩ := five_set ⟨d0, d1, d2, df, e0, e1, ef, lt'⟩ hw6
            clear hw6 d0 d1 d2 df e0 e1 ef
            go_wp2_with fail
            exact bodyPost_ret (v := .tuple #[.agg #[.string ⟨#[]⟩, .slice none 0 0, .int .i64 0], .agg #[.int .i64 2, .int .i64 (y : Int)]]) (by simp [results, Tryd.results17, go_sem, s0, s1, s2, s3, s4]) rfl ⟨s5 w (Nat.le_refl _) BW, by rw [HFF.out]; rfl⟩
end Go.Proofs.YtfmanmidihofgaaDoor
