/- The second writing's field. -/
import Derived.Test.YtcfminkmidaaoaaDoorVg
import Derived.Test.YtcfminkmidaaoaaDoorVd
import Derived.Deep.CutBlock
namespace Go.Proofs.YtcfminkmidaaoaaDoor
open Go.ChangeShapes Go.WideShapes Go.RowKit Go.Sort
/-- What it hands back. -/
def FieldR (l : Bs) (i : Nat) (v : Value) : Prop :=
  (∃ (s : Bs) (k : Nat), v = .tuple #[.agg #[.int .i64 5, .string (baS s), .int .i64 (i : Int)], .int .i64 (k : Int), .agg #[.int .i64 0, .int .i64 0]] ∧ i ≤ k ∧ k ≤ l.length ∧ s.length ≤ l.length ∧ (∀ c, l[k]? = some c → stopB c = true) ∧ ∀ row, CondR l i row → recA (.beg row) i (l.drop i) = recA (.aft (row ++ [(5, s, i)])) k (l.drop k))
  ∨ (∃ (K A : Nat) (S : ByteArray), v = .tuple #[.agg #[.int .i64 5, .string S, .int .i64 (i : Int)], .int .i64 0, .agg #[.int .i64 (K : Int), .int .i64 (A : Int)]] ∧ 0 < K ∧ ∀ row, CondR l i row → recA (.beg row) i (l.drop i) = .bad K A)
/-- A sign lies in a block. -/
structure TokV (w : World) (B : Nat) (k : Int) (s : ByteArray) (n : Int) : Prop where
  c0 : w.cell? ⟨B, 0, none⟩ = some (.int .i64 k)
  c1 : w.cell? ⟨B, 1, none⟩ = some (.string s)
  c2 : w.cell? ⟨B, 2, none⟩ = some (.int .i64 n)
  fz : ∀ o, w.frozen? ⟨B, o, none⟩ = false
  lt : B < w.heap.size
theorem TokV.next {w w' : World} {B : Nat} {k : Int} {s : ByteArray} {n : Int} (h : TokV w B k s n) (hb : Below w.heap.size w w') : TokV w' B k s n := by
  obtain ⟨q, f, m⟩ := keepf hb B h.lt
  exact ⟨(q 0).trans h.c0, (q 1).trans h.c1, (q 2).trans h.c2, fun o => (f o).trans (h.fz o), m⟩
theorem tokV_set {w w3 : World} {B : Nat} {k : Int} {s s' : ByteArray} {n : Int} (h : TokV w B k s n) (e : w.setCell ⟨B, 1, none⟩ (.string s') = w3) : TokV w3 B k s' n := by
  have o3 : ∀ b i j, i ≠ j → (⟨b, i, none⟩ : Addr) ≠ ⟨b, j, none⟩ := fun b i j h e => h (by injection e)
  subst e
  exact ⟨set_oth (o3 _ _ _ (by decide)) h.c0, set_same h.c1, set_oth (o3 _ _ _ (by decide)) h.c2, fun o => by rw [frozen_set]; exact h.fz o, by simp [World.setCell]; exact h.lt⟩
theorem tokZ_set1 {w w3 : World} {B E : Nat} {u : Value} (hT : TokZ w B) (hne : B ≠ E) (h : w.setCell ⟨E, 1, none⟩ u = w3) : TokZ w3 B := by
  have o1 : ∀ i j, (⟨B, i, none⟩ : Addr) ≠ ⟨E, j, none⟩ := fun i j e => hne (by injection e)
  subst h
  exact ⟨set_oth (o1 _ _) hT.c0, set_oth (o1 _ _) hT.c1, set_oth (o1 _ _) hT.c2, fun o => by rw [frozen_set]; exact hT.fz o, by simp [World.setCell]; exact hT.lt⟩
theorem errV_set1 {w w3 : World} {B E : Nat} {u : Value} {x y : Int} (hT : ErrV w B x y) (hne : B ≠ E) (h : w.setCell ⟨E, 1, none⟩ u = w3) : ErrV w3 B x y := by
  have o1 : ∀ i j, (⟨B, i, none⟩ : Addr) ≠ ⟨E, j, none⟩ := fun i j e => hne (by injection e)
  subst h
  exact ⟨set_oth (o1 _ _) hT.c0, set_oth (o1 _ _) hT.c1, fun o => by rw [frozen_set]; exact hT.fz o, by simp [World.setCell]; exact hT.lt⟩
/-- What is known of a field's piece ahead of what stands behind it. -/
def MidR (l : Bs) (i k : Nat) (s : Bs) : Prop :=
  i ≤ k ∧ k ≤ l.length ∧ s.length ≤ l.length ∧ ∀ row, CondR l i row → (∀ c, l[k]? = some c → stopB c = false → recA (.beg row) i (l.drop i) = .bad 1 k) ∧ ((∀ c, l[k]? = some c → stopB c = true) → recA (.beg row) i (l.drop i) = if 255 < s.length then .bad 2 i else recA (.aft (row ++ [(5, s, i)])) k (l.drop k))
theorem mid_plain {l : Bs} {i j : Nat} (h : PlainTo l i j) (h34 : l[i]? ≠ some 34) : MidR l i j (pieceV l i j) :=
  ⟨h.1, h.2.1, by rw [piece_len h.2.1]; have := h.2.1; omega, fun row hr => ⟨fun c hc hs => plain_bad_at h hr h34 hc hs, fun hs => by rw [piece_len h.2.1]; exact plain_ok_at h hr h34 hs⟩⟩
theorem mid_quo {l : Bs} {i k : Nat} {s : Bs} (h : l[i]? = some 34) (hx : qG [] (l.drop (i + 1)) (i + 1) = .inl (s, k)) (hs : ¬ 255 < s.length) : MidR l i k s := by
  have hlt := (List.getElem?_eq_some_iff.1 h).1
  obtain ⟨h1, h2, h3⟩ := qG_at hlt hx
  refine ⟨by omega, h2, h3, fun row _ => ?_⟩
  have hq := quo_at (l := l) (i := i) row h
  rw [hx] at hq
  simp only [if_neg hs] at hq ⊢
  exact ⟨fun c hc hst => by rw [hq, aft_at_bad _ hc hst], fun _ => hq⟩
set_option maxHeartbeats 32000000 in
set_option maxRecDepth 100000 in
theorem fieldR_x (l : Bs) (a : Option Addr) (c i : Nat) (w : World) (h : BytesAt w a l) (hc : l.length ≤ c) (hl : l.length ≤ 1000000) (hi : i ≤ l.length) :
    Calls Tryd.prog 18 #[.slice a l.length c, .int .i64 (i : Int)] w fun e w' => (∃ v, e = .returned v ∧ FieldR l i v) ∧ Below w.heap.size w w' := by
  have HH := Lib.hid h
  clear h
  go_enter Tryd.func18, Tryd.ntmps18
  go_upto_region 2 with fail
  generalize hw0 : ((w.alloc _).alloc _).alloc _ = w0
  have B0 : Below w.heap.size w w0 := hw0 ▸ ball (ball (ball (Below.refl _ _)))
  have T0 : TokZ w0 w.heap.size := by subst hw0; exact ⟨by simp [go_sem], by simp [go_sem], by simp [go_sem], fun o => by simp [go_sem], by simp [go_sem]⟩
  have E0 : ErrV w0 (w.heap.size + 1) 0 0 := by subst hw0; exact ⟨by simp [go_sem], by simp [go_sem], fun o => by simp [go_sem], by simp [go_sem]⟩
  have V0 : TokV w0 (w.heap.size + 2) 5 ⟨#[]⟩ i := by subst hw0; exact ⟨by simp [go_sem], by simp [go_sem], by simp [go_sem], fun o => by simp [go_sem], by simp [go_sem]⟩
  clear hw0
  have H0 := Lib.hid (HH.out.below B0)
  by_cases hq : l[i]? = some 34
  · have hlt : i < l.length := (List.getElem?_eq_some_iff.1 hq).1
    obtain ⟨ad, ha⟩ : ∃ ad, a = some ad := by
      obtain ⟨ad, e, _⟩ := H0.out i _ hq
      exact ⟨ad, e⟩
    subst ha
    have hcell : w0.cell? (ad.add i) = some (.int .u8 34) := by
      have := bytesAt_cell H0.out i hlt
      rwa [(List.getElem?_eq_some_iff.1 hq).2] at this
    have hpre : IntKind.i64.wrap ((i : Int) + 1) = ((i + 1 : Nat) : Int) := by rw [IntKind.wrap_i64]; omega
    have HT := Lib.hid (fun V (hV : BytesAt V (some ad) l) => quotedR_x l ad c (i + 1) V hV hl hlt)
    have HQ := Lib.hid hq
    generalize hr : qG [] (l.drop (i + 1)) (i + 1) = r at *
    have HR := Lib.hid hr
    clear hr hq
    generalize hi1 : i + 1 = i1 at *
    have HI1 := Lib.hid hi1
    clear hi1
    cases r with
    | inr x =>
      have HF : Hid (∀ row, CondR l i row → recA (.beg row) i (l.drop i) = .bad 1 x) := Lib.hid (fun row _ => by
        have := quo_at (l := l) (i := i) row HQ.out
        rw [HI1.out, HR.out] at this
        exact this)
      unfold QuoR at HT
      clear HR HQ
      go_wp2_with fail
      refine (HT.out _ H0.out).mono ?_
      rintro e w1 ⟨rfl, hb1⟩
      have T1 := T0.next hb1
      have E1 := E0.next hb1
      have V1 := V0.next hb1
      have B1 := below_next B0 hb1
      clear hcell HT hb1 T0 E0 V0 B0 H0
      have t0 := T1.c0
      have t1 := T1.c1
      have t2 := T1.c2
      have tf := T1.fz
      have e0 := E1.c0
      have e1 := E1.c1
      have ef := E1.fz
      have v0 := V1.c0
      have v1 := V1.c1
      have v2 := V1.c2
      go_upto_region 6 with fail
      have HSY := Lib.hid (fun W => syntaxR_x (x : Int) W)
      go_region_with (go_at_call 19; refine (HSY.out _).mono ?_; rintro e w8 ⟨rfl, hb8⟩; have C8 := below_next (W := w1) (by repeat (first | exact Below.refl _ _ | apply Below.drew)) hb8; have T8 := T1.next C8; have E8 := E1.next C8; have V8 := V1.next C8; have B8 := below_next B1 C8; have t0 := T8.c0; have t1 := T8.c1; have t2 := T8.c2; have tf := T8.fz; have e0 := E8.c0; have e1 := E8.c1; have ef := E8.fz; have v0 := V8.c0; have v1 := V8.c1; have v2 := V8.c2)
      all_goals generalize hw3 : World.setCell _ ⟨w.heap.size + 1, 1, none⟩ _ = w3
      all_goals obtain ⟨s0, s1, s2, s3, s4, B3⟩ := set5_plainV T8 E8 (Nat.ne_of_lt (Nat.lt_succ_self _)) B8 (Nat.le_refl _) (Nat.le_succ _) hw3
      all_goals clear hw3
      all_goals go_wp2_with fail
      all_goals exact bodyPost_ret (v := .tuple #[.agg #[.int .i64 5, .string ⟨#[]⟩, .int .i64 (i : Int)], .int .i64 0, .agg #[.int .i64 1, .int .i64 (x : Int)]]) (by simp [results, Tryd.results18, go_sem, s0, s1, s2, s3, s4]) rfl ⟨⟨_, rfl, Or.inr ⟨1, x, _, rfl, by decide, HF.out⟩⟩, by first | exact B3 | exact B3.drew⟩
    | inl r =>
      obtain ⟨s, k⟩ := r
      unfold QuoR at HT
      go_wp2_with fail
      refine (HT.out _ H0.out).mono ?_
      rintro e w1 ⟨rfl, hb1⟩
      have T1 := T0.next hb1
      have E1 := E0.next hb1
      have V1 := V0.next hb1
      have B1 := below_next B0 hb1
      clear hcell HT hb1 T0 E0 V0 B0 H0
      have hsz := baS_size s
      have v0 := V1.c0
      have v1 := V1.c1
      have v2 := V1.c2
      have vf := V1.fz
      generalize hS : baS s = S at *
      have HSS := Lib.hid hS
      clear hS
      go_upto_region 8 with fail
      generalize hw2 : World.setCell _ ⟨w.heap.size + 2, 1, none⟩ _ = w2
      have T2 := tokZ_set1 T1 (by omega) hw2
      have E2 := errV_set1 E1 (by omega) hw2
      have V2 := tokV_set V1 hw2
      have B2 : Below w.heap.size w w2 := hw2 ▸ B1.setCell (p := ⟨w.heap.size + 2, 1, none⟩) (by simp) _
      clear hw2 v0 v1 v2 vf T1 E1 V1 B1
      have t0 := T2.c0
      have t1 := T2.c1
      have t2 := T2.c2
      have tf := T2.fz
      have e0 := E2.c0
      have e1 := E2.c1
      have ef := E2.fz
      have v0 := V2.c0
      have v1 := V2.c1
      have v2 := V2.c2
      by_cases hsb : 255 < s.length
      · have HF : Hid (∀ row, CondR l i row → recA (.beg row) i (l.drop i) = .bad 2 i) := Lib.hid (fun row _ => by
          have := quo_at (l := l) (i := i) row HQ.out
          rw [HI1.out, HR.out] at this
          simp only [if_pos hsb] at this
          exact this)
        have hbig' : 255 < S.size := by rw [hsz]; exact hsb
        clear HQ HR HI1 HH hsb hsz
        go_wp2_with fail
        generalize hw3 : World.setCell _ ⟨w.heap.size + 1, 1, none⟩ _ = w3
        obtain ⟨s0, s1, s2, s3, s4, B3⟩ := set5_plainV T2 E2 (Nat.ne_of_lt (Nat.lt_succ_self _)) B2 (Nat.le_refl _) (Nat.le_succ _) hw3
        clear hw3
        exact bodyPost_ret (v := .tuple #[.agg #[.int .i64 5, .string S, .int .i64 (i : Int)], .int .i64 0, .agg #[.int .i64 2, .int .i64 (i : Int)]]) (by simp [results, Tryd.results18, go_sem, s0, s1, s2, s3, s4]) rfl ⟨⟨_, rfl, Or.inr ⟨2, i, _, rfl, by decide, HF.out⟩⟩, B3⟩
      · have HM : Hid (MidR l i k s) := Lib.hid (mid_quo HQ.out (by rw [HI1.out]; exact HR.out) hsb)
        have hks := HM.out.2.1
        have HSB := Lib.hid hsb
        have hbig2 : S.size ≤ 255 := by rw [hsz]; omega
        clear HQ HR HI1 hsb hsz
        go_upto_region 13 with fail
        clear hbig2
        by_cases hlk : k < l.length
        · have hcell := bytesAt_cell (HH.out.below B2) k hlk
          have HG := Lib.hid (List.getElem?_eq_getElem hlk)
          generalize l[k]'hlk = b at *
          by_cases hst : stopB b = true
          · have HST : Hid (∀ c, l[k]? = some c → stopB c = true) := Lib.hid (fun c hc => by rw [HG.out] at hc; cases hc; exact hst)
            have hst3 := stop_is hst
            clear hst HG
            have HF : Hid (∀ row, CondR l i row → recA (.beg row) i (l.drop i) = recA (.aft (row ++ [(5, s, i)])) k (l.drop k)) := Lib.hid (fun row hr => by rw [(HM.out.2.2.2 row hr).2 HST.out, if_neg HSB.out])
            have hbig' : S.size ≤ 255 := by rw [← HSS.out, baS_size]; have := HSB.out; omega
            rcases hst3 with rfl | rfl | rfl
            · skip
              go_wp2_with fail
              generalize hw3 : World.setCell _ ⟨w.heap.size + 1, 1, none⟩ _ = w3
              obtain ⟨s0, s1, s2, s3, s4, B3⟩ := set5_plainV T2 E2 (Nat.ne_of_lt (Nat.lt_succ_self _)) B2 (Nat.le_refl _) (Nat.le_succ _) hw3
              clear hw3
              exact bodyPost_ret (v := .tuple #[.agg #[.int .i64 5, .string S, .int .i64 (i : Int)], .int .i64 (k : Int), .agg #[.int .i64 0, .int .i64 0]]) (by simp [results, Tryd.results18, go_sem, s0, s1, s2, s3, s4]) rfl ⟨⟨_, rfl, Or.inl ⟨s, k, by rw [HSS.out], HM.out.1, HM.out.2.1, HM.out.2.2.1, HST.out, HF.out⟩⟩, B3⟩
            · skip
              go_wp2_with fail
              generalize hw3 : World.setCell _ ⟨w.heap.size + 1, 1, none⟩ _ = w3
              obtain ⟨s0, s1, s2, s3, s4, B3⟩ := set5_plainV T2 E2 (Nat.ne_of_lt (Nat.lt_succ_self _)) B2 (Nat.le_refl _) (Nat.le_succ _) hw3
              clear hw3
              exact bodyPost_ret (v := .tuple #[.agg #[.int .i64 5, .string S, .int .i64 (i : Int)], .int .i64 (k : Int), .agg #[.int .i64 0, .int .i64 0]]) (by simp [results, Tryd.results18, go_sem, s0, s1, s2, s3, s4]) rfl ⟨⟨_, rfl, Or.inl ⟨s, k, by rw [HSS.out], HM.out.1, HM.out.2.1, HM.out.2.2.1, HST.out, HF.out⟩⟩, B3⟩
            · skip
              go_wp2_with fail
              generalize hw3 : World.setCell _ ⟨w.heap.size + 1, 1, none⟩ _ = w3
              obtain ⟨s0, s1, s2, s3, s4, B3⟩ := set5_plainV T2 E2 (Nat.ne_of_lt (Nat.lt_succ_self _)) B2 (Nat.le_refl _) (Nat.le_succ _) hw3
              clear hw3
              exact bodyPost_ret (v := .tuple #[.agg #[.int .i64 5, .string S, .int .i64 (i : Int)], .int .i64 (k : Int), .agg #[.int .i64 0, .int .i64 0]]) (by simp [results, Tryd.results18, go_sem, s0, s1, s2, s3, s4]) rfl ⟨⟨_, rfl, Or.inl ⟨s, k, by rw [HSS.out], HM.out.1, HM.out.2.1, HM.out.2.2.1, HST.out, HF.out⟩⟩, B3⟩
          · have HF : Hid (∀ row, CondR l i row → recA (.beg row) i (l.drop i) = .bad 1 k) := Lib.hid (fun row hr => (HM.out.2.2.2 row hr).1 b HG.out (by simpa using hst))
            have hbs : stopB b = false := by simpa using hst
            simp only [stopB, Bool.or_eq_false_iff, beq_eq_false_iff_ne] at hbs
            obtain ⟨⟨h44, h10⟩, h13⟩ := hbs
            have k44 : (((b.toNat : Nat) : Int) != 44) = true := bne_of (fun e => h44 ((byte_is (c := b) (k := 44) (by decide)).1 e))
            have k10 : (((b.toNat : Nat) : Int) != 10) = true := bne_of (fun e => h10 ((byte_is (c := b) (k := 10) (by decide)).1 e))
            have k13 : (((b.toNat : Nat) : Int) != 13) = true := bne_of (fun e => h13 ((byte_is (c := b) (k := 13) (by decide)).1 e))
            clear h44 h10 h13 hst HG HM HSS
            generalize b.toNat = u at *
            go_upto_region 14 with fail
            clear hcell k44 k10 k13
            have HSY := Lib.hid (fun W => syntaxR_x (k : Int) W)
            go_region_with (go_at_call 19; refine (HSY.out _).mono ?_; rintro e w8 ⟨rfl, hb8⟩; have C8 := below_next (W := w2) (by repeat (first | exact Below.refl _ _ | apply Below.drew)) hb8; have T8 := T2.next C8; have E8 := E2.next C8; have V8 := V2.next C8; have B8 := below_next B2 C8; have t0 := T8.c0; have t1 := T8.c1; have t2 := T8.c2; have tf := T8.fz; have e0 := E8.c0; have e1 := E8.c1; have ef := E8.fz; have v0 := V8.c0; have v1 := V8.c1; have v2 := V8.c2)
            all_goals generalize hw3 : World.setCell _ ⟨w.heap.size + 1, 1, none⟩ _ = w3
            all_goals obtain ⟨s0, s1, s2, s3, s4, B3⟩ := set5_plainV T8 E8 (Nat.ne_of_lt (Nat.lt_succ_self _)) B8 (Nat.le_refl _) (Nat.le_succ _) hw3
            all_goals clear hw3
            all_goals go_wp2_with fail
            all_goals exact bodyPost_ret (v := .tuple #[.agg #[.int .i64 5, .string S, .int .i64 (i : Int)], .int .i64 0, .agg #[.int .i64 1, .int .i64 (k : Int)]]) (by simp [results, Tryd.results18, go_sem, s0, s1, s2, s3, s4]) rfl ⟨⟨_, rfl, Or.inr ⟨1, k, _, rfl, by decide, HF.out⟩⟩, by first | exact B3 | exact B3.drew⟩
        · have hlk' : ¬ ((k : Int) < (l.length : Int)) := by omega
          have HST : Hid (∀ c, l[k]? = some c → stopB c = true) := Lib.hid (fun c hc => by rw [List.getElem?_eq_none (by omega)] at hc; cases hc)
          have HF : Hid (∀ row, CondR l i row → recA (.beg row) i (l.drop i) = recA (.aft (row ++ [(5, s, i)])) k (l.drop k)) := Lib.hid (fun row hr => by rw [(HM.out.2.2.2 row hr).2 HST.out, if_neg HSB.out])
          have hbig' : S.size ≤ 255 := by rw [← HSS.out, baS_size]; have := HSB.out; omega
          go_wp2_with fail
          generalize hw3 : World.setCell _ ⟨w.heap.size + 1, 1, none⟩ _ = w3
          obtain ⟨s0, s1, s2, s3, s4, B3⟩ := set5_plainV T2 E2 (Nat.ne_of_lt (Nat.lt_succ_self _)) B2 (Nat.le_refl _) (Nat.le_succ _) hw3
          clear hw3
          exact bodyPost_ret (v := .tuple #[.agg #[.int .i64 5, .string S, .int .i64 (i : Int)], .int .i64 (k : Int), .agg #[.int .i64 0, .int .i64 0]]) (by simp [results, Tryd.results18, go_sem, s0, s1, s2, s3, s4]) rfl ⟨⟨_, rfl, Or.inl ⟨s, k, by rw [HSS.out], HM.out.1, HM.out.2.1, HM.out.2.2.1, HST.out, HF.out⟩⟩, B3⟩
  · have HQ := Lib.hid hq
    go_upto_region 3 with fail
    go_cut [25] (fun bv wx => bv = .bool false ∧ wx = w0)
    case first =>
      by_cases hlt : i < l.length
      · obtain ⟨ad, ha⟩ : ∃ ad, a = some ad := by
          obtain ⟨ad, e, _⟩ := H0.out i (l[i]'hlt) (List.getElem?_eq_getElem hlt)
          exact ⟨ad, e⟩
        subst ha
        have hcell := bytesAt_cell H0.out i hlt
        rw [List.getElem?_eq_getElem hlt] at hq
        generalize l[i]'hlt = b at *
        have hq34 : ¬ ((b.toNat : Int) = 34) := fun e => hq (by rw [(byte_is (c := b) (k := 34) (by decide)).1 e]; rfl)
        clear hq
        generalize b.toNat = u at *
        go_wp2_with fail
        go_meet
        exact ⟨by simp [hq34], rfl⟩
      · have hie : ¬ ((i : Int) < (l.length : Int)) := by omega
        clear hq
        go_wp2_with fail
        go_meet
        exact ⟨rfl, rfl⟩
    case rest =>
      clear hq
      obtain ⟨rfl, hcw⟩ := hcut
      rw [hcw]
      clear hcw
      go_upto_block 0 with fail
      go_cut [8] (fun kv wx => ∃ j : Nat, kv = .int .i64 (j : Int) ∧ Hid (PlainTo l i j) ∧ wx = w0)
      case first =>
        clear T0 E0 V0
        go_wp2_with fail
        go_loopw [8] (fun iv wr => ∃ j : Nat, iv = .int .i64 (j : Int) ∧ i ≤ j ∧ j ≤ l.length ∧ Hid (∀ c ∈ pieceV l i j, plainB c = true) ∧ wr = w0) (fun iv _ => l.length + 1 - intN iv)
        case atStart => exact ⟨i, rfl, Nat.le_refl _, hi, Lib.hid (by rw [piece_nil]; simp), rfl⟩
        case round =>
          obtain ⟨j, rfl, hij, hjl, hp, hwr⟩ := hrel
          subst hwr
          by_cases hlt : j < l.length
          · obtain ⟨ad, ha⟩ : ∃ ad, a = some ad := by
              obtain ⟨ad, e, _⟩ := H0.out j (l[j]'hlt) (List.getElem?_eq_getElem hlt)
              exact ⟨ad, e⟩
            subst ha
            have hcell := bytesAt_cell H0.out j hlt
            have HG := Lib.hid (List.getElem?_eq_getElem hlt)
            have HS := Lib.hid (piece_snoc (List.getElem?_eq_getElem hlt) hij)
            generalize l[j]'hlt = b at *
            by_cases hpb : plainB b = true
            · have HP : Hid (∀ c ∈ pieceV l i (j + 1), plainB c = true) := Lib.hid (by
                rw [HS.out]; intro c hc; simp at hc; rcases hc with hc | hc; exact hp.out c hc; rw [hc]; exact hpb)
              have hpb' := hpb
              simp only [plainB, Bool.and_eq_true, bne_iff_ne] at hpb'
              obtain ⟨⟨h1, h34⟩, h44⟩ := hpb'
              obtain ⟨k32, k126⟩ := prt_bounds h1
              have k32' : (32 : Int) ≤ (b.toNat : Int) := by omega
              have k126' : (b.toNat : Int) ≤ 126 := by omega
              have k34 : (((b.toNat : Nat) : Int) != 34) = true := bne_of (fun e => h34 ((byte_is (c := b) (k := 34) (by decide)).1 e))
              have k44 : (((b.toNat : Nat) : Int) != 44) = true := bne_of (fun e => h44 ((byte_is (c := b) (k := 44) (by decide)).1 e))
              clear h1 h34 h44 k32 k126 hpb hp HG HS
              generalize b.toNat = u at *
              go_wp2
              exact ⟨⟨j + 1, by simp, by omega, by omega, HP, trivial⟩, by simp [intN]; omega⟩
            · have HF : Hid (PlainTo l i j) := Lib.hid ⟨hij, hjl, hp.out, fun c hc => by rw [HG.out] at hc; cases hc; simpa using hpb⟩
              have hpb' : plainB b = false := by simpa using hpb
              have hways : (¬ ((32 : Int) ≤ (b.toNat : Int))) ∨ (((32 : Int) ≤ (b.toNat : Int)) ∧ ¬ ((b.toNat : Int) ≤ 126)) ∨ b = 34 ∨ b = 44 := by
                by_cases h1 : prtB b = true
                · refine Or.inr (Or.inr ?_)
                  by_cases h34 : b = 34
                  · exact Or.inl h34
                  · refine Or.inr (Classical.byContradiction fun h44 => ?_)
                    rw [plainB, h1] at hpb'
                    simp [h34, h44] at hpb'
                · rcases prt_bounds_no (show prtB b = false by simpa using h1) with h | ⟨h, h'⟩
                  · exact Or.inl (by omega)
                  · exact Or.inr (Or.inl ⟨by omega, by omega⟩)
              clear hpb hpb' hp HG HS
              rcases hways with h1 | ⟨h1, h2⟩ | rfl | rfl
              · generalize b.toNat = u at *
                go_wp2_with fail
                go_meet
                exact ⟨j, rfl, HF, rfl⟩
              · generalize b.toNat = u at *
                go_wp2_with fail
                go_meet
                exact ⟨j, rfl, HF, rfl⟩
              · go_wp2_with fail
                go_meet
                exact ⟨j, rfl, HF, rfl⟩
              · go_wp2_with fail
                go_meet
                exact ⟨j, rfl, HF, rfl⟩
          · have hjn : ¬ ((j : Int) < (l.length : Int)) := by omega
            have HF : Hid (PlainTo l i j) := Lib.hid ⟨hij, hjl, hp.out, fun c hc => by rw [List.getElem?_eq_none (by omega)] at hc; cases hc⟩
            clear hp
            go_wp2_with fail
            go_meet
            exact ⟨j, rfl, HF, rfl⟩
      case rest =>
        obtain ⟨k, rfl, HPL, hcw⟩ := hcut
        rw [hcw]
        clear hcw
        have hik := HPL.out.1
        have hks := HPL.out.2.1
        have HM : Hid (MidR l i k (pieceV l i k)) := Lib.hid (mid_plain HPL.out HQ.out)
        have hsl := fun V => sl_lh a l.length c i k hik (by omega) V
        have hpc := piece_at H0.out hc i k hks
        generalize pieceV l i k = s at *
        generalize hS : baS s = S at *
        have HSS := Lib.hid hS
        clear hS HPL HQ
        have v0 := V0.c0
        have v1 := V0.c1
        have v2 := V0.c2
        have vf := V0.fz
        go_upto_region 13 with fail
        generalize hw2 : World.setCell _ _ _ = w2
        have T2 := tokZ_set1 T0 (by omega) hw2
        have E2 := errV_set1 E0 (by omega) hw2
        have V2 := tokV_set V0 hw2
        have B2 : Below w.heap.size w w2 := hw2 ▸ B0.setCell (p := ⟨w.heap.size + 2, 1, none⟩) (by simp) _
        clear hw2 v0 v1 v2 vf hsl hpc T0 E0 V0 B0
        have t0 := T2.c0
        have t1 := T2.c1
        have t2 := T2.c2
        have tf := T2.fz
        have e0 := E2.c0
        have e1 := E2.c1
        have ef := E2.fz
        have v0 := V2.c0
        have v1 := V2.c1
        have v2 := V2.c2
        by_cases hlk : k < l.length
        · obtain ⟨ad, ha⟩ : ∃ ad, a = some ad := by
            obtain ⟨ad, e, _⟩ := HH.out k (l[k]'hlk) (List.getElem?_eq_getElem hlk)
            exact ⟨ad, e⟩
          subst ha
          have hcell := bytesAt_cell (HH.out.below B2) k hlk
          have HG := Lib.hid (List.getElem?_eq_getElem hlk)
          generalize l[k]'hlk = b at *
          by_cases hst : stopB b = true
          · have HST : Hid (∀ c, l[k]? = some c → stopB c = true) := Lib.hid (fun c hc => by rw [HG.out] at hc; cases hc; exact hst)
            have hst3 := stop_is hst
            clear hst HG
            by_cases hbig : 255 < s.length
            · have HF : Hid (∀ row, CondR l i row → recA (.beg row) i (l.drop i) = .bad 2 i) := Lib.hid (fun row hr => by rw [(HM.out.2.2.2 row hr).2 HST.out, if_pos hbig])
              have hbig' : 255 < S.size := by rw [← HSS.out, baS_size]; exact hbig
              clear hbig
              rcases hst3 with rfl | rfl | rfl
              · skip
                go_wp2_with fail
                generalize hw3 : World.setCell _ ⟨w.heap.size + 1, 1, none⟩ _ = w3
                obtain ⟨s0, s1, s2, s3, s4, B3⟩ := set5_plainV T2 E2 (Nat.ne_of_lt (Nat.lt_succ_self _)) B2 (Nat.le_refl _) (Nat.le_succ _) hw3
                clear hw3
                exact bodyPost_ret (v := .tuple #[.agg #[.int .i64 5, .string S, .int .i64 (i : Int)], .int .i64 0, .agg #[.int .i64 2, .int .i64 (i : Int)]]) (by simp [results, Tryd.results18, go_sem, s0, s1, s2, s3, s4]) rfl ⟨⟨_, rfl, Or.inr ⟨2, i, _, rfl, by decide, HF.out⟩⟩, B3⟩
              · skip
                go_wp2_with fail
                generalize hw3 : World.setCell _ ⟨w.heap.size + 1, 1, none⟩ _ = w3
                obtain ⟨s0, s1, s2, s3, s4, B3⟩ := set5_plainV T2 E2 (Nat.ne_of_lt (Nat.lt_succ_self _)) B2 (Nat.le_refl _) (Nat.le_succ _) hw3
                clear hw3
                exact bodyPost_ret (v := .tuple #[.agg #[.int .i64 5, .string S, .int .i64 (i : Int)], .int .i64 0, .agg #[.int .i64 2, .int .i64 (i : Int)]]) (by simp [results, Tryd.results18, go_sem, s0, s1, s2, s3, s4]) rfl ⟨⟨_, rfl, Or.inr ⟨2, i, _, rfl, by decide, HF.out⟩⟩, B3⟩
              · skip
                go_wp2_with fail
                generalize hw3 : World.setCell _ ⟨w.heap.size + 1, 1, none⟩ _ = w3
                obtain ⟨s0, s1, s2, s3, s4, B3⟩ := set5_plainV T2 E2 (Nat.ne_of_lt (Nat.lt_succ_self _)) B2 (Nat.le_refl _) (Nat.le_succ _) hw3
                clear hw3
                exact bodyPost_ret (v := .tuple #[.agg #[.int .i64 5, .string S, .int .i64 (i : Int)], .int .i64 0, .agg #[.int .i64 2, .int .i64 (i : Int)]]) (by simp [results, Tryd.results18, go_sem, s0, s1, s2, s3, s4]) rfl ⟨⟨_, rfl, Or.inr ⟨2, i, _, rfl, by decide, HF.out⟩⟩, B3⟩
            · have HF : Hid (∀ row, CondR l i row → recA (.beg row) i (l.drop i) = recA (.aft (row ++ [(5, s, i)])) k (l.drop k)) := Lib.hid (fun row hr => by rw [(HM.out.2.2.2 row hr).2 HST.out, if_neg hbig])
              have hbig' : S.size ≤ 255 := by rw [← HSS.out, baS_size]; omega
              clear hbig
              rcases hst3 with rfl | rfl | rfl
              · skip
                go_wp2_with fail
                generalize hw3 : World.setCell _ ⟨w.heap.size + 1, 1, none⟩ _ = w3
                obtain ⟨s0, s1, s2, s3, s4, B3⟩ := set5_plainV T2 E2 (Nat.ne_of_lt (Nat.lt_succ_self _)) B2 (Nat.le_refl _) (Nat.le_succ _) hw3
                clear hw3
                exact bodyPost_ret (v := .tuple #[.agg #[.int .i64 5, .string S, .int .i64 (i : Int)], .int .i64 (k : Int), .agg #[.int .i64 0, .int .i64 0]]) (by simp [results, Tryd.results18, go_sem, s0, s1, s2, s3, s4]) rfl ⟨⟨_, rfl, Or.inl ⟨s, k, by rw [HSS.out], HM.out.1, HM.out.2.1, HM.out.2.2.1, HST.out, HF.out⟩⟩, B3⟩
              · skip
                go_wp2_with fail
                generalize hw3 : World.setCell _ ⟨w.heap.size + 1, 1, none⟩ _ = w3
                obtain ⟨s0, s1, s2, s3, s4, B3⟩ := set5_plainV T2 E2 (Nat.ne_of_lt (Nat.lt_succ_self _)) B2 (Nat.le_refl _) (Nat.le_succ _) hw3
                clear hw3
                exact bodyPost_ret (v := .tuple #[.agg #[.int .i64 5, .string S, .int .i64 (i : Int)], .int .i64 (k : Int), .agg #[.int .i64 0, .int .i64 0]]) (by simp [results, Tryd.results18, go_sem, s0, s1, s2, s3, s4]) rfl ⟨⟨_, rfl, Or.inl ⟨s, k, by rw [HSS.out], HM.out.1, HM.out.2.1, HM.out.2.2.1, HST.out, HF.out⟩⟩, B3⟩
              · skip
                go_wp2_with fail
                generalize hw3 : World.setCell _ ⟨w.heap.size + 1, 1, none⟩ _ = w3
                obtain ⟨s0, s1, s2, s3, s4, B3⟩ := set5_plainV T2 E2 (Nat.ne_of_lt (Nat.lt_succ_self _)) B2 (Nat.le_refl _) (Nat.le_succ _) hw3
                clear hw3
                exact bodyPost_ret (v := .tuple #[.agg #[.int .i64 5, .string S, .int .i64 (i : Int)], .int .i64 (k : Int), .agg #[.int .i64 0, .int .i64 0]]) (by simp [results, Tryd.results18, go_sem, s0, s1, s2, s3, s4]) rfl ⟨⟨_, rfl, Or.inl ⟨s, k, by rw [HSS.out], HM.out.1, HM.out.2.1, HM.out.2.2.1, HST.out, HF.out⟩⟩, B3⟩
          · have HF : Hid (∀ row, CondR l i row → recA (.beg row) i (l.drop i) = .bad 1 k) := Lib.hid (fun row hr => (HM.out.2.2.2 row hr).1 b HG.out (by simpa using hst))
            have hbs : stopB b = false := by simpa using hst
            simp only [stopB, Bool.or_eq_false_iff, beq_eq_false_iff_ne] at hbs
            obtain ⟨⟨h44, h10⟩, h13⟩ := hbs
            have k44 : (((b.toNat : Nat) : Int) != 44) = true := bne_of (fun e => h44 ((byte_is (c := b) (k := 44) (by decide)).1 e))
            have k10 : (((b.toNat : Nat) : Int) != 10) = true := bne_of (fun e => h10 ((byte_is (c := b) (k := 10) (by decide)).1 e))
            have k13 : (((b.toNat : Nat) : Int) != 13) = true := bne_of (fun e => h13 ((byte_is (c := b) (k := 13) (by decide)).1 e))
            clear h44 h10 h13 hst HG HM HSS
            generalize b.toNat = u at *
            go_upto_region 14 with fail
            clear hcell k44 k10 k13
            have HSY := Lib.hid (fun W => syntaxR_x (k : Int) W)
            go_region_with (go_at_call 19; refine (HSY.out _).mono ?_; rintro e w8 ⟨rfl, hb8⟩; have C8 := below_next (W := w2) (by repeat (first | exact Below.refl _ _ | apply Below.drew)) hb8; have T8 := T2.next C8; have E8 := E2.next C8; have V8 := V2.next C8; have B8 := below_next B2 C8; have t0 := T8.c0; have t1 := T8.c1; have t2 := T8.c2; have tf := T8.fz; have e0 := E8.c0; have e1 := E8.c1; have ef := E8.fz; have v0 := V8.c0; have v1 := V8.c1; have v2 := V8.c2)
            all_goals generalize hw3 : World.setCell _ ⟨w.heap.size + 1, 1, none⟩ _ = w3
            all_goals obtain ⟨s0, s1, s2, s3, s4, B3⟩ := set5_plainV T8 E8 (Nat.ne_of_lt (Nat.lt_succ_self _)) B8 (Nat.le_refl _) (Nat.le_succ _) hw3
            all_goals clear hw3
            all_goals go_wp2_with fail
            all_goals exact bodyPost_ret (v := .tuple #[.agg #[.int .i64 5, .string S, .int .i64 (i : Int)], .int .i64 0, .agg #[.int .i64 1, .int .i64 (k : Int)]]) (by simp [results, Tryd.results18, go_sem, s0, s1, s2, s3, s4]) rfl ⟨⟨_, rfl, Or.inr ⟨1, k, _, rfl, by decide, HF.out⟩⟩, by first | exact B3 | exact B3.drew⟩
        · have hlk' : ¬ ((k : Int) < (l.length : Int)) := by omega
          have HST : Hid (∀ c, l[k]? = some c → stopB c = true) := Lib.hid (fun c hc => by rw [List.getElem?_eq_none (by omega)] at hc; cases hc)
          by_cases hbig : 255 < s.length
          · have HF : Hid (∀ row, CondR l i row → recA (.beg row) i (l.drop i) = .bad 2 i) := Lib.hid (fun row hr => by rw [(HM.out.2.2.2 row hr).2 HST.out, if_pos hbig])
            have hbig' : 255 < S.size := by rw [← HSS.out, baS_size]; exact hbig
            clear hbig
            go_wp2_with fail
            generalize hw3 : World.setCell _ ⟨w.heap.size + 1, 1, none⟩ _ = w3
            obtain ⟨s0, s1, s2, s3, s4, B3⟩ := set5_plainV T2 E2 (Nat.ne_of_lt (Nat.lt_succ_self _)) B2 (Nat.le_refl _) (Nat.le_succ _) hw3
            clear hw3
            exact bodyPost_ret (v := .tuple #[.agg #[.int .i64 5, .string S, .int .i64 (i : Int)], .int .i64 0, .agg #[.int .i64 2, .int .i64 (i : Int)]]) (by simp [results, Tryd.results18, go_sem, s0, s1, s2, s3, s4]) rfl ⟨⟨_, rfl, Or.inr ⟨2, i, _, rfl, by decide, HF.out⟩⟩, B3⟩
          · have HF : Hid (∀ row, CondR l i row → recA (.beg row) i (l.drop i) = recA (.aft (row ++ [(5, s, i)])) k (l.drop k)) := Lib.hid (fun row hr => by rw [(HM.out.2.2.2 row hr).2 HST.out, if_neg hbig])
            have hbig' : S.size ≤ 255 := by rw [← HSS.out, baS_size]; omega
            clear hbig
            go_wp2_with fail
            generalize hw3 : World.setCell _ ⟨w.heap.size + 1, 1, none⟩ _ = w3
            obtain ⟨s0, s1, s2, s3, s4, B3⟩ := set5_plainV T2 E2 (Nat.ne_of_lt (Nat.lt_succ_self _)) B2 (Nat.le_refl _) (Nat.le_succ _) hw3
            clear hw3
            exact bodyPost_ret (v := .tuple #[.agg #[.int .i64 5, .string S, .int .i64 (i : Int)], .int .i64 (k : Int), .agg #[.int .i64 0, .int .i64 0]]) (by simp [results, Tryd.results18, go_sem, s0, s1, s2, s3, s4]) rfl ⟨⟨_, rfl, Or.inl ⟨s, k, by rw [HSS.out], HM.out.1, HM.out.2.1, HM.out.2.2.1, HST.out, HF.out⟩⟩, B3⟩
end Go.Proofs.YtcfminkmidaaoaaDoor
