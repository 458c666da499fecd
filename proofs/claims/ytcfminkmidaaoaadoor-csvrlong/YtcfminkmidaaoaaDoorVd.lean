/- Package csvr: one field. -/
import Derived.Test.YtcfminkmidaaoaaDoorVc
import Derived.BigRegion
namespace Go.Proofs.YtcfminkmidaaoaaDoor
open Go.ChangeShapes Go.WideShapes Go.RowKit Go.Sort
set_option maxHeartbeats 16000000 in
set_option maxRecDepth 100000 in
theorem fieldAt_x (l : Bs) (a : Option Addr) (c i : Nat) (w : World) (h : BytesAt w a l) (hc : l.length ≤ c) (hl : l.length ≤ 1000000) (hi : i ≤ l.length) :
    Calls Tryd.prog 24 #[.slice a l.length c, .int .i64 (i : Int)] w fun e w' => (∃ v, e = .returned v ∧ FieldE l i v) ∧ Below w.heap.size w w' := by
  have HH := Lib.hid h
  clear h
  go_enter Tryd.func24, Tryd.ntmps24
  go_upto_region 1 with fail
  generalize hw0 : (w.alloc _).alloc _ = w0
  have B0 : Below w.heap.size w w0 := hw0 ▸ ball (ball (Below.refl _ _))
  have T0 : TokZ w0 w.heap.size := by subst hw0; exact ⟨by simp [go_sem], by simp [go_sem], by simp [go_sem], fun o => by simp [go_sem], by simp [go_sem]⟩
  have E0 : ErrV w0 (w.heap.size + 1) 0 0 := by subst hw0; exact ⟨by simp [go_sem], by simp [go_sem], fun o => by simp [go_sem], by simp [go_sem]⟩
  clear hw0
  have H0 := Lib.hid (HH.out.below B0)
  clear HH
  by_cases hq : l[i]? = some 34
  · have hlt : i < l.length := (List.getElem?_eq_some_iff.1 hq).1
    obtain ⟨ad, ha⟩ : ∃ ad, a = some ad := by
      obtain ⟨ad, e, _⟩ := H0.out i _ hq
      exact ⟨ad, e⟩
    subst ha
    have hcell : w0.cell? (ad.add i) = some (.int .u8 34) := by
      have := bytesAt_cell H0.out i hlt
      rwa [(List.getElem?_eq_some_iff.1 hq).2] at this
    have HT : Hid (∀ V, BytesAt V (some ad) l → Calls Tryd.prog 31 #[.slice (some ad) l.length c, .int .i64 (i : Int)] V fun e w' => (∃ v, e = .returned v ∧ InnerE l i v) ∧ Below V.heap.size V w') := Lib.hid (fun V hV => (quotedAt_x l ad c i V hV hl hlt).mono fun e w' ⟨h1, h2⟩ => ⟨⟨_, h1, quoted_inner hq⟩, h2⟩)
    clear hq
    go_wp2_with fail
    clear hcell
    refine (HT.out _ (H0.out)).mono ?_
    rintro e w1 ⟨⟨v, rfl, hv⟩, hb1⟩
    have T1 := T0.next hb1
    have E1 := E0.next hb1
    have B1 := below_next B0 hb1
    clear hb1 T0 E0 B0 H0 HT
    rcases hv with ⟨s, k, rfl, hik, hkl, hsl, hr⟩ | ⟨x, rfl, hr⟩
    · have HR := Lib.hid hr
      have e0 := E1.c0
      have e1 := E1.c1
      have ef := E1.fz
      clear hr
      go_upto_region 5 with fail
      generalize hw2 : (World.setCell _ _ _).setCell _ _ = w2
      have E2 := set2V E1 hw2
      have T2 := T1.set2 (Nat.ne_of_lt (Nat.lt_succ_self _)) hw2
      have B2 : Below w.heap.size w w2 := hw2 ▸ (B1.setCell (Nat.le_succ _) _).setCell (Nat.le_succ _) _
      clear hw2 e0 e1 ef T1 E1 B1
      have t0 := T2.c0
      have t1 := T2.c1
      have t2 := T2.c2
      have tf := T2.fz
      have e0 := E2.c0
      have e1 := E2.c1
      have ef := E2.fz
      have hsz := baS_size s
      by_cases hbig : 255 < s.length
      · have HF : Hid (∀ row, CondR l i row → recA (.beg row) i (l.drop i) = .bad 2 i) := Lib.hid (fun row hc => by rw [HR.out row hc, if_pos hbig])
        have hbig' : 255 < (baS s).size := by rw [hsz]; exact hbig
        clear HR hsz hbig hsl
        generalize baS s = S at *
        go_wp2_with fail
        generalize hw3 : World.setCell _ ⟨w.heap.size + 1, 1, none⟩ _ = w3
        obtain ⟨s0, s1, s2, s3, s4, B3⟩ := set5_plainV T2 E2 (Nat.ne_of_lt (Nat.lt_succ_self _)) B2 (Nat.le_refl _) (Nat.le_succ _) hw3
        clear hw3 t0 t1 t2 tf e0 e1 ef B2 T2 E2
        exact bodyPost_ret (v := .tuple #[.agg #[.int .i64 0, .string ⟨#[]⟩, .int .i64 0], .int .i64 0, .agg #[.int .i64 2, .int .i64 (i : Int)]]) (by simp [results, Tryd.results24, go_sem, s0, s1, s2, s3, s4]) rfl ⟨⟨_, rfl, Or.inr ⟨2, i, rfl, by decide, HF.out⟩⟩, B3⟩
      · have HF : Hid (∀ row, CondR l i row → recA (.beg row) i (l.drop i) = recA (.aft (row ++ [(5, s, i)])) k (l.drop k)) := Lib.hid (fun row hc => by rw [HR.out row hc, if_neg hbig])
        have hbig' : (baS s).size ≤ 255 := by rw [hsz]; omega
        clear HR hsz hbig
        generalize hS : baS s = S at *
        have HS := Lib.hid hS
        clear hS
        go_wp2_with fail
        generalize hw3 : World.setCell _ ⟨w.heap.size + 1, 1, none⟩ _ = w3
        obtain ⟨s0, s1, s2, s3, s4, B3⟩ := set5_plainV T2 E2 (Nat.ne_of_lt (Nat.lt_succ_self _)) B2 (Nat.le_refl _) (Nat.le_succ _) hw3
        clear hw3 t0 t1 t2 tf e0 e1 ef B2 T2 E2
        exact bodyPost_ret (v := .tuple #[.agg #[.int .i64 5, .string S, .int .i64 (i : Int)], .int .i64 (k : Int), .agg #[.int .i64 0, .int .i64 0]]) (by simp [results, Tryd.results24, go_sem, s0, s1, s2, s3, s4]) rfl ⟨⟨_, rfl, Or.inl ⟨s, k, by rw [HS.out], hik, hkl, hsl, HF.out⟩⟩, B3⟩
    · have HF : Hid (∀ row, CondR l i row → recA (.beg row) i (l.drop i) = .bad 1 x) := Lib.hid hr
      have e0 := E1.c0
      have e1 := E1.c1
      have ef := E1.fz
      clear hr
      go_upto_region 5 with fail
      generalize hw2 : (World.setCell _ _ _).setCell _ _ = w2
      have E2 := set2V E1 hw2
      have T2 := T1.set2 (Nat.ne_of_lt (Nat.lt_succ_self _)) hw2
      have B2 : Below w.heap.size w w2 := hw2 ▸ (B1.setCell (Nat.le_succ _) _).setCell (Nat.le_succ _) _
      clear hw2 e0 e1 ef T1 E1 B1
      have t0 := T2.c0
      have t1 := T2.c1
      have t2 := T2.c2
      have tf := T2.fz
      have e0 := E2.c0
      have e1 := E2.c1
      have ef := E2.fz
      go_upto_region 6 with fail
      go_region
      generalize hw3 : World.drew _ = w3
      obtain ⟨s0, s1, s2, s3, s4, B3⟩ := set5_anyV T2 E2 (Nat.ne_of_lt (Nat.lt_succ_self _)) B2 (Nat.le_refl _) (Nat.le_succ _) hw3
      clear hw3 t0 t1 t2 tf e0 e1 ef B2 T2 E2
      go_wp2_with fail
      exact bodyPost_ret (v := .tuple #[.agg #[.int .i64 0, .string ⟨#[]⟩, .int .i64 0], .int .i64 0, .agg #[.int .i64 1, .int .i64 (x : Int)]]) (by simp [results, Tryd.results24, go_sem, s0, s1, s2, s3, s4]) rfl ⟨⟨_, rfl, Or.inr ⟨1, x, rfl, by decide, HF.out⟩⟩, B3⟩
  · have HT : Hid (∀ V, BytesAt V a l → Calls Tryd.prog 32 #[.slice a l.length c, .int .i64 (i : Int)] V fun e w' => (∃ v, e = .returned v ∧ InnerE l i v) ∧ Below V.heap.size V w') := Lib.hid (fun V hV => (bareAt_x l a c i V hV hc hl hi).mono fun e w' ⟨⟨v, h1, h3⟩, h2⟩ => ⟨⟨v, h1, h3.inner hq⟩, h2⟩)
    by_cases hlt : i < l.length
    · obtain ⟨ad, ha⟩ : ∃ ad, a = some ad := by
        obtain ⟨ad, e, _⟩ := H0.out i (l[i]'hlt) (List.getElem?_eq_getElem hlt)
        exact ⟨ad, e⟩
      subst ha
      have hcell := bytesAt_cell H0.out i hlt
      rw [List.getElem?_eq_getElem hlt] at hq
      generalize l[i]'hlt = b at *
      have hq34 : ¬ ((b.toNat : Int) = 34) := fun e => hq (by rw [(byte_is (c := b) (k := 34) (by decide)).1 e]; rfl)
      clear hq
      generalize b.toNat = u at *
      go_wp2_with fail
      clear hcell hq34
      refine (HT.out _ (H0.out)).mono ?_
      rintro e w1 ⟨⟨v, rfl, hv⟩, hb1⟩
      have T1 := T0.next hb1
      have E1 := E0.next hb1
      have B1 := below_next B0 hb1
      clear hb1 T0 E0 B0 H0 HT
      rcases hv with ⟨s, k, rfl, hik, hkl, hsl, hr⟩ | ⟨x, rfl, hr⟩
      · have HR := Lib.hid hr
        have e0 := E1.c0
        have e1 := E1.c1
        have ef := E1.fz
        clear hr
        go_upto_region 5 with fail
        generalize hw2 : (World.setCell _ _ _).setCell _ _ = w2
        have E2 := set2V E1 hw2
        have T2 := T1.set2 (Nat.ne_of_lt (Nat.lt_succ_self _)) hw2
        have B2 : Below w.heap.size w w2 := hw2 ▸ (B1.setCell (Nat.le_succ _) _).setCell (Nat.le_succ _) _
        clear hw2 e0 e1 ef T1 E1 B1
        have t0 := T2.c0
        have t1 := T2.c1
        have t2 := T2.c2
        have tf := T2.fz
        have e0 := E2.c0
        have e1 := E2.c1
        have ef := E2.fz
        have hsz := baS_size s
        by_cases hbig : 255 < s.length
        · have HF : Hid (∀ row, CondR l i row → recA (.beg row) i (l.drop i) = .bad 2 i) := Lib.hid (fun row hc => by rw [HR.out row hc, if_pos hbig])
          have hbig' : 255 < (baS s).size := by rw [hsz]; exact hbig
          clear HR hsz hbig hsl
          generalize baS s = S at *
          go_wp2_with fail
          generalize hw3 : World.setCell _ ⟨w.heap.size + 1, 1, none⟩ _ = w3
          obtain ⟨s0, s1, s2, s3, s4, B3⟩ := set5_plainV T2 E2 (Nat.ne_of_lt (Nat.lt_succ_self _)) B2 (Nat.le_refl _) (Nat.le_succ _) hw3
          clear hw3 t0 t1 t2 tf e0 e1 ef B2 T2 E2
          exact bodyPost_ret (v := .tuple #[.agg #[.int .i64 0, .string ⟨#[]⟩, .int .i64 0], .int .i64 0, .agg #[.int .i64 2, .int .i64 (i : Int)]]) (by simp [results, Tryd.results24, go_sem, s0, s1, s2, s3, s4]) rfl ⟨⟨_, rfl, Or.inr ⟨2, i, rfl, by decide, HF.out⟩⟩, B3⟩
        · have HF : Hid (∀ row, CondR l i row → recA (.beg row) i (l.drop i) = recA (.aft (row ++ [(5, s, i)])) k (l.drop k)) := Lib.hid (fun row hc => by rw [HR.out row hc, if_neg hbig])
          have hbig' : (baS s).size ≤ 255 := by rw [hsz]; omega
          clear HR hsz hbig
          generalize hS : baS s = S at *
          have HS := Lib.hid hS
          clear hS
          go_wp2_with fail
          generalize hw3 : World.setCell _ ⟨w.heap.size + 1, 1, none⟩ _ = w3
          obtain ⟨s0, s1, s2, s3, s4, B3⟩ := set5_plainV T2 E2 (Nat.ne_of_lt (Nat.lt_succ_self _)) B2 (Nat.le_refl _) (Nat.le_succ _) hw3
          clear hw3 t0 t1 t2 tf e0 e1 ef B2 T2 E2
          exact bodyPost_ret (v := .tuple #[.agg #[.int .i64 5, .string S, .int .i64 (i : Int)], .int .i64 (k : Int), .agg #[.int .i64 0, .int .i64 0]]) (by simp [results, Tryd.results24, go_sem, s0, s1, s2, s3, s4]) rfl ⟨⟨_, rfl, Or.inl ⟨s, k, by rw [HS.out], hik, hkl, hsl, HF.out⟩⟩, B3⟩
      · have HF : Hid (∀ row, CondR l i row → recA (.beg row) i (l.drop i) = .bad 1 x) := Lib.hid hr
        have e0 := E1.c0
        have e1 := E1.c1
        have ef := E1.fz
        clear hr
        go_upto_region 5 with fail
        generalize hw2 : (World.setCell _ _ _).setCell _ _ = w2
        have E2 := set2V E1 hw2
        have T2 := T1.set2 (Nat.ne_of_lt (Nat.lt_succ_self _)) hw2
        have B2 : Below w.heap.size w w2 := hw2 ▸ (B1.setCell (Nat.le_succ _) _).setCell (Nat.le_succ _) _
        clear hw2 e0 e1 ef T1 E1 B1
        have t0 := T2.c0
        have t1 := T2.c1
        have t2 := T2.c2
        have tf := T2.fz
        have e0 := E2.c0
        have e1 := E2.c1
        have ef := E2.fz
        go_upto_region 6 with fail
        go_region
        generalize hw3 : World.drew _ = w3
        obtain ⟨s0, s1, s2, s3, s4, B3⟩ := set5_anyV T2 E2 (Nat.ne_of_lt (Nat.lt_succ_self _)) B2 (Nat.le_refl _) (Nat.le_succ _) hw3
        clear hw3 t0 t1 t2 tf e0 e1 ef B2 T2 E2
        go_wp2_with fail
        exact bodyPost_ret (v := .tuple #[.agg #[.int .i64 0, .string ⟨#[]⟩, .int .i64 0], .int .i64 0, .agg #[.int .i64 1, .int .i64 (x : Int)]]) (by simp [results, Tryd.results24, go_sem, s0, s1, s2, s3, s4]) rfl ⟨⟨_, rfl, Or.inr ⟨1, x, rfl, by decide, HF.out⟩⟩, B3⟩
    · clear hq
      have hie : ¬ ((i : Int) < (l.length : Int)) := by omega
      go_wp2_with fail
      refine (HT.out _ (H0.out)).mono ?_
      rintro e w1 ⟨⟨v, rfl, hv⟩, hb1⟩
      have T1 := T0.next hb1
      have E1 := E0.next hb1
      have B1 := below_next B0 hb1
      clear hb1 T0 E0 B0 H0 HT
      rcases hv with ⟨s, k, rfl, hik, hkl, hsl, hr⟩ | ⟨x, rfl, hr⟩
      · have HR := Lib.hid hr
        have e0 := E1.c0
        have e1 := E1.c1
        have ef := E1.fz
        clear hr
        go_upto_region 5 with fail
        generalize hw2 : (World.setCell _ _ _).setCell _ _ = w2
        have E2 := set2V E1 hw2
        have T2 := T1.set2 (Nat.ne_of_lt (Nat.lt_succ_self _)) hw2
        have B2 : Below w.heap.size w w2 := hw2 ▸ (B1.setCell (Nat.le_succ _) _).setCell (Nat.le_succ _) _
        clear hw2 e0 e1 ef T1 E1 B1
        have t0 := T2.c0
        have t1 := T2.c1
        have t2 := T2.c2
        have tf := T2.fz
        have e0 := E2.c0
        have e1 := E2.c1
        have ef := E2.fz
        have hsz := baS_size s
        by_cases hbig : 255 < s.length
        · have HF : Hid (∀ row, CondR l i row → recA (.beg row) i (l.drop i) = .bad 2 i) := Lib.hid (fun row hc => by rw [HR.out row hc, if_pos hbig])
          have hbig' : 255 < (baS s).size := by rw [hsz]; exact hbig
          clear HR hsz hbig hsl
          generalize baS s = S at *
          go_wp2_with fail
          generalize hw3 : World.setCell _ ⟨w.heap.size + 1, 1, none⟩ _ = w3
          obtain ⟨s0, s1, s2, s3, s4, B3⟩ := set5_plainV T2 E2 (Nat.ne_of_lt (Nat.lt_succ_self _)) B2 (Nat.le_refl _) (Nat.le_succ _) hw3
          clear hw3 t0 t1 t2 tf e0 e1 ef B2 T2 E2
          exact bodyPost_ret (v := .tuple #[.agg #[.int .i64 0, .string ⟨#[]⟩, .int .i64 0], .int .i64 0, .agg #[.int .i64 2, .int .i64 (i : Int)]]) (by simp [results, Tryd.results24, go_sem, s0, s1, s2, s3, s4]) rfl ⟨⟨_, rfl, Or.inr ⟨2, i, rfl, by decide, HF.out⟩⟩, B3⟩
        · have HF : Hid (∀ row, CondR l i row → recA (.beg row) i (l.drop i) = recA (.aft (row ++ [(5, s, i)])) k (l.drop k)) := Lib.hid (fun row hc => by rw [HR.out row hc, if_neg hbig])
          have hbig' : (baS s).size ≤ 255 := by rw [hsz]; omega
          clear HR hsz hbig
          generalize hS : baS s = S at *
          have HS := Lib.hid hS
          clear hS
          go_wp2_with fail
          generalize hw3 : World.setCell _ ⟨w.heap.size + 1, 1, none⟩ _ = w3
          obtain ⟨s0, s1, s2, s3, s4, B3⟩ := set5_plainV T2 E2 (Nat.ne_of_lt (Nat.lt_succ_self _)) B2 (Nat.le_refl _) (Nat.le_succ _) hw3
          clear hw3 t0 t1 t2 tf e0 e1 ef B2 T2 E2
          exact bodyPost_ret (v := .tuple #[.agg #[.int .i64 5, .string S, .int .i64 (i : Int)], .int .i64 (k : Int), .agg #[.int .i64 0, .int .i64 0]]) (by simp [results, Tryd.results24, go_sem, s0, s1, s2, s3, s4]) rfl ⟨⟨_, rfl, Or.inl ⟨s, k, by rw [HS.out], hik, hkl, hsl, HF.out⟩⟩, B3⟩
      · have HF : Hid (∀ row, CondR l i row → recA (.beg row) i (l.drop i) = .bad 1 x) := Lib.hid hr
        have e0 := E1.c0
        have e1 := E1.c1
        have ef := E1.fz
        clear hr
        go_upto_region 5 with fail
        generalize hw2 : (World.setCell _ _ _).setCell _ _ = w2
        have E2 := set2V E1 hw2
        have T2 := T1.set2 (Nat.ne_of_lt (Nat.lt_succ_self _)) hw2
        have B2 : Below w.heap.size w w2 := hw2 ▸ (B1.setCell (Nat.le_succ _) _).setCell (Nat.le_succ _) _
        clear hw2 e0 e1 ef T1 E1 B1
        have t0 := T2.c0
        have t1 := T2.c1
        have t2 := T2.c2
        have tf := T2.fz
        have e0 := E2.c0
        have e1 := E2.c1
        have ef := E2.fz
        go_upto_region 6 with fail
        go_region
        generalize hw3 : World.drew _ = w3
        obtain ⟨s0, s1, s2, s3, s4, B3⟩ := set5_anyV T2 E2 (Nat.ne_of_lt (Nat.lt_succ_self _)) B2 (Nat.le_refl _) (Nat.le_succ _) hw3
        clear hw3 t0 t1 t2 tf e0 e1 ef B2 T2 E2
        go_wp2_with fail
        exact bodyPost_ret (v := .tuple #[.agg #[.int .i64 0, .string ⟨#[]⟩, .int .i64 0], .int .i64 0, .agg #[.int .i64 1, .int .i64 (x : Int)]]) (by simp [results, Tryd.results24, go_sem, s0, s1, s2, s3, s4]) rfl ⟨⟨_, rfl, Or.inr ⟨1, x, rfl, by decide, HF.out⟩⟩, B3⟩
end Go.Proofs.YtcfminkmidaaoaaDoor
