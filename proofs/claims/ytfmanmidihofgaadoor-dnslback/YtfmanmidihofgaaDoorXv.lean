/- dnsl.Print, of rows that begin anywhere in their block. -/
import Derived.Test.YtfmanmidihofgaaDoorXm
namespace Go.Proofs.YtfmanmidihofgaaDoor
open Go.ChangeShapes Go.WideShapes Go.RowKit Go.Sort
/-- Rows that can be read, from a cell of a block on. -/
def RecO (w : World) (g o : Nat) (L : List Rw) : Prop := ∀ (j : Nat) (r : Rw), L[j]? = some r → ∃ q cq, g < w.heap.size ∧ w.cell? ⟨g, o + j * 3, none⟩ = some (.string (baS r.1)) ∧ w.cell? ⟨g, o + j * 3 + 1, none⟩ = some (.slice q r.2.1.length cq) ∧ w.cell? ⟨g, o + j * 3 + 2, none⟩ = some (.int .i64 (r.2.2 : Int)) ∧ TokK w q r.2.1
theorem RecO.below {w w' : World} {g o : Nat} {L : List Rw} (h : RecO w g o L) (hb : Below w.heap.size w w') : RecO w' g o L := fun j row hj => by
  obtain ⟨q, cq, hg, h0, h1, h2, hr⟩ := h j row hj
  exact ⟨q, cq, Nat.lt_of_lt_of_le hg hb.size, (olds hb g _ hg).trans h0, (olds hb g _ hg).trans h1, (olds hb g _ hg).trans h2, hr.below hb⟩
theorem RecW.drop {w : World} {g : Nat} {L : List Rw} (h : RecW w (some ⟨g, 0, none⟩) L) (k : Nat) : RecO w g (k * 3) (L.drop k) := fun j r hj => by
  rw [List.getElem?_drop] at hj
  obtain ⟨g', q, cq, e, hg, h0, h1, h2, hr⟩ := h (k + j) r hj
  cases e
  have e3 : (k + j) * 3 = k * 3 + j * 3 := by omega
  rw [e3] at h0 h1 h2
  exact ⟨q, cq, hg, h0, h1, h2, hr⟩
theorem RecW.take {w : World} {p : Option Addr} {L : List Rw} (h : RecW w p L) (k : Nat) : RecW w p (L.take k) := fun j r hj => h j r (by
  have hlt := (List.getElem?_eq_some_iff.1 hj).1
  rw [List.length_take] at hlt
  rwa [List.getElem?_take_of_lt (by omega)] at hj)
set_option maxHeartbeats 16000000 in
set_option maxRecDepth 100000 in
theorem print10o_x (L : List Rw) (g o c : Nat) (w : World) (h : RecO w g o L) (hN : (printD L).length ≤ 1000000) :
    Calls Tryd.prog 12 #[.slice (some ⟨g, o, none⟩) L.length c] w fun e w' => PrintE w (printD L) e w' := by
  have hLl := printD_ge L
  have HH := Lib.hid h
  clear h
  go_enter Tryd.func12, Tryd.ntmps12
  go_upto_region 2 with fail
  generalize hw0 : w.alloc _ = w0
  have B0 : Below w.heap.size w w0 := hw0 ▸ ball (Below.refl _ _)
  have I0 : BufAt w0 w.heap.size [] := hw0 ▸ Lib.fresh_isBuffer 56 5 w
  clear hw0
  go_wp2_with fail
  go_loopw [10] (fun iv wr => ∃ j : Nat, iv = .int .i64 (j : Int) ∧ j ≤ L.length ∧ BufAt wr w.heap.size (printD (L.take j)) ∧ Below w.heap.size w wr) (fun iv _ => L.length + 1 - intN iv)
  case atStart => exact ⟨0, rfl, Nat.zero_le _, I0, B0⟩
  case round =>
    clear I0 B0
    obtain ⟨j, rfl, hjl, hI, hb⟩ := hrel
    by_cases hlt : j < L.length
    · have hrow := List.getElem?_eq_getElem hlt
      generalize hrr : L[j]'hlt = r at *
      clear hrr
      obtain ⟨q, cq, hg, c0, c1, c2, hT⟩ := HH.out j r hrow
      have hlow : g < w.heap.size := hg
      have d0 := (olds hb g _ hg).trans c0
      have d1 := (olds hb g _ hg).trans c1
      have d2 := (olds hb g _ hg).trans c2
      have HP := Lib.hid (printD_take hrow)
      have hbig := printD_le L (j + 1)
      rw [HP.out] at hbig
      have HL := Lib.hid hT
      clear hT hrow c0 c1 c2
      generalize hA : printD (L.take j) = A at *
      clear hA
      obtain ⟨key, ts, n⟩ := r
      have hrp := rowT_is (key, ts, n)
      simp only at hrp d0 d1 d2 HL
      rw [hrp, List.length_append, List.length_append, List.length_append, List.length_append] at hbig
      have HRP := Lib.hid hrp
      have hjg := joinP_ge (fun s => s) (textsOf ts)
      rw [texts_len] at hjg
      have hkl : key.length ≤ 1000000 := by simp at hbig; omega
      have hrl : ts.length ≤ 1000001 := by simp at hbig; omega
      have hal : A.length + key.length + (joinP (fun s => s) (textsOf ts)).length + 2 ≤ 1000000 := by simp at hbig; omega
      clear hrp hjg hbig
      have hI' := Lib.hid hI
      clear hI
      go_upto_region 5 with fail
      generalize hw1 : wr.alloc _ = w1
      have b1 : Below wr.heap.size wr w1 := hw1 ▸ ball (Below.refl _ _)
      have B1 := below_next hb b1
      have I1 : BufAt w1 w.heap.size A := Lib.IsBuffer.old hI'.out b1
      have x0 : w1.heap[wr.heap.size]? = some (.cells #[.string (baS key), .slice q ts.length cq, .int .i64 (n : Int)] 32 (0, 0)) := by subst hw1; exact heap_new10 _ _
      have hX : wr.heap.size ≠ w.heap.size := by have := Lib.IsBuffer.lt hI'.out; omega
      clear hw1 b1 hI' d0 d1 d2 hb
      generalize wr.heap.size = X at *
      obtain ⟨x1, x2, x3⟩ := three_heap x0
      go_wp2_with fail
      refine (ws2_x A key w.heap.size _ I1 (by omega) (by omega)).mono ?_
      rintro e w2 ⟨⟨v2, rfl⟩, I2, hb2, hr2⟩
      have B2 := B1.trans hb2
      have y0 := hr2 X _ _ (by decide) hX x0
      clear x1 x2 x3 x0 I1 hb2 hr2 B1
      go_wp2_with fail
      refine (wb2_x (A ++ key) 61 61 rfl w.heap.size _ I2 (by simp; omega)).mono ?_
      rintro e w3 ⟨rfl, I3, hb3, hr3⟩
      have B3 := B2.trans hb3
      have z0 := hr3 X _ _ (by decide) hX y0
      obtain ⟨x1, x2, x3⟩ := three_heap z0
      clear y0 z0 I2 hb3 hr3 B2 hX
      have HE0 : Hid (A ++ key ++ [61] = A ++ key ++ [61] ++ joinP (fun s => s) ((textsOf ts).take 0)) := Lib.hid (by simp [joinP])
      have hal2 : (A ++ key ++ [61]).length = A.length + key.length + 1 := by simp; omega
      have HRP2 : Hid (printD (L.take (j + 1)) = A ++ key ++ [61] ++ joinP (fun s => s) (textsOf ts) ++ [10]) := Lib.hid (by rw [HP.out, HRP.out]; simp)
      clear HP HRP
      generalize A ++ key ++ [61] = AK at *
      go_wp2_with fail
      go_loopw [21] (fun iv wx => ∃ k : Nat, iv = .int .i64 (k : Int) ∧ k ≤ ts.length ∧ BufAt wx w.heap.size (AK ++ joinP (fun s => s) ((textsOf ts).take k)) ∧ Below w.heap.size w wx) (fun iv _ => ts.length + 1 - intN iv)
      case atStart => exact ⟨0, rfl, Nat.zero_le _, by rw [← HE0.out]; exact I3, B3⟩
      case round =>
        clear I3 B3 x1 x2 x3
        obtain ⟨k, rfl, hkl, hI, hb⟩ := hrel
        have hjl2 := joinP_le (fun s => s) (textsOf ts) k
        by_cases hk : k < ts.length
        · have ht := List.getElem?_eq_getElem hk
          generalize htt : ts[k]'hk = t at *
          clear htt
          obtain ⟨g2, hq2, hg2, e0, e1, e2⟩ := HL.out k t ht
          subst hq2
          have f0 := (olds hb g2 _ hg2).trans e0
          have f1 := (olds hb g2 _ hg2).trans e1
          have f2 := (olds hb g2 _ hg2).trans e2
          have HJ := Lib.hid (joinP_take (fun s => s) (texts_at ht))
          have hjl3 := joinP_le (fun s => s) (textsOf ts) (k + 1)
          rw [HJ.out, List.length_append] at hjl3
          have htl : t.2.1.length ≤ 1000000 := by omega
          clear e0 e1 e2 ht hjl3
          have hal3 : (AK ++ joinP (fun s => s) ((textsOf ts).take k)).length ≤ 1000000 := by rw [List.length_append]; omega
          have HAL := Lib.hid hal3
          have HTL := Lib.hid htl
          clear hal3 hjl2 htl hal hal2 HE0 HRP2
          generalize hJ : joinP (fun s => s) ((textsOf ts).take k) = J at *
          clear hJ
          obtain ⟨t1, tx, t3⟩ := t
          simp only at f0 f1 f2 HJ HTL
          have hI' := Lib.hid hI
          clear hI
          go_upto_region 10 with fail
          generalize hw4 : wr.alloc _ = w4
          have b4 : Below wr.heap.size wr w4 := hw4 ▸ ball (Below.refl _ _)
          have B4 := below_next hb b4
          have I4 : BufAt w4 w.heap.size (AK ++ J) := Lib.IsBuffer.old hI'.out b4
          have y0 : w4.heap[wr.heap.size]? = some (.cells #[.int .i64 (t1 : Int), .string (baS tx), .int .i64 (t3 : Int)] 36 (0, 0)) := by subst hw4; exact heap_new10 _ _
          have hY : wr.heap.size ≠ w.heap.size := by have := Lib.IsBuffer.lt hI'.out; omega
          clear hw4 b4 hI' f0 f1 f2 hb
          generalize wr.heap.size = Y at *
          by_cases hk0 : k = 0
          · subst hk0
            have HE2 : Hid (AK ++ joinP (fun s => s) ((textsOf ts).take (0 + 1)) = AK ++ J ++ tx) := Lib.hid (by rw [HJ.out]; simp)
            obtain ⟨y1, y2, y3⟩ := three_heap y0
            clear HJ
            generalize AK ++ J = AJ at *
            go_wp2_with fail
            refine (ws2_x AJ tx w.heap.size _ I4 (by have := HAL.out; omega) (by have := HTL.out; omega)).mono ?_
            rintro e w5 ⟨⟨v5, rfl⟩, I5, hb5, _⟩
            have B5 := B4.trans hb5
            go_wp2
            exact ⟨⟨1, by simp, by omega, by rw [HE2.out]; exact I5, B5⟩, by simp [intN]; omega⟩
          · have HE2 : Hid (AK ++ joinP (fun s => s) ((textsOf ts).take (k + 1)) = AK ++ J ++ [44] ++ tx) := Lib.hid (by rw [HJ.out, if_neg hk0]; simp)
            have hk1 : (0 : Int) < (k : Int) := by omega
            clear HJ
            generalize AK ++ J = AJ at *
            have hc44 : (⟨#[44]⟩ : ByteArray) = baS [44] := rfl
            go_wp2_with fail
            refine (ws2_x AJ [44] w.heap.size _ I4 (by have := HAL.out; omega) (by simp)).mono ?_
            rintro e w5 ⟨⟨v5, rfl⟩, I5, hb5, hr5⟩
            have B5 := B4.trans hb5
            have z0 := hr5 Y _ _ (by decide) hY y0
            obtain ⟨y1, y2, y3⟩ := three_heap z0
            clear y0 z0 I4 hb5 hr5 B4
            go_wp2_with fail
            refine (ws2_x (AJ ++ [44]) tx w.heap.size _ I5 (by have := HAL.out; simp; omega) (by have := HTL.out; omega)).mono ?_
            rintro e w6 ⟨⟨v6, rfl⟩, I6, hb6, _⟩
            have B6 := B5.trans hb6
            go_wp2
            exact ⟨⟨k + 1, by simp, by omega, by rw [HE2.out]; exact I6, B6⟩, by simp [intN]; omega⟩
        · have hkn : ¬ ((k : Int) < (ts.length : Int)) := by omega
          have HE2 : Hid (printD (L.take (j + 1)) = AK ++ joinP (fun s => s) ((textsOf ts).take k) ++ [10]) := Lib.hid (by
            rw [HRP2.out, List.take_of_length_le (by rw [texts_len]; omega)])
          have hal3 : (AK ++ joinP (fun s => s) ((textsOf ts).take k)).length ≤ 1000000 := by rw [List.length_append]; omega
          have HAL := Lib.hid hal3
          clear hal3 hjl2 hal hal2 HE0 HRP2
          generalize AK ++ joinP (fun s => s) ((textsOf ts).take k) = AJ at *
          go_wp2_with fail
          refine (wb2_x AJ 10 10 rfl w.heap.size _ hI (by have := HAL.out; omega)).mono ?_
          rintro e w5 ⟨rfl, I5, hb5, _⟩
          have B5 := hb.trans hb5
          clear hI hb hb5
          go_wp2
          exact ⟨⟨j + 1, by simp, by omega, by rw [HE2.out]; exact I5, B5⟩, by simp [intN]; omega⟩
    · have hjn : ¬ ((j : Int) < (L.length : Int)) := by omega
      have HE : Hid (printD (L.take j) = printD L) := Lib.hid (by rw [List.take_of_length_le (by omega)])
      rw [HE.out] at hI
      go_wp2_with fail
      refine (bb_x (printD L) w.heap.size _ hI).mono ?_
      rintro e w1 ⟨⟨p1, q1, rfl, ho⟩, hb1⟩
      go_wp2
      go_ret
      exact ⟨below_next hb hb1, p1, q1, rfl, ho⟩
end Go.Proofs.YtfmanmidihofgaaDoor
