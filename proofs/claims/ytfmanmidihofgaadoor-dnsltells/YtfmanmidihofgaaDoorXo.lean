/- The second writing's PrintRows. -/
import Derived.Test.YtfmanmidihofgaaDoorXm
import Derived.Deep.CutBlock
import Derived.Deep.DeepCutAuto
namespace Go.Proofs.YtfmanmidihofgaaDoor
open Go.ChangeShapes Go.WideShapes Go.RowKit Go.Sort
set_option maxHeartbeats 32000000 in
set_option maxRecDepth 100000 in
theorem printR10_x (L : List Rw) (p : Option Addr) (c : Nat) (w : World) (h : RecW w p L) (hN : (printD L).length ≤ 900000) :
    Calls Tryd.prog 13 #[.slice p L.length c] w fun e w' => PrintE w (printD L) e w' := by
  have hLl := printD_ge L
  have HH := Lib.hid h
  clear h
  go_enter Tryd.func13, Tryd.ntmps13
  go_wp2_with fail
  go_loopw [3, 4] (fun sv iv wr => ∃ j : Nat, iv = .int .i64 (j : Int) ∧ j ≤ L.length ∧ OutB wr w.heap.size sv (printD (L.take j)) ∧ Below w.heap.size w wr) (fun _ iv _ => L.length + 1 - intN iv)
  case atStart => exact ⟨0, rfl, Nat.zero_le _, ⟨none, 0, rfl, World.ownsRow_nil _ _ _ _⟩, Below.refl _ _⟩
  case round =>
    obtain ⟨j, rfl, hjl, hO, hb⟩ := hrel
    by_cases hlt : j < L.length
    · have hrow := List.getElem?_eq_getElem hlt
      generalize hrr : L[j]'hlt = r at *
      clear hrr
      obtain ⟨g, q, cq, hpa, hg, c0, c1, c2, hT⟩ := HH.out j r hrow
      subst hpa
      obtain ⟨key, ts, n⟩ := r
      have hrp := rowT_is (key, ts, n)
      simp only at hrp c0 c1 c2 hT
      have HP := Lib.hid (printD_take hrow)
      have hbig := printD_le L (j + 1)
      rw [HP.out, hrp, List.length_append, List.length_append, List.length_append, List.length_append] at hbig
      have HL := Lib.hid hT
      have HC0 : Hid (∀ V, Below w.heap.size w V → V.cell? ⟨g, j * 3, none⟩ = some (.string (baS key))) := Lib.hid (fun V hV => (olds hV g _ hg).trans c0)
      have HC1 : Hid (∀ V, Below w.heap.size w V → V.cell? ⟨g, j * 3 + 1, none⟩ = some (.slice q ts.length cq)) := Lib.hid (fun V hV => (olds hV g _ hg).trans c1)
      clear hT hrow c0 c1 c2
      generalize hA : printD (L.take j) = A at *
      clear hA
      have HRP := Lib.hid hrp
      have hjg := joinP_ge (fun s => s) (textsOf ts)
      rw [texts_len] at hjg
      have hal : A.length + key.length + (joinP (fun s => s) (textsOf ts)).length + 2 ≤ 900000 := by simp at hbig; omega
      have hrl : ts.length ≤ 900001 := by omega
      clear hrp hjg hbig
      obtain ⟨p1, q1, rfl, ho1⟩ := hO
      have d0 := HC0.out wr hb
      have hz := hb.size
      go_wp2_with (at_builtin; refine appS _ (by rfl) _ _ (by rfl) w.heap.size p1 q1 A key (by rfl) ho1 (by rfl) (by omega) (by omega) hz ?_)
      intro p2 q2 w2 hA2
      obtain ⟨ho2, hbel⟩ := hA2
      have B2 := hbel _ _ (Nat.le_refl _) hb
      have hz2 := B2.size
      have hl2 : (A ++ key).length = A.length + key.length := List.length_append
      rw [← hl2]
      have HRP2 : Hid (printD (L.take (j + 1)) = A ++ key ++ [61] ++ joinP (fun s => s) (textsOf ts) ++ [10]) := Lib.hid (by rw [HP.out, HRP.out]; simp)
      have hak : (A ++ key).length + (joinP (fun s => s) (textsOf ts)).length + 2 ≤ 900000 := by omega
      clear hbel ho1 hb d0 hz hl2 hal HP HRP
      generalize A ++ key = AK0 at *
      go_wp2_with (at_builtin; refine app1 _ (by rfl) _ _ (by rfl) w.heap.size p2 q2 AK0 (by rfl) (ho2.alloc _) w2.heap.size 1 _ 61 rfl (by rfl) (by simp [go_sem]) (by omega) (by simp; omega) ?_)
      intro g3 cap w4 hA4
      obtain ⟨ho4, hbel⟩ := hA4
      have B4 := hbel _ _ (Nat.le_refl _) (ball B2)
      have hl4 : AK0.length + 1 = (AK0 ++ [61]).length := by rw [List.length_append]; rfl
      rw [hl4]
      have hal : (AK0 ++ [61]).length + (joinP (fun s => s) (textsOf ts)).length + 1 ≤ 900000 := by omega
      clear hbel ho2 B2 hz2 hl4 hak
      generalize AK0 ++ [61] = AK at *
      go_wp2_with fail
      go_loopw [3, 5] (fun sv iv wx => ∃ k : Nat, iv = .int .i64 (k : Int) ∧ k ≤ ts.length ∧ OutB wx w.heap.size sv (AK ++ joinP (fun s => s) ((textsOf ts).take k)) ∧ Below w.heap.size w wx) (fun _ iv _ => ts.length + 1 - intN iv)
      case atStart => exact ⟨0, rfl, Nat.zero_le _, OutB.of ⟨_, _, rfl, ho4⟩ (by simp [joinP]), B4⟩
      case round =>
        clear ho4 B4
        obtain ⟨k, rfl, hkl, hO, hb⟩ := hrel
        have d1 := HC1.out wr hb
        have hjl2 := joinP_le (fun s => s) (textsOf ts) k
        have hal3 : (AK ++ joinP (fun s => s) ((textsOf ts).take k)).length ≤ 900000 := by rw [List.length_append]; omega
        by_cases hk : k < ts.length
        · have ht := List.getElem?_eq_getElem hk
          generalize htt : ts[k]'hk = t at *
          clear htt
          obtain ⟨g2, hq2, hg2, e0, e1, e2⟩ := HL.out k t ht
          subst hq2
          have HC2 : Hid (∀ V, Below w.heap.size w V → V.cell? ⟨g2, k * 3 + 1, none⟩ = some (.string (baS t.2.1))) := Lib.hid (fun V hV => (olds hV g2 _ hg2).trans e1)
          have HJ := Lib.hid (joinP_take (fun s => s) (texts_at ht))
          have hjl3 := joinP_le (fun s => s) (textsOf ts) (k + 1)
          rw [HJ.out, List.length_append] at hjl3
          have htl : t.2.1.length ≤ 900000 := by omega
          clear e0 e1 e2 ht hjl3 hjl2 hal
          generalize hJ : joinP (fun s => s) ((textsOf ts).take k) = J at *
          clear hJ
          generalize t.2.1 = tx at *
          have HE2 : Hid (AK ++ joinP (fun s => s) ((textsOf ts).take (k + 1)) = AK ++ J ++ (if k = 0 then [] else [44]) ++ tx) := Lib.hid (by rw [HJ.out]; simp)
          clear HJ
          generalize AK ++ J = AJ at *
          go_upto_region 10 with fail
          by_cases hk0 : k = 0
          · subst hk0
            obtain ⟨p1, q1, rfl, ho1⟩ := hO
            have d2 := HC2.out wr hb
            simp only [Nat.zero_mul, Nat.zero_add] at d2
            have hz := hb.size
            go_wp2_with (at_builtin; refine appS _ (by rfl) _ _ (by rfl) w.heap.size p1 q1 AJ tx (by rfl) ho1 (by rfl) (by omega) (by omega) hz ?_)
            intro p2 q2 w2 hA2
            obtain ⟨ho2, hbel⟩ := hA2
            have B2 := hbel _ _ (Nat.le_refl _) hb
            clear hbel ho1 hb d1 d2
            go_wp2
            exact ⟨⟨1, by simp, by omega, OutB.of ⟨_, _, by rw [List.length_append], ho2⟩ (by rw [HE2.out]; simp), B2⟩, by simp [intN]; omega⟩
          · obtain ⟨p1, q1, rfl, ho1⟩ := hO
            have hk1 : (0 : Int) < (k : Int) := by omega
            have hz := hb.size
            go_upto_region 11 with fail
            go_wp2_with (at_builtin; refine app1 _ (by rfl) _ _ (by rfl) w.heap.size p1 q1 AJ (by rfl) (ho1.alloc _) wr.heap.size 1 _ 44 rfl (by rfl) (by simp [go_sem]) (by omega) (by simp; omega) ?_)
            intro g3 cap w4 hA4
            obtain ⟨ho4, hbel⟩ := hA4
            have B4 := hbel _ _ (Nat.le_refl _) (ball hb)
            have hz4 := B4.size
            have d1' := HC1.out w4 B4
            have d2 := HC2.out w4 B4
            have hl4 : AJ.length + 1 = (AJ ++ [44]).length := by simp
            have hl5 : (AJ ++ [44]).length ≤ 900001 := by simp; omega
            rw [hl4]
            clear hbel ho1 hb d1 hl4 hz hal3
            have HE3 : Hid (AK ++ joinP (fun s => s) ((textsOf ts).take (k + 1)) = AJ ++ [44] ++ tx) := Lib.hid (by rw [HE2.out, if_neg hk0])
            clear HE2
            generalize AJ ++ [44] = AJ4 at *
            go_wp2_with (at_builtin; refine appS _ (by rfl) _ _ (by rfl) w.heap.size (some ⟨g3, 0, none⟩) cap AJ4 tx (by rfl) ho4 (by rfl) (by omega) (by omega) hz4 ?_)
            intro p2 q2 w5 hA5
            obtain ⟨ho5, hbel⟩ := hA5
            have B5 := hbel _ _ (Nat.le_refl _) B4
            clear hbel ho4 B4 d1' d2
            go_wp2
            exact ⟨⟨k + 1, by simp, by omega, OutB.of ⟨_, _, by rw [List.length_append], ho5⟩ HE3.out.symm, B5⟩, by simp [intN]; omega⟩
        · have hkn : ¬ ((k : Int) < (ts.length : Int)) := by omega
          have HE2 : Hid (printD (L.take (j + 1)) = AK ++ joinP (fun s => s) ((textsOf ts).take k) ++ [10]) := Lib.hid (by
            rw [HRP2.out, List.take_of_length_le (by rw [texts_len]; omega)])
          clear hjl2 hal HRP2
          generalize AK ++ joinP (fun s => s) ((textsOf ts).take k) = AJ at *
          obtain ⟨p1, q1, rfl, ho1⟩ := hO
          have hz := hb.size
          go_wp2_with (at_builtin; refine app1 _ (by rfl) _ _ (by rfl) w.heap.size p1 q1 AJ (by rfl) (ho1.alloc _) wr.heap.size 1 _ 10 rfl (by rfl) (by simp [go_sem]) (by omega) (by simp; omega) ?_)
          intro g3 cap w4 hA4
          obtain ⟨ho4, hbel⟩ := hA4
          have B4 := hbel _ _ (Nat.le_refl _) (ball hb)
          clear hbel ho1 hb d1
          go_wp2
          exact ⟨⟨j + 1, by simp, by omega, OutB.of ⟨_, _, by simp, ho4⟩ HE2.out.symm, B4⟩, by simp [intN]; omega⟩
    · have hjn : ¬ ((j : Int) < (L.length : Int)) := by omega
      have HE : Hid (printD (L.take j) = printD L) := Lib.hid (by rw [List.take_of_length_le (by omega)])
      rw [HE.out] at hO
      obtain ⟨p1, q1, rfl, ho1⟩ := hO
      go_wp2_with fail
      go_ret
      exact ⟨hb, p1, q1, rfl, ho1⟩
end Go.Proofs.YtfmanmidihofgaaDoor
