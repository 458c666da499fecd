/- CsvrTells: whatever bytes, whatever numbers, whatever fields, the law answers true. -/
import Derived.Test.YtcfminkmidaaoaaDoorVz
import Derived.Test.YtcfminkmidaaoaaDoorWz
import Derived.Test.YtcfminkmidaaoaaDoorVq
import Derived.Test.YtcfminkmidaaoaaDoorVi
import Derived.Test.YtcfminkmidaaoaaDoorVv
import Derived.Test.YtcfminkmidaaoaaDoorRg2
import Derived.Test.YtcfminkmidaaoaaDoorLb10
import Derived.Deep.QuietTactic
import Derived.Deep.RegionWith
namespace Go.Proofs.YtcfminkmidaaoaaDoor
open Go.ChangeShapes Go.WideShapes Go.RowKit Go.Sort
/-- A text that lies in memory, and is not too long. -/
def Lies9 (V : World) (v : Value) : Prop := ∃ (p : Option Addr) (x : Bs) (q : Nat), v = .slice p x.length q ∧ BytesAt V p x ∧ x.length ≤ q ∧ x.length ≤ 10000
set_option maxHeartbeats 32000000 in
set_option maxRecDepth 100000 in
theorem ctells_walk (la : Option Addr) (l : Bs) (c : Nat) (b : Option Addr) (zs : List Int) (d : Nat) (fa : Option Addr) (F : List Bs) (fc : Nat) (z : Int) (w : World) (hg : Gl w) (hc : l.length ≤ c ∧ (la = none → c = 0)) (hr : BytesAt w la l) (hi : IntsAt w b zs) (hz : ∀ z ∈ zs, (Lit.int .i64 z).wf = true) (hF : BytessAt w fa F) :
    Calls Tryd.prog 6 #[.slice la l.length c, .slice b zs.length d, .slice fa F.length fc, .int .i64 z] w fun e w' => e = .returned (.bool true) ∧ Below w.heap.size w w' := by
  have HG := Lib.hid hg
  have HR := Lib.hid hr
  have HI := Lib.hid hi
  have HZ := Lib.hid hz
  have HC := Lib.hid hc
  have HF := Lib.hid hF
  clear hr hi hz hc hF hg
  by_cases hbig : 600 < l.length
  · go_enter Tryd.func6, Tryd.ntmps6
    go_wp2_with fail
    refine (awake9_x w HG.out).mono ?_
    rintro e w' ⟨rfl, hb⟩
    go_wp2
    go_ret
    exact ⟨rfl, hb⟩
  by_cases hbig2 : 30 < F.length
  · have hll : ¬ ((600 : Int) < (l.length : Int)) := by omega
    go_enter Tryd.func6, Tryd.ntmps6
    go_wp2_with fail
    refine (awake9_x w HG.out).mono ?_
    rintro e w' ⟨rfl, hb⟩
    go_wp2
    go_ret
    exact ⟨rfl, hb⟩
  · have hll : l.length ≤ 600 := by omega
    have hFl : F.length ≤ 30 := by omega
    clear hbig hbig2
    have htl := textQ_len zs
    go_enter Tryd.func6, Tryd.ntmps6
    go_wp2_with fail
    refine (textQ_x zs b d w HI.out HZ.out).mono ?_
    rintro e w1 ⟨hb1, p1, q1, rfl, hown1⟩
    have HI1 := Lib.hid (HI.out.below hb1)
    have KB1 := Lib.hid (bytes_own hown1)
    have cap1 := own_cap hown1
    clear hown1
    go_wp2_with fail
    refine (textQ_x zs b d w1 HI1.out HZ.out).mono ?_
    rintro e w2 ⟨hb2, p2, q2, rfl, hown2⟩
    have B2 := below_next hb1 hb2
    have HR2 := Lib.hid (HR.out.below B2)
    have HO2 := Lib.hid hown2
    have z12 := hb1.size
    have z2 := hb2.size
    clear hown2 HI1
    go_wp2_with (at_builtin; refine appB _ (by rfl) _ _ (by rfl) w1.heap.size p2 q2 (textQ zs) la c l (by rfl) HO2.out (by rfl) HC.out.2 HR2.out (by omega) (by omega) z2 ?_)
    intro p3 q3 w3 hA
    obtain ⟨hown3, hbel⟩ := hA
    have B3 : Below w.heap.size w w3 := hbel _ _ z12 B2
    have B13 : Below w1.heap.size w1 w3 := hbel _ _ (Nat.le_refl _) hb2
    have KB3 := Lib.hid (bytes_own hown3)
    have cap3 := own_cap hown3
    have len3 : (textQ zs ++ l).length = (textQ zs).length + l.length := List.length_append
    clear hown3 hbel B2 hb2 HO2 HR2
    have r0 : ∀ V, Below w3.heap.size w3 V → Lies9 V (.slice la l.length c) := fun V hV => ⟨la, l, c, rfl, HR.out.below (below_next B3 hV), HC.out.1, by omega⟩
    have r1 : ∀ V, Below w3.heap.size w3 V → Lies9 V (.slice p1 (textQ zs).length q1) := fun V hV => ⟨p1, textQ zs, q1, rfl, KB1.out.below (below_next B13 hV), cap1, by omega⟩
    have r2 : ∀ V, Below w3.heap.size w3 V → Lies9 V (.slice p3 ((textQ zs).length + l.length) q3) := fun V hV => ⟨p3, textQ zs ++ l, q3, by rw [len3], KB3.out.below hV, cap3, by omega⟩
    have R0 := Lib.hid r0
    have R1 := Lib.hid r1
    have R2 := Lib.hid r2
    clear r0 r1 r2 cap3 len3 KB1 KB3
    go_upto_region 4 with fail
    generalize hw4 : w3.alloc _ = w4
    have B34 : Below w3.heap.size w3 w4 := hw4 ▸ ball (Below.refl _ _)
    have B4 : Below w.heap.size w w4 := below_next B3 B34
    have HRW : Hid (∀ V, Below w4.heap.size w4 V → ∀ j, j < 3 → ∃ v, V.cell? ⟨w3.heap.size, j, none⟩ = some v ∧ Lies9 V v) := by
      intro V hV j hj
      have hl : w3.heap.size < w4.heap.size := by subst hw4; simp [go_sem]
      rw [olds hV _ _ hl]
      have B3V := below_next B34 hV
      subst hw4
      match j, hj with
      | 0, _ => exact ⟨_, by simp [go_sem], R0.out V B3V⟩
      | 1, _ => exact ⟨_, by simp [go_sem], R1.out V B3V⟩
      | 2, _ => exact ⟨_, by simp [go_sem], R2.out V B3V⟩
    clear hw4 R0 R1 R2 B13 hb1 z12 z2
    generalize w3.heap.size = G at *
    go_wp2_with fail
    go_loopw [37] (fun iv wr => ∃ j : Nat, iv = .int .i64 (j : Int) ∧ j ≤ 3 ∧ Below w4.heap.size w4 wr) (fun iv _ => 4 - intN iv)
    case atStart => exact ⟨0, rfl, Nat.zero_le _, Below.refl _ _⟩
    case round =>
      obtain ⟨j, rfl, hj3, hb⟩ := hrel
      by_cases hlt : j < 3
      · obtain ⟨v, hcell, p, x, q, rfl, hx, hxq, hxl⟩ := HRW.out wr hb j hlt
        obtain ⟨L, K, A, hout⟩ : ∃ L K A, outC (recV x) = (L, K, A) := ⟨_, _, _, rfl⟩
        have HO := Lib.hid hout
        have HX := Lib.hid hx
        clear hout hx
        go_wp2_with fail
        refine (parse_x x p q wr HX.out hxq (by omega)).mono ?_
        intro e w5 h5
        obtain ⟨⟨pa, ca, rfl, ha, hla⟩, hb5⟩ := h5.out HO.out
        have HX5 := Lib.hid (HX.out.below hb5)
        have B5 := below_next hb hb5
        clear h5 hcell HX hb5
        go_upto_region 7 with fail
        generalize hw6 : w5.alloc _ = w6
        have B6 : Below w4.heap.size w4 w6 := hw6 ▸ B5.alloc B5.size _
        have X6 : ErrC w6 w5.heap.size K A := by subst hw6; exact ⟨by simp [go_sem], by simp [go_sem], by simp [go_sem]⟩
        have T6 : Hid (RecP tokP w6 pa L) := Lib.hid (hw6 ▸ ha.below (ball (Below.refl _ _)))
        have HX6 : Hid (BytesAt w6 p x) := Lib.hid (hw6 ▸ HX5.out.below (ball (Below.refl _ _)))
        clear hw6 B5 ha HX5
        generalize w5.heap.size = X at *
        go_wp2_with fail
        refine (recordsR_x x p q w6 HX6.out hxq (by omega)).mono ?_
        intro e w7 h7
        obtain ⟨⟨pb, cb, rfl, hb', _⟩, hb7⟩ := h7.out HO.out
        have B7 := below_next B6 hb7
        have X7 := X6.next hb7
        have T7 := Lib.hid (T6.out.below hb7)
        clear h7 HX6 hb7 B6 X6 T6
        have HFIT : Hid (∀ row ∈ L, row.length ≤ 1000000) := Lib.hid (fun row hrow => by
          cases hx : recV x with
          | ok M =>
            have h9 := HO.out
            rw [hx] at h9
            cases h9
            have := recV_len hx row hrow
            omega
          | bad k a =>
            have h9 := HO.out
            rw [hx] at h9
            cases h9
            cases hrow)
        clear HO
        go_upto_region 8 with fail
        generalize hw8 : w7.alloc _ = w8
        have B8 : Below w4.heap.size w4 w8 := hw8 ▸ B7.alloc B7.size _
        have X8 : ErrC w8 X K A := hw8 ▸ X7.next (ball (Below.refl _ _))
        have Y8 : ErrC w8 w7.heap.size K A := by subst hw8; exact ⟨by simp [go_sem], by simp [go_sem], by simp [go_sem]⟩
        have T8 : Hid (RecP tokP w8 pa L) := Lib.hid (hw8 ▸ T7.out.below (ball (Below.refl _ _)))
        have U8 : Hid (RecP tokP w8 pb L) := Lib.hid (hw8 ▸ hb'.below (ball (Below.refl _ _)))
        clear hw8 B7 X7 T7 hb'
        generalize w7.heap.size = Y at *
        have x0 := X8.c0
        have x1 := X8.c1
        have y0 := Y8.c0
        have y1 := Y8.c1
        clear X8 Y8
        go_wp2_with fail
        go_loopw [63] (fun iv wx => ∃ i : Nat, iv = .int .i64 (i : Int) ∧ i ≤ L.length ∧ Below w8.heap.size w8 wx) (fun iv _ => L.length + 1 - intN iv)
        case atStart => exact ⟨0, rfl, Nat.zero_le _, Below.refl _ _⟩
        case round =>
          clear x0 x1 y0 y1
          obtain ⟨i, rfl, hi, hbx⟩ := hrel
          by_cases hil : i < L.length
          · have hrow := List.getElem?_eq_getElem hil
            have hrm := HFIT.out _ (List.getElem_mem hil)
            generalize L[i]'hil = row at *
            obtain ⟨g, qo, co, hpa, hg8, hc1, hl1⟩ := T8.out i row hrow
            subst hpa
            obtain ⟨h, qs, cs, hpb, hh8, hc2, hl2⟩ := U8.out i row hrow
            subst hpb
            have e1 := (olds hbx g i hg8).trans hc1
            have e2 := (olds hbx h i hh8).trans hc2
            have HS : Hid (∀ V, Below w8.heap.size w8 V → Calls Tryd.prog 12 #[.slice qo row.length co, .slice qs row.length cs] V fun e w' => e = .returned (.bool true) ∧ Below V.heap.size V w') := Lib.hid (fun V hV => same_k row qo qs co cs V (tokP.below hl1 hV) (tokP.below hl2 hV) hrm)
            have HE1 : Hid (∀ V, Below wr.heap.size wr V → V.cell? ⟨g, i, none⟩ = some (.slice qo row.length co)) := Lib.hid (fun V hV => (olds (below_next hbx hV) g i hg8).trans hc1)
            have HE2 : Hid (∀ V, Below wr.heap.size wr V → V.cell? ⟨h, i, none⟩ = some (.slice qs row.length cs)) := Lib.hid (fun V hV => (olds (below_next hbx hV) h i hh8).trans hc2)
            clear hrow hl1 hl2 e1 e2
            go_wp2_with fail
            refine region_go2 66 76 [66, 67, 68, 69, 70, 71, 72, 73, 74, 75]
              [.eqv (.slice (some ⟨g, 0, none⟩) L.length ca), .eqv (.int .i64 (i : Int)), .eqv (.pointer (some ⟨g, i, none⟩)), .eqv (.slice qo row.length co), .eqv (.slice (some ⟨h, 0, none⟩) L.length cb), .eqv (.int .i64 (i : Int)), .eqv (.pointer (some ⟨h, i, none⟩)), .eqv (.slice qs row.length cs), .eqv (.bool true), .eqv (.bool false)]
              (by kernel_rfl) (by kernel_rfl) rfl (by decide) (of_decide_eq_true (by kernel_rfl)) (by decide) ?_ ?_
            · refine ⟨?_, ?_, ?_, ?_, ?_, ?_, ?_, ?_, ?_, ?_, True.intro⟩
              · refine stepG_val rfl fun a w hF hB hD => ⟨rg_free rfl _, ?_⟩
                have h11 : a.eval (.tmp 11) = .slice (some ⟨g, 0, none⟩) L.length ca := (hF 11 (by decide)).trans rfl
                unfold execOp
                simp only [h11]
                simp [go_sem]
              · refine stepG_val rfl fun a w hF hB hD => ⟨rg_free rfl _, ?_⟩
                have h15 : a.eval (.tmp 15) = .int .i64 (i : Int) := (hF 15 (by decide)).trans rfl
                unfold execOp
                simp only [h15]
                simp [go_sem]
              · refine stepG_val rfl fun a w hF hB hD => ⟨rg_free rfl _, ?_⟩
                have h66 : a.eval (.tmp 66) = .slice (some ⟨g, 0, none⟩) L.length ca := hD 0 rfl
                have h67 : a.eval (.tmp 67) = .int .i64 (i : Int) := hD 1 rfl
                unfold execOp
                simp only [h66, h67]
                simp [go_sem, hil]
              · refine stepG_val rfl fun a w hF hB hD => ⟨rg_free rfl _, ?_⟩
                have h68 : a.eval (.tmp 68) = .pointer (some ⟨g, i, none⟩) := hD 2 rfl
                have c0 := HE1.out w hB
                unfold execOp
                simp only [h68]
                simp [go_sem, c0]
              · refine stepG_val rfl fun a w hF hB hD => ⟨rg_free rfl _, ?_⟩
                have h13 : a.eval (.tmp 13) = .slice (some ⟨h, 0, none⟩) L.length cb := (hF 13 (by decide)).trans rfl
                unfold execOp
                simp only [h13]
                simp [go_sem]
              · refine stepG_val rfl fun a w hF hB hD => ⟨rg_free rfl _, ?_⟩
                have h15 : a.eval (.tmp 15) = .int .i64 (i : Int) := (hF 15 (by decide)).trans rfl
                unfold execOp
                simp only [h15]
                simp [go_sem]
              · refine stepG_val rfl fun a w hF hB hD => ⟨rg_free rfl _, ?_⟩
                have h70 : a.eval (.tmp 70) = .slice (some ⟨h, 0, none⟩) L.length cb := hD 4 rfl
                have h71 : a.eval (.tmp 71) = .int .i64 (i : Int) := hD 5 rfl
                unfold execOp
                simp only [h70, h71]
                simp [go_sem, hil]
              · refine stepG_val rfl fun a w hF hB hD => ⟨rg_free rfl _, ?_⟩
                have h72 : a.eval (.tmp 72) = .pointer (some ⟨h, i, none⟩) := hD 6 rfl
                have c0 := HE2.out w hB
                unfold execOp
                simp only [h72]
                simp [go_sem, c0]
              · refine stepG_call fun a w hF hB hD => ⟨rg_free rfl _, 12, ?_⟩
                have h69 : a.eval (.tmp 69) = .slice qo row.length co := hD 3 rfl
                have h73 : a.eval (.tmp 73) = .slice qs row.length cs := hD 7 rfl
                refine ⟨#[.slice qo row.length co, .slice qs row.length cs], ?_, ?_⟩
                · unfold execOp
                  simp [go_sem, rg_tmp h69, rg_tmp h73]
                · exact (HS.out w (below_next hbx hB)).mono fun e w' ⟨h, k⟩ => ⟨_, h, rfl, k⟩
              · refine stepG_val rfl fun a w hF hB hD => ⟨rg_free rfl _, ?_⟩
                have h74 : a.eval (.tmp 74) = .bool true := hD 8 rfl
                unfold execOp
                simp only [h74]
                simp [go_sem]
            · intro u9 w9 hsp hb9
              have h75 : u9 75 = .bool false := hsp 9 (by decide)
              have B9 := below_next hbx hb9
              clear hsp
              simp only [updG, Nat.reduceAdd, Nat.reduceLeDiff, Nat.reduceLT, and_true, and_false, ↓reduceIte, h75]
              go_wp2_with fail
              exact ⟨⟨i + 1, by simp, by omega, B9⟩, by simp [intN]; omega⟩
          · have hin : ¬ ((i : Int) < (L.length : Int)) := by omega
            have B9 := below_next B8 hbx
            go_wp2_with fail
            exact ⟨⟨j + 1, by simp, by omega, B9⟩, by simp [intN]; omega⟩
      · have hj9 : ¬ ((j : Int) < 3) := by omega
        have BW : Below w.heap.size w wr := below_next B4 hb
        clear HRW HR HI HZ HC B3 B4 hb B34
        obtain ⟨W5, hW5⟩ : ∃ W5 : World, W5 = wr := ⟨_, rfl⟩
        subst hW5
        go_wp2_with fail
        go_loopw [16, 17, 80] (fun rv sv iv wx => ∃ (R : List (List Bs)) (vs : List Value) (row : List Bs) (i : Nat) (p : Option Addr) (q : Nat) (p2 : Option Addr) (q2 : Nat) (wo : World), rv = .slice p R.length q ∧ sv = .slice p2 row.length q2 ∧ iv = .int .i64 (i : Int) ∧ i ≤ F.length ∧ R.length ≤ i ∧ totS R + row.length ≤ i ∧ Hid (∀ r ∈ R, ∀ s ∈ r, s.length ≤ 300) ∧ Hid (∀ s ∈ row, s.length ≤ 300) ∧ OutP strP wo 43 W5.heap.size p q R vs ∧ Below W5.heap.size W5 wo ∧ wx.ownsRow wo.heap.size 9 1 (.slice p2 row.length q2) row.length (cellsS row) ∧ Below wo.heap.size wo wx) (fun _ _ iv _ => F.length + 2 - intN iv)
        case atStart => exact ⟨[], [], [], 0, none, 0, none, 0, W5, rfl, rfl, rfl, by omega, by simp, by simp [totS], Lib.hid (by simp), Lib.hid (by simp), OutP.nil _ _ _ _, Below.refl _ _, World.ownsRow_nil _ _ _ _, Below.refl _ _⟩
        case round =>
          have BWo := BW
          clear BW
          obtain ⟨R, vs, row, i, p, q, p2, q2, wo, rfl, rfl, rfl, hiF, hRi, htot, hR, hrow, hout, hbo, hown, hb⟩ := hrel
          have hzo := hbo.size
          have hzs := hb.size
          have hbr := below_next hbo hb
          have hbw := below_next BWo hbr
          by_cases hlt : i < F.length
          · obtain ⟨ad, lp, lc, hfa, hadb, hcell0, hcap, hby⟩ := HF.out i _ (List.getElem?_eq_getElem hlt)
            generalize F[i]'hlt = l at *
            subst hfa
            have hcell := (hbw.cell (p := ad.add i) (by rw [add_block]; exact hadb)).trans hcell0
            by_cases hbig : 300 < l.length
            · clear hcell0 hby hcap
              go_wp2_with fail
              refine (awake9_x _ (HG.out.below hbw)).mono ?_
              rintro e w2 ⟨rfl, hb2⟩
              go_wp2
              go_ret
              exact ⟨rfl, below_next hbw hb2⟩
            · have hb300 : ¬ ((300 : Int) < (l.length : Int)) := by omega
              have hcv := conv_bytes lc (hby.below hbw)
              clear hcell0 hby
              have hz2 := hb.size
              generalize hS : baS l = S at *
              have HS := Lib.hid hS
              clear hS
              go_wp2_with (at_builtin; refine appU _ (by rfl) _ _ (by rfl) wo.heap.size p2 q2 row (by rfl) (hown.alloc _) wr.heap.size 1 l (by rfl) (by rw [HS.out]; simp [go_sem]) (by omega) (by simp; omega) ?_)
              intro g3 cap w6 hA
              obtain ⟨hown6, hbel⟩ := hA
              have hb6 := hbel wo.heap.size wo (Nat.le_refl _) (hb.alloc hz2 _)
              clear hbel hz2
              have hlen : (row ++ [l]).length = row.length + 1 := by simp
              have HLEN := Lib.hid hlen
              have hrow1 : Hid (∀ x ∈ row ++ [l], x.length ≤ 300) := Lib.hid (fun x hx => by
                rcases List.mem_append.1 hx with h | h
                · exact hrow.out x h
                · rw [List.mem_singleton] at h; subst h; omega)
              clear hlen hrow
              generalize row ++ [l] = row1 at *
              have hr1 : (Value.slice (some ⟨g3, 0, none⟩) (row.length + 1) cap) = .slice (some ⟨g3, 0, none⟩) row1.length cap := by rw [HLEN.out]
              rw [hr1]
              clear hr1
              have hout6 := hout.below hb6
              have hlies : strP.lies w6 (some ⟨g3, 0, none⟩) row1 := strK_own hown6
              have hsep : ∀ g, (some ⟨g3, 0, none⟩ : Option Addr) = some ⟨g, 0, none⟩ → g < w6.heap.size ∧ (Value.slice p R.length q).ownBlock ≠ some g := fun g hg => by
                have h1 := hown6.lt g (by rw [hg]; rfl)
                refine ⟨h1.2, fun he => ?_⟩
                have := (hout.own.lt g he).2
                omega
              have hbo6 := below_next hbo hb6
              have hz7 := hbo6.size
              clear hcell hcv hcap
              go_wp2_with (at_builtin; refine appR strP _ (by rfl) _ _ 42 43 (by rfl) Tryd.underlying42 infoSR W5.heap.size p q R vs (by rfl) (hout6.below (ball (Below.refl _ _))) w6.heap.size 1 (some ⟨g3, 0, none⟩) cap row1 (by rfl) (by simp [go_sem]) (strP.below hlies (ball (Below.refl _ _))) (fun g hg => ⟨by have := (hsep g hg).1; simp; omega, (hsep g hg).2⟩) (by omega) (by simp; omega) ?_)
              · intro g4 cap4 w7 hA
                obtain ⟨hout7, _, hbel⟩ := hA
                have hb7 := hbel W5.heap.size W5 (Nat.le_refl _) (hbo6.alloc hz7 _)
                clear hbel
                have htot2 : totS (R ++ [row1]) ≤ i + 1 := by rw [totS_snoc, HLEN.out]; omega
                have hR2 : Hid (∀ r ∈ R ++ [row1], ∀ s ∈ r, s.length ≤ 300) := Lib.hid (fun r hr => by
                  rcases List.mem_append.1 hr with h | h
                  · exact hR.out r h
                  · rw [List.mem_singleton] at h; subst h; exact hrow1.out)
                go_wp2
                exact ⟨⟨R ++ [row1], _, [], i + 1, some ⟨g4, 0, none⟩, cap4, none, 0, w7, by simp, rfl, by simp, by omega, by simp; omega, by simpa using htot2, hR2, Lib.hid (by simp), hout7, hb7, World.ownsRow_nil _ _ _ _, Below.refl _ _⟩, by simp [intN]; omega⟩
              · exact ⟨⟨R, vs, row1, i + 1, p, q, some ⟨g3, 0, none⟩, cap, wo, rfl, rfl, by simp, by omega, by omega, by rw [HLEN.out]; omega, hR, hrow1, hout, hbo, hown6, hb6⟩, by simp [intN]; omega⟩
          · have hiFn : ¬ ((i : Int) < (F.length : Int)) := by omega
            have hout6 := hout.below hb
            have hlies : strP.lies wr p2 row := strK_own hown
            have hsep : ∀ g, p2 = some ⟨g, 0, none⟩ → g < wr.heap.size ∧ (Value.slice p R.length q).ownBlock ≠ some g := fun g hg => by
              have h1 := hown.lt g (by rw [hg]; rfl)
              refine ⟨h1.2, fun he => ?_⟩
              have := (hout.own.lt g he).2
              omega
            have hz7 := hbr.size
            go_wp2_with (at_builtin; refine appR strP _ (by rfl) _ _ 42 43 (by rfl) Tryd.underlying42 infoSR W5.heap.size p q R vs (by rfl) (hout6.below (ball (Below.refl _ _))) wr.heap.size 1 p2 q2 row (by rfl) (by simp [go_sem]) (strP.below hlies (ball (Below.refl _ _))) (fun g hg => ⟨by have := (hsep g hg).1; simp; omega, (hsep g hg).2⟩) (by omega) (by simp; omega) ?_)
            intro g4 cap4 w7 hA
            obtain ⟨hout7, _, hbel⟩ := hA
            have hb7 := hbel W5.heap.size W5 (Nat.le_refl _) (hbr.alloc hz7 _)
            have B7 := below_next BWo hb7
            clear hbel hout6 hlies hsep hz7
            have htot2 : totS (R ++ [row]) ≤ 31 := by rw [totS_snoc]; omega
            have hR2 : Hid (∀ r ∈ R ++ [row], ∀ s ∈ r, s.length ≤ 300) := Lib.hid (fun r hr => by
              rcases List.mem_append.1 hr with h | h
              · exact hR.out r h
              · rw [List.mem_singleton] at h; subst h; exact hrow.out)
            have hbd := print_bound (m := 300) (R ++ [row]) hR2.out
            have hrl : (R ++ [row]).length ≤ 31 := by simp; omega
            have hpl : (printV (R ++ [row])).length ≤ 30000 := by omega
            have hq1 : (Value.slice (some ⟨g4, 0, none⟩) (R.length + 1) cap4) = .slice (some ⟨g4, 0, none⟩) (R ++ [row]).length cap4 := by simp
            rw [hq1]
            have hrec := hout7.read
            clear hq1 hout7 hbd hrl htot2 hb7 hR hrow hout hbo hown hb hzo hzs hbr hbw htot hRi
            generalize R ++ [row] = R9 at *
            have HREC := Lib.hid hrec
            have HR9 := hR2
            have HPA : Hid (∀ V, Below w7.heap.size w7 V → Calls Tryd.prog 13 #[.slice (some ⟨g4, 0, none⟩) R9.length cap4] V fun e w' => (∃ pp qq, e = .returned (.slice pp (printV R9).length qq) ∧ BytesAt w' pp (printV R9)) ∧ Below V.heap.size V w') := Lib.hid (fun V hV => (print_x R9 _ cap4 V (HG.out.below (below_next B7 hV)) (HREC.out.below hV) (fun row hr s hs => by have := HR9.out row hr s hs; omega) (by omega)).mono fun e w' ⟨k1, pp, qq, k2, k3⟩ => ⟨⟨pp, qq, k2, bytes_own k3⟩, k1⟩)
            have HPB : Hid (∀ V, Below w7.heap.size w7 V → Calls Tryd.prog 14 #[.slice (some ⟨g4, 0, none⟩) R9.length cap4] V fun e w' => (∃ pp qq, e = .returned (.slice pp (printV R9).length qq) ∧ BytesAt w' pp (printV R9)) ∧ Below V.heap.size V w') := Lib.hid (fun V hV => (printR_x R9 _ cap4 V (HREC.out.below hV) (fun row hr s hs => by have := HR9.out row hr s hs; omega) (by omega)).mono fun e w' ⟨k1, pp, qq, k2, k3⟩ => ⟨⟨pp, qq, k2, bytes_own k3⟩, k1⟩)
            have HGW : Hid (Gl w7) := Lib.hid (HG.out.below B7)
            clear hrec HREC HR9 hR2 hpl
            generalize printV R9 = P at *
            generalize hSP : baS P = SP at *
            have HSP := Lib.hid hSP
            clear hSP
            go_wp2_with fail
            refine region_go [113, 114, 115, 116, 117, 118, 119, 120, 121, 122, 8]
              [.eqv (.slice (some ⟨g4, 0, none⟩) R9.length cap4), ⟨fun v w => ∃ pp qq, v = .slice pp P.length qq ∧ BytesAt w pp P, fun _ _ _ ⟨pp, qq, h1, h2⟩ hb => ⟨pp, qq, h1, h2.below hb⟩⟩, .eqv (.string SP), .eqv (.slice (some ⟨g4, 0, none⟩) R9.length cap4), ⟨fun v w => ∃ pp qq, v = .slice pp P.length qq ∧ BytesAt w pp P, fun _ _ _ ⟨pp, qq, h1, h2⟩ hb => ⟨pp, qq, h1, h2.below hb⟩⟩, .eqv (.string SP), .eqv (.bool true), .eqv (.bool true), .eqv (.bool true), .eqv (.bool true), .eqv (.bool true)]
              (by kernel_rfl) (by kernel_rfl) rfl (by decide) (of_decide_eq_true (by kernel_rfl)) ?_ ?_
            · refine ⟨?_, ?_, ?_, ?_, ?_, ?_, ?_, ?_, ?_, ?_, ?_, True.intro⟩
              · refine stepG_val rfl fun a w hF hB hD => ⟨rg_free rfl _, ?_⟩
                have h16 : a.eval (.tmp 16) = .slice (some ⟨g4, 0, none⟩) R9.length cap4 := (hF 16 (by decide)).trans rfl
                unfold execOp
                simp only [h16]
                simp [go_sem]
              · refine stepG_call fun a w hF hB hD => ⟨rg_free rfl _, 13, ?_⟩
                have h113 : a.eval (.tmp 113) = .slice (some ⟨g4, 0, none⟩) R9.length cap4 := hD 0 rfl
                refine ⟨#[.slice (some ⟨g4, 0, none⟩) R9.length cap4], ?_, ?_⟩
                · unfold execOp
                  simp [go_sem, rg_tmp h113]
                · exact (HPA.out w hB).mono fun e w' ⟨⟨pp, qq, h, k1⟩, k⟩ => ⟨_, h, ⟨pp, qq, rfl, k1⟩, k⟩
              · refine stepG_val rfl fun a w hF hB hD => ⟨rg_free rfl _, ?_⟩
                obtain ⟨pp, qq, h114, k114⟩ : ∃ pp qq, a.eval (.tmp 114) = .slice pp P.length qq ∧ BytesAt w pp P := hD 1 rfl
                unfold execOp
                simp only [h114]
                have := run_v (conv_bytes qq k114)
                rwa [HSP.out] at this
              · refine stepG_val rfl fun a w hF hB hD => ⟨rg_free rfl _, ?_⟩
                have h16 : a.eval (.tmp 16) = .slice (some ⟨g4, 0, none⟩) R9.length cap4 := (hF 16 (by decide)).trans rfl
                unfold execOp
                simp only [h16]
                simp [go_sem]
              · refine stepG_call fun a w hF hB hD => ⟨rg_free rfl _, 14, ?_⟩
                have h116 : a.eval (.tmp 116) = .slice (some ⟨g4, 0, none⟩) R9.length cap4 := hD 3 rfl
                refine ⟨#[.slice (some ⟨g4, 0, none⟩) R9.length cap4], ?_, ?_⟩
                · unfold execOp
                  simp [go_sem, rg_tmp h116]
                · exact (HPB.out w hB).mono fun e w' ⟨⟨pp, qq, h, k1⟩, k⟩ => ⟨_, h, ⟨pp, qq, rfl, k1⟩, k⟩
              · refine stepG_val rfl fun a w hF hB hD => ⟨rg_free rfl _, ?_⟩
                obtain ⟨pp, qq, h117, k117⟩ : ∃ pp qq, a.eval (.tmp 117) = .slice pp P.length qq ∧ BytesAt w pp P := hD 4 rfl
                unfold execOp
                simp only [h117]
                have := run_v (conv_bytes qq k117)
                rwa [HSP.out] at this
              · refine stepG_val rfl fun a w hF hB hD => ⟨rg_free rfl _, ?_⟩
                have h115 : a.eval (.tmp 115) = .string SP := hD 2 rfl
                have h118 : a.eval (.tmp 118) = .string SP := hD 5 rfl
                unfold execOp
                simp only [h115, h118]
                simp [go_sem]
              · refine stepG_val rfl fun a w hF hB hD => ⟨rg_free rfl _, ?_⟩
                have h119 : a.eval (.tmp 119) = .bool true := hD 6 rfl
                unfold execOp
                simp only [h119]
                simp [go_sem]
              · refine stepG_call fun a w hF hB hD => ⟨rg_on (d := 120) rfl rfl (hD 7 rfl), 9, #[], ?_, (awake9_x w (HGW.out.below hB)).mono fun e w' ⟨h, k⟩ => ⟨_, h, rfl, k⟩⟩
                unfold execOp
                simp [go_sem]
              · refine stepG_val rfl fun a w hF hB hD => ⟨rg_free rfl _, ?_⟩
                have h120 : a.eval (.tmp 120) = .bool true := hD 7 rfl
                have h121 : a.eval (.tmp 121) = .bool true := hD 8 rfl
                unfold execOp
                simp only [h120, h121]
                simp [go_sem]
              · refine stepG_val rfl fun a w hF hB hD => ⟨rg_free rfl _, ?_⟩
                have h122 : a.eval (.tmp 122) = .bool true := hD 9 rfl
                unfold execOp
                simp only [h122]
                simp [go_sem]
            · rintro ⟨T9, Df⟩ w8 hd _ _ hsp hb8
              obtain rfl : Df = [] := hd
              have h8 : T9.getD 8 undef = .bool true := hsp 10 (by decide)
              clear hsp
              go_wp2
              go_ret
              exact ⟨by rw [h8], below_next B7 hb8⟩
end Go.Proofs.YtcfminkmidaaoaaDoor
