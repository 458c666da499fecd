/- DnslTells: whatever bytes, whatever numbers, the law answers true. -/
import Derived.Test.YtfmanmidihofgaaDoorXo
import Derived.Test.YtfmanmidihofgaaDoorXp
import Derived.Test.YtfmanmidihofgaaDoorXl
import Derived.Test.YtfmanmidihofgaaDoorXq
import Derived.Test.YtfmanmidihofgaaDoorXs
import Derived.Test.YtfmanmidihofgaaDoorXt
import Derived.Test.YtfmanmidihofgaaDoorRg2
import Derived.Deep.QuietTactic
import Derived.Deep.RegionWith
namespace Go.Proofs.YtfmanmidihofgaaDoor
open Go.ChangeShapes Go.WideShapes Go.RowKit Go.Sort
/-- A text that lies in memory, and is not too long. -/
def Lies10 (V : World) (v : Value) : Prop := ∃ (p : Option Addr) (x : Bs) (q : Nat), v = .slice p x.length q ∧ BytesAt V p x ∧ x.length ≤ q ∧ x.length ≤ 10000
set_option maxHeartbeats 32000000 in
set_option maxRecDepth 100000 in
theorem dtells_walk (la : Option Addr) (l : Bs) (c : Nat) (b : Option Addr) (zs : List Int) (d : Nat) (w : World) (hc : l.length ≤ c ∧ (la = none → c = 0)) (hr : BytesAt w la l) (hi : IntsAt w b zs) (hz : ∀ z ∈ zs, (Lit.int .i64 z).wf = true) :
    Calls Tryd.prog 5 #[.slice la l.length c, .slice b zs.length d] w fun e w' => e = .returned (.bool true) ∧ Below w.heap.size w w' := by
  have HR := Lib.hid hr
  have HI := Lib.hid hi
  have HZ := Lib.hid hz
  have HC := Lib.hid hc
  clear hr hi hz hc
  by_cases hbig : 600 < l.length
  · go_enter Tryd.func5, Tryd.ntmps5
    go_wp2_with fail
    refine (awake10_x w).mono ?_
    rintro e w' ⟨rfl, hb⟩
    go_wp2
    go_ret
    exact ⟨rfl, hb⟩
  · have hll : l.length ≤ 600 := by omega
    clear hbig
    have htl := textQ_len zs
    go_enter Tryd.func5, Tryd.ntmps5
    go_wp2_with fail
    refine (textQ_x zs b d w HI.out HZ.out).mono ?_
    rintro e w1 ⟨hb1, p1, q1, rfl, hown1⟩
    have HI1 := Lib.hid (HI.out.below hb1)
    have KB1 := Lib.hid (bytes_own hown1)
    have cap1 := own_cap hown1
    clear hown1
    go_wp2_with fail
    refine (textQ_x zs b d w1 HI1.out HZ.out).mono ?_
    rintro e w2 ⟨hb2, p2, q2, rfl, hown2⟩
    have B2 := below_next hb1 hb2
    have HR2 := Lib.hid (HR.out.below B2)
    have HO2 := Lib.hid hown2
    have z12 := hb1.size
    have z2 := hb2.size
    clear hown2 HI1
    go_wp2_with (at_builtin; refine appB _ (by rfl) _ _ (by rfl) w1.heap.size p2 q2 (textQ zs) la c l (by rfl) HO2.out (by rfl) HC.out.2 HR2.out (by omega) (by omega) z2 ?_)
    intro p3 q3 w3 hA
    obtain ⟨hown3, hbel⟩ := hA
    have B3 : Below w.heap.size w w3 := hbel _ _ z12 B2
    have B13 : Below w1.heap.size w1 w3 := hbel _ _ (Nat.le_refl _) hb2
    have KB3 := Lib.hid (bytes_own hown3)
    have cap3 := own_cap hown3
    have len3 : (textQ zs ++ l).length = (textQ zs).length + l.length := List.length_append
    clear hown3 hbel B2 hb2 HO2 HR2
    have r0 : ∀ V, Below w3.heap.size w3 V → Lies10 V (.slice la l.length c) := fun V hV => ⟨la, l, c, rfl, HR.out.below (below_next B3 hV), HC.out.1, by omega⟩
    have r1 : ∀ V, Below w3.heap.size w3 V → Lies10 V (.slice p1 (textQ zs).length q1) := fun V hV => ⟨p1, textQ zs, q1, rfl, KB1.out.below (below_next B13 hV), cap1, by omega⟩
    have r2 : ∀ V, Below w3.heap.size w3 V → Lies10 V (.slice p3 ((textQ zs).length + l.length) q3) := fun V hV => ⟨p3, textQ zs ++ l, q3, by rw [len3], KB3.out.below hV, cap3, by omega⟩
    have R0 := Lib.hid r0
    have R1 := Lib.hid r1
    have R2 := Lib.hid r2
    clear r0 r1 r2 cap3 len3 KB1 KB3
    go_upto_region 4 with fail
    generalize hw4 : w3.alloc _ = w4
    have B34 : Below w3.heap.size w3 w4 := hw4 ▸ ball (Below.refl _ _)
    have B4 : Below w.heap.size w w4 := below_next B3 B34
    have HRW : Hid (∀ V, Below w4.heap.size w4 V → ∀ j, j < 3 → ∃ v, V.cell? ⟨w3.heap.size, j, none⟩ = some v ∧ Lies10 V v) := by
      intro V hV j hj
      have hl : w3.heap.size < w4.heap.size := by subst hw4; simp [go_sem]
      rw [olds hV _ _ hl]
      have B3V := below_next B34 hV
      subst hw4
      match j, hj with
      | 0, _ => exact ⟨_, by simp [go_sem], R0.out V B3V⟩
      | 1, _ => exact ⟨_, by simp [go_sem], R1.out V B3V⟩
      | 2, _ => exact ⟨_, by simp [go_sem], R2.out V B3V⟩
    clear hw4 R0 R1 R2 B13 hb1 z12 z2
    generalize w3.heap.size = G at *
    go_wp2_with fail
    go_loopw [24] (fun iv wr => ∃ j : Nat, iv = .int .i64 (j : Int) ∧ j ≤ 3 ∧ Below w4.heap.size w4 wr) (fun iv _ => 4 - intN iv)
    case atStart => exact ⟨0, rfl, Nat.zero_le _, Below.refl _ _⟩
    case round =>
      obtain ⟨j, rfl, hj3, hb⟩ := hrel
      by_cases hlt : j < 3
      · obtain ⟨v, hcell, p, x, q, rfl, hx, hxq, hxl⟩ := HRW.out wr hb j hlt
        obtain ⟨L, K, A, hout⟩ : ∃ L K A, outD (rowsV x) = (L, K, A) := ⟨_, _, _, rfl⟩
        have HO := Lib.hid hout
        have HX := Lib.hid hx
        clear hout hx
        go_wp2_with fail
        refine (parse10_x x p q wr HX.out hxq (by omega)).mono ?_
        intro e w5 h5
        obtain ⟨⟨pa, ca, rfl, ha, hla⟩, hb5⟩ := h5.out HO.out
        have HX5 := Lib.hid (HX.out.below hb5)
        have B5 := below_next hb hb5
        clear h5 hcell HX hb5
        go_upto_region 7 with fail
        generalize hw6 : w5.alloc _ = w6
        have B6 : Below w4.heap.size w4 w6 := hw6 ▸ B5.alloc B5.size _
        have X6 : ErrC w6 w5.heap.size K A := by subst hw6; exact ⟨by simp [go_sem], by simp [go_sem], by simp [go_sem]⟩
        have T6 : Hid (RecW w6 pa L) := Lib.hid (hw6 ▸ ha.below (ball (Below.refl _ _)))
        have HX6 : Hid (BytesAt w6 p x) := Lib.hid (hw6 ▸ HX5.out.below (ball (Below.refl _ _)))
        clear hw6 B5 ha HX5
        generalize w5.heap.size = X at *
        go_wp2_with fail
        refine (rows10R_x x p q w6 HX6.out hxq (by omega)).mono ?_
        intro e w7 h7
        obtain ⟨⟨pb, cb, rfl, hb', _⟩, hb7⟩ := h7.out HO.out
        have B7 := below_next B6 hb7
        have X7 := X6.next hb7
        have T7 := Lib.hid (T6.out.below hb7)
        clear h7 HX6 hb7 B6 X6 T6
        have HFIT : Hid ((printD L).length ≤ 30000 ∧ ∀ r ∈ L, r.2.1.length ≤ 1000000) := Lib.hid (by
          cases hx : rowsV x with
          | ok M =>
            have h9 := HO.out
            rw [hx] at h9
            cases h9
            obtain ⟨f1, f2⟩ := rows_fit hx
            exact ⟨by omega, fun r hr => by have := f2 r hr; omega⟩
          | bad k a =>
            have h9 := HO.out
            rw [hx] at h9
            cases h9
            exact ⟨by simp [printD], by simp⟩)
        clear HO
        go_upto_region 8 with fail
        generalize hw8 : w7.alloc _ = w8
        have B8 : Below w4.heap.size w4 w8 := hw8 ▸ B7.alloc B7.size _
        have X8 : ErrC w8 X K A := hw8 ▸ X7.next (ball (Below.refl _ _))
        have Y8 : ErrC w8 w7.heap.size K A := by subst hw8; exact ⟨by simp [go_sem], by simp [go_sem], by simp [go_sem]⟩
        have T8 : Hid (RecW w8 pa L) := Lib.hid (hw8 ▸ T7.out.below (ball (Below.refl _ _)))
        have U8 : Hid (RecW w8 pb L) := Lib.hid (hw8 ▸ hb'.below (ball (Below.refl _ _)))
        clear hw8 B7 X7 T7 hb'
        generalize w7.heap.size = Y at *
        have HX8 : Hid (∀ V, Below w8.heap.size w8 V → ErrC V X K A) := Lib.hid (fun V hV => X8.next hV)
        have HY8 : Hid (∀ V, Below w8.heap.size w8 V → ErrC V Y K A) := Lib.hid (fun V hV => Y8.next hV)
        have HSM : Hid (∀ V, Below w8.heap.size w8 V → Calls Tryd.prog 11 #[.slice pa L.length ca, .slice pb L.length cb] V fun e w' => e = .returned (.bool true) ∧ Below V.heap.size V w') := Lib.hid (fun V hV => same10_x L pa pb ca cb V (T8.out.below hV) (U8.out.below hV) hla HFIT.out.2)
        have HPA0 : Hid (∀ V, Below w8.heap.size w8 V → Calls Tryd.prog 12 #[.slice pa L.length ca] V fun e w' => (∃ pp qq, e = .returned (.slice pp (printD L).length qq) ∧ BytesAt w' pp (printD L)) ∧ Below V.heap.size V w') := Lib.hid (fun V hV => (print10_x L pa ca V (T8.out.below hV) (by have := HFIT.out.1; omega)).mono fun e w' ⟨hbb, pp, qq, he, ho⟩ => ⟨⟨pp, qq, he, bytes_own ho⟩, hbb⟩)
        have HPB0 : Hid (∀ V, Below w8.heap.size w8 V → Calls Tryd.prog 13 #[.slice pb L.length cb] V fun e w' => (∃ pp qq, e = .returned (.slice pp (printD L).length qq) ∧ BytesAt w' pp (printD L)) ∧ Below V.heap.size V w') := Lib.hid (fun V hV => (printR10_x L pb cb V (U8.out.below hV) (by have := HFIT.out.1; omega)).mono fun e w' ⟨hbb, pp, qq, he, ho⟩ => ⟨⟨pp, qq, he, bytes_own ho⟩, hbb⟩)
        clear X8 Y8 T8 U8 HFIT
        obtain ⟨P, hP⟩ : ∃ P, printD L = P := ⟨_, rfl⟩
        rw [hP] at HPA0 HPB0
        have HPA := HPA0
        have HPB := HPB0
        obtain ⟨SP, hSP⟩ : ∃ SP, baS P = SP := ⟨_, rfl⟩
        have HSP := Lib.hid hSP
        clear hP hSP HPA0 HPB0
        refine region_go2 38 56 [38, 39, 40, 41, 42, 43, 44, 45, 46, 47, 48, 49, 50, 51, 52, 53, 54, 55]
          [.eqv (.agg #[.int .i64 (K : Int), .int .i64 (A : Int)]), .eqv (.agg #[.int .i64 (K : Int), .int .i64 (A : Int)]), .eqv (.bool false), .eqv (.bool false), .eqv (.slice pa L.length ca), .eqv (.slice pb L.length cb), .eqv (.bool true), .eqv (.bool false), .eqv (.bool false), .eqv (.bool false), .eqv (.slice pa L.length ca), ⟨fun v w => ∃ pp qq, v = .slice pp P.length qq ∧ BytesAt w pp P, fun _ _ _ ⟨pp, qq, h1, h2⟩ hb => ⟨pp, qq, h1, h2.below hb⟩⟩, .eqv (.string SP), .eqv (.slice pb L.length cb), ⟨fun v w => ∃ pp qq, v = .slice pp P.length qq ∧ BytesAt w pp P, fun _ _ _ ⟨pp, qq, h1, h2⟩ hb => ⟨pp, qq, h1, h2.below hb⟩⟩, .eqv (.string SP), .eqv (.bool false), .eqv (.bool false)]
          (by kernel_rfl) (by kernel_rfl) rfl (by decide) (of_decide_eq_true (by kernel_rfl)) (by decide) ?_ ?_
        · refine ⟨?_, ?_, ?_, ?_, ?_, ?_, ?_, ?_, ?_, ?_, ?_, ?_, ?_, ?_, ?_, ?_, ?_, ?_, True.intro⟩
          · refine stepG_val rfl fun a w hF hB hD => ⟨rg_free rfl _, ?_⟩
            have h8 : a.eval (.tmp 8) = .pointer (some ⟨X, 0, none⟩) := (hF 8 (by decide)).trans rfl
            have c0 := (HX8.out w hB).c0
            have c1 := (HX8.out w hB).c1
            unfold execOp
            simp only [h8]
            simp [go_sem, c0, c1]
          · refine stepG_val rfl fun a w hF hB hD => ⟨rg_free rfl _, ?_⟩
            have h10 : a.eval (.tmp 10) = .pointer (some ⟨Y, 0, none⟩) := (hF 10 (by decide)).trans rfl
            have c0 := (HY8.out w hB).c0
            have c1 := (HY8.out w hB).c1
            unfold execOp
            simp only [h10]
            simp [go_sem, c0, c1]
          · refine stepG_val rfl fun a w hF hB hD => ⟨rg_free rfl _, ?_⟩
            have h38 : a.eval (.tmp 38) = .agg #[.int .i64 (K : Int), .int .i64 (A : Int)] := hD 0 rfl
            have h39 : a.eval (.tmp 39) = .agg #[.int .i64 (K : Int), .int .i64 (A : Int)] := hD 1 rfl
            unfold execOp
            simp only [h38, h39]
            simp [go_sem]
          · refine stepG_val rfl fun a w hF hB hD => ⟨rg_free rfl _, ?_⟩
            have h40 : a.eval (.tmp 40) = .bool false := hD 2 rfl
            unfold execOp
            simp only [h40]
            simp [go_sem]
          · refine stepG_val rfl fun a w hF hB hD => ⟨rg_on (d := 41) rfl rfl (hD 3 rfl), ?_⟩
            have h7 : a.eval (.tmp 7) = .slice pa L.length ca := (hF 7 (by decide)).trans rfl
            unfold execOp
            simp only [h7]
            simp [go_sem]
          · refine stepG_val rfl fun a w hF hB hD => ⟨rg_on (d := 41) rfl rfl (hD 3 rfl), ?_⟩
            have h9 : a.eval (.tmp 9) = .slice pb L.length cb := (hF 9 (by decide)).trans rfl
            unfold execOp
            simp only [h9]
            simp [go_sem]
          · refine stepG_call fun a w hF hB hD => ⟨rg_on (d := 41) rfl rfl (hD 3 rfl), 11, ?_⟩
            have h42 : a.eval (.tmp 42) = .slice pa L.length ca := hD 4 rfl
            have h43 : a.eval (.tmp 43) = .slice pb L.length cb := hD 5 rfl
            refine ⟨#[.slice pa L.length ca, .slice pb L.length cb], ?_, ?_⟩
            · unfold execOp
              simp [go_sem, rg_tmp h42, rg_tmp h43]
            · exact (HSM.out w hB).mono fun e w' ⟨h, k⟩ => ⟨_, h, rfl, k⟩
          · refine stepG_val rfl fun a w hF hB hD => ⟨rg_on (d := 41) rfl rfl (hD 3 rfl), ?_⟩
            have h44 : a.eval (.tmp 44) = .bool true := hD 6 rfl
            unfold execOp
            simp only [h44]
            simp [go_sem]
          · refine stepG_val rfl fun a w hF hB hD => ⟨rg_free rfl _, ?_⟩
            have h41 : a.eval (.tmp 41) = .bool false := hD 3 rfl
            have h45 : a.eval (.tmp 45) = .bool false := hD 7 rfl
            unfold execOp
            simp only [h41, h45]
            simp [go_sem]
          · refine stepG_val rfl fun a w hF hB hD => ⟨rg_free rfl _, ?_⟩
            have h46 : a.eval (.tmp 46) = .bool false := hD 8 rfl
            unfold execOp
            simp only [h46]
            simp [go_sem]
          · refine stepG_val rfl fun a w hF hB hD => ⟨rg_on (d := 47) rfl rfl (hD 9 rfl), ?_⟩
            have h7 : a.eval (.tmp 7) = .slice pa L.length ca := (hF 7 (by decide)).trans rfl
            unfold execOp
            simp only [h7]
            simp [go_sem]
          · refine stepG_call fun a w hF hB hD => ⟨rg_on (d := 47) rfl rfl (hD 9 rfl), 12, ?_⟩
            have h48 : a.eval (.tmp 48) = .slice pa L.length ca := hD 10 rfl
            refine ⟨#[.slice pa L.length ca], ?_, ?_⟩
            · unfold execOp
              simp [go_sem, rg_tmp h48]
            · exact (HPA.out w hB).mono fun e w' ⟨⟨pp, qq, h, k1⟩, k⟩ => ⟨_, h, ⟨pp, qq, rfl, k1⟩, k⟩
          · refine stepG_val rfl fun a w hF hB hD => ⟨rg_on (d := 47) rfl rfl (hD 9 rfl), ?_⟩
            obtain ⟨pp, qq, h49, k49⟩ : ∃ pp qq, a.eval (.tmp 49) = .slice pp P.length qq ∧ BytesAt w pp P := hD 11 rfl
            unfold execOp
            simp only [h49]
            have := run_v (conv_bytes qq k49)
            rwa [HSP.out] at this
          · refine stepG_val rfl fun a w hF hB hD => ⟨rg_on (d := 47) rfl rfl (hD 9 rfl), ?_⟩
            have h9 : a.eval (.tmp 9) = .slice pb L.length cb := (hF 9 (by decide)).trans rfl
            unfold execOp
            simp only [h9]
            simp [go_sem]
          · refine stepG_call fun a w hF hB hD => ⟨rg_on (d := 47) rfl rfl (hD 9 rfl), 13, ?_⟩
            have h51 : a.eval (.tmp 51) = .slice pb L.length cb := hD 13 rfl
            refine ⟨#[.slice pb L.length cb], ?_, ?_⟩
            · unfold execOp
              simp [go_sem, rg_tmp h51]
            · exact (HPB.out w hB).mono fun e w' ⟨⟨pp, qq, h, k1⟩, k⟩ => ⟨_, h, ⟨pp, qq, rfl, k1⟩, k⟩
          · refine stepG_val rfl fun a w hF hB hD => ⟨rg_on (d := 47) rfl rfl (hD 9 rfl), ?_⟩
            obtain ⟨pp, qq, h52, k52⟩ : ∃ pp qq, a.eval (.tmp 52) = .slice pp P.length qq ∧ BytesAt w pp P := hD 14 rfl
            unfold execOp
            simp only [h52]
            have := run_v (conv_bytes qq k52)
            rwa [HSP.out] at this
          · refine stepG_val rfl fun a w hF hB hD => ⟨rg_on (d := 47) rfl rfl (hD 9 rfl), ?_⟩
            have h50 : a.eval (.tmp 50) = .string SP := hD 12 rfl
            have h53 : a.eval (.tmp 53) = .string SP := hD 15 rfl
            unfold execOp
            simp only [h50, h53]
            simp [go_sem]
          · refine stepG_val rfl fun a w hF hB hD => ⟨rg_free rfl _, ?_⟩
            have h47 : a.eval (.tmp 47) = .bool false := hD 9 rfl
            have h54 : a.eval (.tmp 54) = .bool false := hD 16 rfl
            unfold execOp
            simp only [h47, h54]
            simp [go_sem]
        · intro u9 w9 hsp hb9
          have h55 : u9 55 = .bool false := hsp 17 (by decide)
          have B9 := below_next B8 hb9
          clear hsp
          simp only [updG, Nat.reduceAdd, Nat.reduceLeDiff, Nat.reduceLT, and_true, and_false, ↓reduceIte, h55]
          go_wp2_with fail
          exact ⟨⟨j + 1, by simp, by omega, B9⟩, by simp [intN]; omega⟩
      · have hj9 : ¬ ((j : Int) < 3) := by omega
        have BW : Below w.heap.size w wr := below_next B4 hb
        clear HRW HR HI HZ HC B3 B4 hb B34
        go_wp2_with fail
        refine (awake10_x wr).mono ?_
        rintro e w5 ⟨rfl, hb5⟩
        go_wp2
        go_ret
        exact ⟨rfl, below_next BW hb5⟩
end Go.Proofs.YtfmanmidihofgaaDoor
