/- CsvrBack: whatever fields, however they are parted, the law answers true. -/
import Derived.Test.YtcfminkmidaaoaaDoorVz
import Derived.Test.YtcfminkmidaaoaaDoorLb10
import Derived.Deep.QuietTactic
import Derived.Deep.CutBlock
namespace Go.Proofs.YtcfminkmidaaoaaDoor
open Go.ChangeShapes Go.WideShapes Go.RowKit Go.Sort
theorem tot_mem : ∀ (R : List (List Bs)) (row : List Bs), row ∈ R → row.length ≤ totS R
  | [], _, h => by simp at h
  | a :: q, row, h => by
    have e : totS (a :: q) = a.length + totS q := by simp [totS]
    rcases List.mem_cons.1 h with rfl | h
    · omega
    · have := tot_mem q row h; omega
set_option maxHeartbeats 32000000 in
set_option maxRecDepth 100000 in
theorem cback_walk (fa : Option Addr) (F : List Bs) (fc : Nat) (z : Int) (w : World) (hg : Gl w) (hF : BytessAt w fa F) :
    Calls Tryd.prog 7 #[.slice fa F.length fc, .int .i64 z] w fun e w' => e = .returned (.bool true) ∧ Below w.heap.size w w' := by
  have HG := Lib.hid hg
  have HF := Lib.hid hF
  clear hg hF
  have kc := fun (w : World) (C : Array Value) (n c : Nat) => Lib.run_convert_bytes_const (P := Tryd.prog) w 29 5 C n c Tryd.underlying29 Tryd.underlying5
  go_enter Tryd.func7, Tryd.ntmps7
  go_wp2_with fail
  go_loopw [5, 6, 7] (fun rv sv iv wr => ∃ (R : List (List Bs)) (vs : List Value) (row : List Bs) (i : Nat) (p : Option Addr) (q : Nat) (p2 : Option Addr) (q2 : Nat) (wo : World), rv = .slice p R.length q ∧ sv = .slice p2 row.length q2 ∧ iv = .int .i64 (i : Int) ∧ i ≤ 30 ∧ i ≤ F.length ∧ R.length ≤ i ∧ totS R + row.length ≤ i ∧ Hid (∀ r ∈ R, r ≠ [] ∧ ∀ s ∈ r, s.length ≤ 255 ∧ ∀ c ∈ s, qokB c = true) ∧ Hid (∀ s ∈ row, s.length ≤ 255 ∧ ∀ c ∈ s, qokB c = true) ∧ OutP strP wo 43 w.heap.size p q R vs ∧ Below w.heap.size w wo ∧ wr.ownsRow wo.heap.size 9 1 (.slice p2 row.length q2) row.length (cellsS row) ∧ Below wo.heap.size wo wr) (fun _ _ iv _ => F.length + 2 - intN iv)
  case atStart => exact ⟨[], [], [], 0, none, 0, none, 0, w, rfl, rfl, rfl, by omega, by omega, by simp, by simp [totS], Lib.hid (by simp), Lib.hid (by simp), OutP.nil _ _ _ _, Below.refl _ _, World.ownsRow_nil _ _ _ _, Below.refl _ _⟩
  case round =>
    obtain ⟨R, vs, row, i, p, q, p2, q2, wo, rfl, rfl, rfl, hi30, hiF, hRi, htot, hR, hrow, hout, hbo, hown, hb⟩ := hrel
    have hzo := hbo.size
    have hzs := hb.size
    have hbw : Below w.heap.size w wr := below_next hbo hb
    by_cases hgo : i < F.length ∧ i < 30
    · obtain ⟨hlt, hlt30⟩ := hgo
      obtain ⟨ad, lp, lc, hfa, hadb, hcell0, hcap, hby⟩ := HF.out i _ (List.getElem?_eq_getElem hlt)
      generalize F[i]'hlt = l at *
      subst hfa
      have hcell := (hbw.cell (p := ad.add i) (by rw [add_block]; exact hadb)).trans hcell0
      by_cases hbig : 255 < l.length
      · clear hcell0 hby hcap
        go_wp2_with fail
        refine (awake9_x _ (HG.out.below hbw)).mono ?_
        rintro e w2 ⟨rfl, hb2⟩
        go_wp2
        go_ret
        exact ⟨rfl, below_next hbw hb2⟩
      · have hb255 : ¬ ((255 : Int) < (l.length : Int)) := by omega
        have HB := Lib.hid hby
        clear hcell0 hby
        go_wp2_with fail
        go_loopw [8, 37] (fun sv kv wx => ∃ k : Nat, kv = .int .i64 (k : Int) ∧ k ≤ l.length ∧ sv = .string (baS ((l.take k).map alphaB)) ∧ Below wr.heap.size wr wx) (fun _ kv _ => l.length + 1 - intN kv)
        case atStart => exact ⟨0, rfl, Nat.zero_le _, by simp [baS], Below.refl _ _⟩
        case round =>
          clear hcell
          obtain ⟨k, rfl, hk, rfl, hbx⟩ := hrel
          have hzx := hbx.size
          by_cases hkl : k < l.length
          · obtain ⟨ad2, hlp⟩ : ∃ ad2, lp = some ad2 := by
              obtain ⟨ad2, e, _⟩ := HB.out k _ (List.getElem?_eq_getElem hkl)
              exact ⟨ad2, e⟩
            subst hlp
            have hcb := bytesAt_cell ((HB.out.below hbw).below hbx) k hkl
            have HT := Lib.hid (alpha_take (List.getElem?_eq_getElem hkl))
            generalize l[k]'hkl = cb at *
            obtain ⟨m, hm10, hma, hmb⟩ : ∃ m : Nat, m < 10 ∧ (bits BinOp.and IntKind.u8 (cb.toNat : Int) 255).tmod 10 = (m : Int) ∧ alphas[m]? = some (alphaB cb) := ⟨cb.toNat % 10, by omega, by rw [u8_and255, u8_mod10], by
              have h10 : cb.toNat % 10 < alphas.length := by show cb.toNat % 10 < 10; omega
              unfold alphaB
              rw [List.getD_eq_getElem?_getD, List.getElem?_eq_getElem h10]; rfl⟩
            have hadd := fun V => addS ((l.take k).map alphaB) [alphaB cb] (by simp; omega) (by simp) V
            have hld : (wr.alloc (.cells #[.int .u8 10, .int .u8 13, .int .u8 34, .int .u8 44, .int .u8 97, .int .u8 98, .int .u8 32, .int .u8 48, .int .u8 49, .int .u8 57] 5 (10, 11))).cell? ⟨wr.heap.size, m, none⟩ = some (.int .u8 ((alphaB cb).toNat : Int)) := by
              obtain ⟨ad3, e3, _, hc3⟩ := bytes_new wr alphas 5 (10, 11) m _ hmb
              cases e3
              rw [addr_at] at hc3
              exact hc3
            have HN : Hid (baS ((l.take (k + 1)).map alphaB) = baS ((l.take k).map alphaB ++ [alphaB cb])) := Lib.hid (by rw [HT.out])
            have hbe : ∀ V : World, (convert 29 9 (.slice (some ⟨V.heap.size, 0, none⟩) 1 1)).run Tryd.prog (V.alloc (.cells #[.int .u8 ((alphaB cb).toNat : Int)] 5)) = .ok (.string (baS [alphaB cb])) (V.alloc (.cells #[.int .u8 ((alphaB cb).toNat : Int)] 5)) := fun V => by
              have := byteE V (alphaB cb).toNat (alphaB cb).toNat_lt
              rwa [show UInt8.ofNat (alphaB cb).toNat = alphaB cb by simp] at this
            have hbe1 := hbe (wr.alloc (.cells #[.int .u8 10, .int .u8 13, .int .u8 34, .int .u8 44, .int .u8 97, .int .u8 98, .int .u8 32, .int .u8 48, .int .u8 49, .int .u8 57] 5 (10, 11)))
            have hsz1 : (wr.alloc (.cells #[.int .u8 10, .int .u8 13, .int .u8 34, .int .u8 44, .int .u8 97, .int .u8 98, .int .u8 32, .int .u8 48, .int .u8 49, .int .u8 57] 5 (10, 11))).heap.size = wr.heap.size + 1 := by simp
            rw [hsz1] at hbe1
            clear HT hmb hbe hsz1
            generalize baS ((l.take k).map alphaB ++ [alphaB cb]) = S2 at *
            generalize baS ((l.take k).map alphaB) = S1 at *
            generalize baS [alphaB cb] = S0 at *
            generalize (alphaB cb).toNat = u at *
            generalize cb.toNat = cu at *
            go_wp2_with fail
            exact ⟨⟨k + 1, by simp, by omega, by rw [HN.out], ball (ball hbx)⟩, by simp [intN]; omega⟩
          · have hkn : ¬ ((k : Int) < (l.length : Int)) := by omega
            have hfull : l.take k = l := List.take_of_length_le (by omega)
            rw [hfull]
            clear hfull
            have hsl : (l.map alphaB).length ≤ 255 := by simp; omega
            have hsq : ∀ c ∈ l.map alphaB, qokB c = true := fun c hc => by
              obtain ⟨d, _, rfl⟩ := List.mem_map.1 hc
              exact alpha_ok d
            have hown2 := own_next hown hbx
            have hb2 := below_next hb hbx
            have HSS := Lib.hid hsl
            have HSQ := Lib.hid hsq
            clear hsl hsq hown
            generalize l.map alphaB = s at *
            have hz2 := hb2.size
            generalize hS : baS s = S at *
            have HS := Lib.hid hS
            clear hS
            go_wp2_with (at_builtin; refine appU _ (by rfl) _ _ (by rfl) wo.heap.size p2 q2 row (by rfl) (hown2.alloc _) wr.heap.size 1 s (by rfl) (by rw [HS.out]; simp [go_sem]) (by omega) (by simp; omega) ?_)
            intro g3 cap w6 hA
            obtain ⟨hown6, hbel⟩ := hA
            have hb6 := hbel wo.heap.size wo (Nat.le_refl _) (hb2.alloc hz2 _)
            clear hbel hown2 hb2 hz2
            have hlen : (row ++ [s]).length = row.length + 1 := by simp
            have HLEN := Lib.hid hlen
            have hrow1 : Hid (∀ x ∈ row ++ [s], x.length ≤ 255 ∧ ∀ c ∈ x, qokB c = true) := Lib.hid (fun x hx => by
              rcases List.mem_append.1 hx with h | h
              · exact hrow.out x h
              · rw [List.mem_singleton] at h; subst h; exact ⟨HSS.out, HSQ.out⟩)
            have hne : row ++ [s] ≠ [] := by simp
            have HNE := Lib.hid hne
            clear hlen hne hrow
            generalize row ++ [s] = row1 at *
            have hr1 : (Value.slice (some ⟨g3, 0, none⟩) (row.length + 1) cap) = .slice (some ⟨g3, 0, none⟩) row1.length cap := by rw [HLEN.out]
            rw [hr1]
            clear hr1
            have hout6 := hout.below hb6
            have hz6 := hb6.size
            have hlies : strP.lies w6 (some ⟨g3, 0, none⟩) row1 := strK_own hown6
            have hsep : ∀ g, (some ⟨g3, 0, none⟩ : Option Addr) = some ⟨g, 0, none⟩ → g < w6.heap.size ∧ (Value.slice p R.length q).ownBlock ≠ some g := fun g hg => by
              have h1 := hown6.lt g (by rw [hg]; rfl)
              refine ⟨h1.2, fun he => ?_⟩
              have := (hout.own.lt g he).2
              omega
            have hbo6 := below_next hbo hb6
            have hz7 := hbo6.size
            go_wp2_with (at_builtin; refine appR strP _ (by rfl) _ _ 42 43 (by rfl) Tryd.underlying42 infoSR w.heap.size p q R vs (by rfl) (hout6.below (ball (Below.refl _ _))) w6.heap.size 1 (some ⟨g3, 0, none⟩) cap row1 (by rfl) (by simp [go_sem]) (strP.below hlies (ball (Below.refl _ _))) (fun g hg => ⟨by have := (hsep g hg).1; simp; omega, (hsep g hg).2⟩) (by omega) (by simp; omega) ?_)
            · intro g4 cap4 w7 hA
              obtain ⟨hout7, _, hbel⟩ := hA
              have hb7 := hbel w.heap.size w (Nat.le_refl _) (hbo6.alloc hz7 _)
              clear hbel
              have htot2 : totS (R ++ [row1]) ≤ i + 1 := by rw [totS_snoc, HLEN.out]; omega
              have hR2 : Hid (∀ r ∈ R ++ [row1], r ≠ [] ∧ ∀ s ∈ r, s.length ≤ 255 ∧ ∀ c ∈ s, qokB c = true) := Lib.hid (fun r hr => by
                rcases List.mem_append.1 hr with h | h
                · exact hR.out r h
                · rw [List.mem_singleton] at h; subst h; exact ⟨HNE.out, hrow1.out⟩)
              go_wp2
              exact ⟨⟨R ++ [row1], _, [], i + 1, some ⟨g4, 0, none⟩, cap4, none, 0, w7, by simp, rfl, by simp, by omega, by omega, by simp; omega, by simpa using htot2, hR2, Lib.hid (by simp), hout7, hb7, World.ownsRow_nil _ _ _ _, Below.refl _ _⟩, by simp [intN]; omega⟩
            · exact ⟨⟨R, vs, row1, i + 1, p, q, some ⟨g3, 0, none⟩, cap, wo, rfl, rfl, by simp, by omega, by omega, by omega, by rw [HLEN.out]; omega, hR, hrow1, hout, hbo, hown6, hb6⟩, by simp [intN]; omega⟩
    · clear HF
      go_upto_region 4 with fail
      go_cut [22] (fun bv wx => bv = .bool false ∧ wx = wr)
      case first =>
        by_cases hx : i < F.length
        · have h30 : ¬ ((i : Int) < 30) := by omega
          go_wp2_with fail
          go_meet
          exact ⟨rfl, rfl⟩
        · have hx2 : ¬ ((i : Int) < (F.length : Int)) := by omega
          go_wp2_with fail
          go_meet
          exact ⟨rfl, rfl⟩
      case rest =>
        obtain ⟨rfl, hwc⟩ := hcut
        subst hwc
        clear hgo
        have hout6 := hout.below hb
        have hlies : strP.lies wc p2 row := strK_own hown
        have hsep : ∀ g, p2 = some ⟨g, 0, none⟩ → g < wc.heap.size ∧ (Value.slice p R.length q).ownBlock ≠ some g := fun g hg => by
          have h1 := hown.lt g (by rw [hg]; rfl)
          refine ⟨h1.2, fun he => ?_⟩
          have := (hout.own.lt g he).2
          omega
        have hz7 := hbw.size
        go_upto_if 69 with fail
        go_cut [5] (fun rv wx => ∃ (R2 : List (List Bs)) (p7 : Option Addr) (q7 : Nat), rv = .slice p7 R2.length q7 ∧ R2.length ≤ 31 ∧ totS R2 ≤ 31 ∧ Hid (∀ r ∈ R2, r ≠ [] ∧ ∀ s ∈ r, s.length ≤ 255 ∧ ∀ c ∈ s, qokB c = true) ∧ Hid (RecP strP wx p7 R2) ∧ Below w.heap.size w wx)
        case first =>
          by_cases hr0 : 0 < row.length
          · have hne : row ≠ [] := fun e => by rw [e] at hr0; simp at hr0
            go_wp2_with (at_builtin; refine appR strP _ (by rfl) _ _ 42 43 (by rfl) Tryd.underlying42 infoSR w.heap.size p q R vs (by rfl) (hout6.below (ball (Below.refl _ _))) wc.heap.size 1 p2 q2 row (by rfl) (by simp [go_sem]) (strP.below hlies (ball (Below.refl _ _))) (fun g hg => ⟨by have := (hsep g hg).1; simp; omega, (hsep g hg).2⟩) (by omega) (by simp; omega) ?_)
            intro g4 cap4 w7 hA
            obtain ⟨hout7, _, hbel⟩ := hA
            have hb7 := hbel w.heap.size w (Nat.le_refl _) (hbw.alloc hz7 _)
            clear hbel
            have htot2 : totS (R ++ [row]) ≤ 31 := by rw [totS_snoc]; omega
            have hR2 : Hid (∀ r ∈ R ++ [row], r ≠ [] ∧ ∀ s ∈ r, s.length ≤ 255 ∧ ∀ c ∈ s, qokB c = true) := Lib.hid (fun r hr => by
              rcases List.mem_append.1 hr with h | h
              · exact hR.out r h
              · rw [List.mem_singleton] at h; subst h; exact ⟨hne, hrow.out⟩)
            go_wp2_with fail
            go_meet
            exact ⟨R ++ [row], some ⟨g4, 0, none⟩, cap4, by simp, by simp; omega, htot2, hR2, Lib.hid hout7.read, hb7⟩
          · have hr00 : ¬ ((0 : Int) < (row.length : Int)) := by omega
            go_wp2_with fail
            go_meet
            exact ⟨R, p, q, rfl, by omega, by omega, hR, Lib.hid hout6.read, hbw⟩
        case rest =>
          obtain ⟨R2, p7, q7, rfl, hR31, htot31, hRR, HRP, hbx⟩ := hcut
          clear hout6 hlies hsep hz7 hout hbo hown hb hR hrow hbw hRi htot hzo hzs
          have hbd := print_bound (m := 255) R2 (fun row hr s hs => ((hRR.out row hr).2 s hs).1)
          have hpl : (printV R2).length ≤ 20000 := by omega
          have HPR := Lib.hid (print_x R2 p7 q7 wc (HG.out.below hbx) HRP.out (fun row hr s hs => by have := ((hRR.out row hr).2 s hs).1; omega) (by omega))
          obtain ⟨L, hrec, hLl, hLr⟩ := print_back R2 hRR.out
          have HREC := Lib.hid hrec
          have HLR := Lib.hid hLr
          have HLl := Lib.hid hLl
          clear hbd hrec hLr hLl
          generalize printV R2 = P2 at *
          go_wp2_with fail
          refine HPR.out.mono ?_
          rintro e w2 ⟨hb2, p8, q8, rfl, ho8⟩
          have HB8 := Lib.hid (bytes_own ho8)
          have hcap8 := own_cap ho8
          have B2 := below_next hbx hb2
          have R22 := HRP.out.below hb2
          clear HPR ho8 hb2 hbx
          go_wp2_with fail
          refine (parse_x P2 p8 q8 w2 HB8.out hcap8 (by omega)).mono ?_
          rintro e w3 h3
          obtain ⟨⟨p9, q9, rfl, hr9⟩, hb3⟩ := h3.yes HREC.out
          have B3 := below_next B2 hb3
          have R3 := R22.below hb3
          clear h3 HB8 hb3 R22 B2
          go_upto_region 20 with fail
          generalize hw4 : w3.alloc _ = w4
          have B4 : Below w.heap.size w w4 := hw4 ▸ ball B3
          have x0 : w4.cell? ⟨w3.heap.size, 0, none⟩ = some (.int .i64 0) := by subst hw4; simp [go_sem]
          have RL : Hid (RecP tokP w4 p9 L) := Lib.hid (hw4 ▸ hr9.below (ball (Below.refl _ _)))
          have RS : Hid (RecP strP w4 p7 R2) := Lib.hid (hw4 ▸ R3.below (ball (Below.refl _ _)))
          clear hw4 B3 R3 hr9
          generalize w3.heap.size = N at *
          rw [HLl.out]
          have hll : (((R2.length : Nat) : Int) != ((R2.length : Nat) : Int)) = false := by simp
          go_wp2_with fail
          go_loopw [92] (fun iv wx => ∃ i : Nat, iv = .int .i64 (i : Int) ∧ i ≤ R2.length ∧ Below w4.heap.size w4 wx) (fun iv _ => R2.length + 1 - intN iv)
          case atStart => exact ⟨0, rfl, Nat.zero_le _, Below.refl _ _⟩
          case round =>
            clear x0
            obtain ⟨i, rfl, hi, hbx⟩ := hrel
            by_cases hir : i < R2.length
            · have hri := List.getElem?_eq_getElem hir
              generalize R2[i]'hir = row at *
              obtain ⟨o, ho, hol, hof⟩ := HLR.out i row hri
              obtain ⟨g, qo, co, hp9, hg4, hc1, hl1⟩ := RL.out i o ho
              subst hp9
              obtain ⟨h, qs, cs, hp7, hh4, hc2, hl2⟩ := RS.out i row hri
              subst hp7
              rw [hol] at hc1
              have HOF := Lib.hid hof
              have HL1 := Lib.hid hl1
              have HL2 := Lib.hid hl2
              have d1 := (olds hbx g i hg4).trans hc1
              have d2 := (olds hbx h i hh4).trans hc2
              have hrl31 : row.length ≤ 31 := by have := tot_mem R2 row (List.mem_of_getElem? hri); omega
              have hrr : (((row.length : Nat) : Int) != ((row.length : Nat) : Int)) = false := by simp
              clear hri ho hol hof hl1 hl2
              go_wp2_with fail
              go_quiet (fail)
              go_wp2_with fail
              go_loopw [111] (fun jv wy => ∃ j : Nat, jv = .int .i64 (j : Int) ∧ j ≤ row.length ∧ Below w4.heap.size w4 wy) (fun jv _ => row.length + 1 - intN jv)
              case atStart => exact ⟨0, rfl, Nat.zero_le _, bdrew hbx _⟩
              case round =>
                clear d1 d2 hbx
                obtain ⟨j, rfl, hj, hby⟩ := hrel
                by_cases hjr : j < row.length
                · have hsj := List.getElem?_eq_getElem hjr
                  generalize row[j]'hjr = s at *
                  obtain ⟨a, hoa⟩ := HOF.out j s hsj
                  obtain ⟨g2, hqo, hg2, k0, k1, _⟩ := HL1.out j _ hoa
                  subst hqo
                  obtain ⟨h2, hqs, hh2, k2⟩ := HL2.out j s hsj
                  subst hqs
                  have e1 := (olds hby g i hg4).trans hc1
                  have e2 := (olds hby h i hh4).trans hc2
                  have e3 : wr.cell? ⟨g2, j * 3, none⟩ = some (.int .i64 5) := (olds hby g2 _ hg2).trans k0
                  have e4 : wr.cell? ⟨g2, j * 3 + 1, none⟩ = some (.string (baS s)) := (olds hby g2 _ hg2).trans k1
                  have e5 := (olds hby h2 _ hh2).trans k2
                  clear hoa hsj k0 k1 k2
                  generalize baS s = S at *
                  go_wp2_with fail
                  go_quiet (fail)
                  go_wp2_with fail
                  exact ⟨⟨j + 1, by simp, by omega, bdrew hby _⟩, by simp [intN]; omega⟩
                · have hjn : ¬ ((j : Int) < (row.length : Int)) := by omega
                  go_wp2_with fail
                  exact ⟨⟨i + 1, by simp, by omega, hby⟩, by simp [intN]; omega⟩
            · have hin : ¬ ((i : Int) < (R2.length : Int)) := by omega
              have B5 := below_next B4 hbx
              go_wp2_with fail
              refine (awake9_x _ (HG.out.below B5)).mono ?_
              rintro e w9 ⟨rfl, hb9⟩
              go_wp2
              go_ret
              exact ⟨rfl, below_next B5 hb9⟩
end Go.Proofs.YtcfminkmidaaoaaDoor
