/- The second writing's Records. -/
import Derived.Test.YtcfminkmidaaoaaDoorVh
import Derived.Test.YtcfminkmidaaoaaDoorVf
namespace Go.Proofs.YtcfminkmidaaoaaDoor
open Go.ChangeShapes Go.WideShapes Go.RowKit Go.Sort
theorem beg_far {l : Bs} {j : Nat} (h : l.length ≤ j) : recA (.beg []) j (l.drop j) = .ok [] := by rw [List.drop_eq_nil_of_le h]; rfl
set_option maxHeartbeats 32000000 in
set_option maxRecDepth 100000 in
theorem recordsR_x (l : Bs) (a : Option Addr) (c : Nat) (w : World) (h : BytesAt w a l) (hc : l.length ≤ c) (hl : l.length ≤ 1000000) :
    Calls Tryd.prog 11 #[.slice a l.length c] w fun e w' => RecsE w l e w' := by
  have HH := Lib.hid h
  have HR := Lib.hid (fun j V (hV : BytesAt V a l) (hj : j ≤ l.length) => fieldR_x l a c j V hV hc hl hj)
  clear h
  go_enter Tryd.func11, Tryd.ntmps11
  go_upto_region 1 with fail
  generalize hw0 : w.alloc _ = w0
  have B0 : Below w.heap.size w w0 := hw0 ▸ ball (Below.refl _ _)
  have E0 : ErrAt w0 w.heap.size := by subst hw0; exact ⟨by simp [go_sem], by simp [go_sem], fun o => by simp [go_sem], by simp [go_sem]⟩
  clear hw0
  go_wp2_with fail
  refine (longR_no a l.length c _ hl).mono ?_
  rintro e w1 ⟨rfl, hb1⟩
  have B1 := below_next B0 hb1
  have E1 := E0.next hb1
  clear hb1 B0 E0
  go_upto_region 4 with fail
  generalize hw3 : w1.alloc _ = w3
  have B3 : Below w.heap.size w w3 := hw3 ▸ ball B1
  have E3 : ErrAt w3 w.heap.size := hw3 ▸ E1.next (ball (Below.refl _ _))
  clear hw3 B1 E1
  have H3 := Lib.hid (HH.out.below B3)
  clear HH
  go_wp2_with fail
  go_loopw [6, 7, 8] (fun sv rv iv wr => ∃ (acc : List (List Tk)) (vs : List Value) (row : List Tk) (j : Nat) (p : Option Addr) (q : Nat) (p2 : Option Addr) (q2 : Nat) (wo : World), sv = .slice p acc.length q ∧ rv = .slice p2 row.length q2 ∧ iv = .int .i64 (j : Int) ∧ acc.length + row.length ≤ j ∧ acc.length ≤ l.length ∧ j ≤ l.length + 1 ∧ Hid (row ≠ [] → j ≤ l.length) ∧ Hid (recV l = (recA (.beg row) j (l.drop j)).pre acc) ∧ OutP (tokF w3.heap.size) wo 30 w3.heap.size p q acc vs ∧ Below w3.heap.size w3 wo ∧ wr.ownsRow wo.heap.size 34 3 (.slice p2 row.length q2) row.length (row.flatMap cellsK) ∧ Below wo.heap.size wo wr) (fun _ _ iv _ => l.length + 2 - intN iv)
  case atStart => exact ⟨[], [], [], 0, none, 0, none, 0, w3, rfl, rfl, rfl, Nat.le_refl _, Nat.zero_le _, Nat.zero_le _, Lib.hid (fun h => absurd rfl h), Lib.hid (by rw [RR.pre_nil]; rfl), OutP.nil _ _ _ _, Below.refl _ _, World.ownsRow_nil _ _ _ _, Below.refl _ _⟩
  case round =>
    obtain ⟨acc, vs, row, j, p, q, p2, q2, wo, rfl, rfl, rfl, haj, hal, hjl, hrne, hp, hout, hbo, hown, hb⟩ := hrel
    have hzo := hbo.size
    have hzs := hb.size
    have hbr : Below w3.heap.size w3 wr := below_next hbo hb
    have EW := E3.next hbr
    have BB : Below w.heap.size w wr := below_next B3 hbr
    by_cases hgo : j < l.length ∨ 0 < row.length
    · have hjle : j ≤ l.length := by
        rcases hgo with h | h
        · omega
        · exact hrne.out (fun e => by rw [e] at h; simp at h)
      have hal1 : acc.length + 1 ≤ l.length := by
        rcases hgo with h | h
        · omega
        · omega
      have HCR : Hid (CondR l j row) := Lib.hid (by
        rcases hgo with h | h
        · exact Or.inl h
        · exact Or.inr (fun e => by rw [e] at h; simp at h))
      have hcall := Lib.hid (HR.out j wr (H3.out.below hbr) hjle)
      clear HR hrne
      go_upto_region 7 with fail
      go_cut [27] (fun bv wx => bv = .bool true ∧ wx = wr)
      case first =>
        rcases hgo with h | h
        · go_wp2_with fail
          go_meet
          exact ⟨rfl, rfl⟩
        · by_cases hx : j < l.length
          · go_wp2_with fail
            go_meet
            exact ⟨rfl, rfl⟩
          · have hxx : ¬ ((j : Int) < (l.length : Int)) := by omega
            go_wp2_with fail
            go_meet
            exact ⟨by simp, rfl⟩
      case rest =>
        obtain ⟨rfl, hcw⟩ := hcut
        rw [hcw]
        clear hcw hgo
        go_wp2_with fail
        refine hcall.out.mono ?_
        rintro e w4 ⟨⟨v, rfl, hv⟩, hb4⟩
        have E4 := EW.next hb4
        have B4 := below_next BB hb4
        have hown4 := own_next hown hb4
        have hbo4 := below_next hb hb4
        clear hcall EW BB hown hb hb4 hzs hbr
        have hzs := hbo4.size
        rcases hv with ⟨s, k, rfl, hjk, hkl, hsl, hst, hrec⟩ | ⟨K, A, S, rfl, hK, hrec⟩
        · have HK : Hid (recV l = (recA (.aft (row ++ [(5, s, j)])) k (l.drop k)).pre acc) := Lib.hid (by rw [hp.out, hrec row HCR.out])
          have HST := Lib.hid hst
          clear hrec hp HCR hst
          go_upto_region 9 with fail
          generalize hw5 : (w4.alloc _).alloc _ = w5
          have hown5 : w5.ownsRow wo.heap.size 34 3 (.slice p2 row.length q2) row.length (row.flatMap cellsK) := hw5 ▸ (hown4.alloc _).alloc _
          have hbo5 : Below wo.heap.size wo w5 := hw5 ▸ (hbo4.alloc hzs _).alloc (by simp; omega) _
          have y0 : w5.cell? ⟨w4.heap.size, 0, none⟩ = some (.int .i64 5) := by subst hw5; simp [go_sem]
          have y1 : w5.cell? ⟨w4.heap.size, 1, none⟩ = some (.string (baS s)) := by subst hw5; simp [go_sem]
          have y2 : w5.cell? ⟨w4.heap.size, 2, none⟩ = some (.int .i64 (j : Int)) := by subst hw5; simp [go_sem]
          have x0 : w5.cell? ⟨w4.heap.size + 1, 0, none⟩ = some (.int .i64 0) := by subst hw5; simp [go_sem]
          clear hw5 B4 E4 hown4 hbo4 hzs
          have hzs := hbo5.size
          generalize w4.heap.size = X at *
          have ecell : cellsK (5, s, j) = [.int .i64 5, .string (baS s), .int .i64 (j : Int)] := rfl
          have HE := Lib.hid ecell
          clear ecell hsl
          generalize baS s = S at *
          go_wp2_with (at_builtin; refine appK _ (by rfl) _ _ (by rfl) wo.heap.size p2 q2 row (by rfl) (hown5.alloc _) w5.heap.size 1 (5, s, j) (by rfl) (by rw [HE.out]; exact three8) (by omega) (by simp; omega) ?_)
          intro g3 cap w6 hA
          obtain ⟨hown6, hbel⟩ := hA
          have hbo6 := hbel wo.heap.size wo (Nat.le_refl _) (hbo5.alloc hzs _)
          clear hbel hown5 hbo5 x0 y0 y1 y2 HE hzs
          have hlen : (row ++ [(5, s, j)]).length = row.length + 1 := by simp
          have HLEN := Lib.hid hlen
          have hne : row ++ [(5, s, j)] ≠ [] := by simp
          have HNE := Lib.hid hne
          clear hlen hne
          generalize row ++ [(5, s, j)] = row1 at *
          have hb6 := below_next hbo hbo6
          have H6 := Lib.hid (H3.out.below hb6)
          by_cases h44 : l[k]? = some 44
          · have hlt : k < l.length := (List.getElem?_eq_some_iff.1 h44).1
            have HF : Hid (recV l = (recA (.beg row1) (k + 1) (l.drop (k + 1))).pre acc) := Lib.hid (by rw [HK.out, aft_at_comma row1 h44])
            obtain ⟨ad, ha⟩ : ∃ ad, a = some ad := by
              obtain ⟨ad, e, _⟩ := H3.out k _ h44
              exact ⟨ad, e⟩
            subst ha
            have hcell : w6.cell? (ad.add k) = some (.int .u8 44) := by
              have := bytesAt_cell H6.out k hlt
              rwa [(List.getElem?_eq_some_iff.1 h44).2] at this
            clear h44 HK HST
            go_wp2_with fail
            refine ⟨⟨acc, vs, row1, k + 1, p, q, some ⟨g3, 0, none⟩, cap, wo, rfl, by rw [HLEN.out], by simp, by rw [HLEN.out]; omega, by omega, by omega, Lib.hid (fun _ => by omega), HF, hout, hbo, hown6, hbo6⟩, by simp [intN]; omega⟩
          · go_upto_region 12 with fail
            go_cut [53] (fun bv wx => bv = .bool false ∧ wx = w6)
            case first =>
              by_cases hlt : k < l.length
              · obtain ⟨ad, ha⟩ : ∃ ad, a = some ad := by
                  obtain ⟨ad, e, _⟩ := H3.out k (l[k]'hlt) (List.getElem?_eq_getElem hlt)
                  exact ⟨ad, e⟩
                subst ha
                have hcell := bytesAt_cell H6.out k hlt
                rw [List.getElem?_eq_getElem hlt] at h44
                generalize l[k]'hlt = b at *
                have hn44 : ¬ ((b.toNat : Int) = 44) := fun e => h44 (by rw [(byte_is (c := b) (k := 44) (by decide)).1 e]; rfl)
                clear h44
                generalize b.toNat = u at *
                go_wp2_with fail
                go_meet
                exact ⟨by simp [hn44], rfl⟩
              · have hke : ¬ ((k : Int) < (l.length : Int)) := by omega
                clear h44
                go_wp2_with fail
                go_meet
                exact ⟨rfl, rfl⟩
            case rest =>
              obtain ⟨rfl, hcw⟩ := hcut
              rw [hcw]
              clear hcw
              have hout6 := hout.below hbo6
              have hz6 := hb6.size
              have hlies : (tokF w3.heap.size).lies w6 (some ⟨g3, 0, none⟩) row1 := ⟨tokK_own hown6, fun _ g hg => by have := (hown6.lt g (by rw [hg]; rfl)).1; omega⟩
              have hsep : ∀ g, (some ⟨g3, 0, none⟩ : Option Addr) = some ⟨g, 0, none⟩ → g < w6.heap.size ∧ (Value.slice p acc.length q).ownBlock ≠ some g := fun g hg => by
                have h1 := hown6.lt g (by rw [hg]; rfl)
                refine ⟨h1.2, fun he => ?_⟩
                have := (hout.own.lt g he).2
                omega
              have HN : Hid (k = l.length → recV l = (recA (.beg []) (k + 1) (l.drop (k + 1))).pre (acc ++ [row1])) := Lib.hid (fun e => by
                rw [HK.out, beg_far (by omega), e, aft_at_end]; simp [RR.pre])
              clear hown6 hout
              have hr1 : (Value.slice (some ⟨g3, 0, none⟩) (row.length + 1) cap) = .slice (some ⟨g3, 0, none⟩) row1.length cap := by rw [HLEN.out]
              rw [hr1]
              clear hr1
              go_wp2_with (at_builtin; refine appR (tokF w3.heap.size) _ (by rfl) _ _ 24 30 (by rfl) Tryd.underlying24 infoR9 w3.heap.size p q acc vs (by rfl) (hout6.below (ball (Below.refl _ _))) w6.heap.size 1 (some ⟨g3, 0, none⟩) cap row1 (by rfl) (by simp [go_sem]) ((tokF w3.heap.size).below hlies (ball (Below.refl _ _))) (fun g hg => ⟨by have := (hsep g hg).1; simp; omega, (hsep g hg).2⟩) (by omega) (by simp; omega) ?_)
              intro g4 cap4 w7 hA
              obtain ⟨hout7, _, hbel⟩ := hA
              have hb7 := hbel w3.heap.size w3 (Nat.le_refl _) (hb6.alloc hz6 _)
              clear hbel hout6 hlies hsep hb6 H6 hz6 hbo6
              have H7 := Lib.hid (H3.out.below hb7)
              by_cases hlt : k < l.length
              · obtain ⟨ad, ha⟩ : ∃ ad, a = some ad := by
                  obtain ⟨ad, e, _⟩ := H3.out k (l[k]'hlt) (List.getElem?_eq_getElem hlt)
                  exact ⟨ad, e⟩
                subst ha
                have hcell := bytesAt_cell H7.out k hlt
                have HG := Lib.hid (List.getElem?_eq_getElem hlt)
                rw [HG.out] at h44
                have hst := HST.out _ HG.out
                generalize l[k]'hlt = b at *
                rcases stop_is hst with rfl | rfl | rfl
                · exact absurd rfl h44
                · have HF : Hid (recV l = (recA (.beg []) (k + 1) (l.drop (k + 1))).pre (acc ++ [row1])) := Lib.hid (by rw [HK.out, aft_at_lf row1 HG.out, RR.pre_pre])
                  clear h44 hst HG HK HST HN
                  go_wp2_with fail
                  refine ⟨⟨acc ++ [row1], _, [], k + 1, some ⟨g4, 0, none⟩, cap4, none, 0, w7, by simp, rfl, by simp, by simp; omega, by simp; omega, by omega, Lib.hid (fun h => absurd rfl h), HF, hout7, hb7, World.ownsRow_nil _ _ _ _, Below.refl _ _⟩, by simp [intN]; omega⟩
                · have hpre : IntKind.i64.wrap ((k : Int) + 1) = ((k + 1 : Nat) : Int) := by rw [IntKind.wrap_i64]; omega
                  have E7 := E3.next hb7
                  have BB7 : Below w.heap.size w w7 := below_next B3 hb7
                  have e0 := E7.c0
                  have e1 := E7.c1
                  have ef := E7.fz
                  by_cases hlt1 : k + 1 < l.length
                  · have hcell1 := bytesAt_cell H7.out (k + 1) hlt1
                    have HG1 := Lib.hid (List.getElem?_eq_getElem hlt1)
                    generalize l[k + 1]'hlt1 = d at *
                    by_cases h10 : d = 10
                    · subst h10
                      have HF : Hid (recV l = (recA (.beg []) (k + 1 + 1) (l.drop (k + 1 + 1))).pre (acc ++ [row1])) := Lib.hid (by rw [HK.out, aft_at_crlf row1 HG.out HG1.out, RR.pre_pre])
                      clear h44 hst HG HK HST HN HG1 e0 e1 ef
                      have hkk : k < k + 1 := Nat.lt_succ_self _
                      generalize k + 1 = k1 at *
                      go_wp2_with fail
                      refine ⟨⟨acc ++ [row1], _, [], k1 + 1, some ⟨g4, 0, none⟩, cap4, none, 0, w7, by simp, rfl, by simp, by simp; omega, by simp; omega, by omega, Lib.hid (fun h => absurd rfl h), HF, hout7, hb7, World.ownsRow_nil _ _ _ _, Below.refl _ _⟩, by simp [intN]; omega⟩
                    · have HF : Hid (recV l = .bad 1 (k + 1)) := Lib.hid (by rw [HK.out, aft_at_cr row1 HG.out (by rw [HG1.out]; simpa using h10)]; rfl)
                      have hd : (((d.toNat : Nat) : Int) != 10) = true := bne_of (fun e => h10 ((byte_is (c := d) (k := 10) (by decide)).1 e))
                      clear h44 hst HG HK HST HN HG1 h10
                      have hkk : k < k + 1 := Nat.lt_succ_self _
                      generalize k + 1 = k1 at *
                      generalize d.toNat = u at *
                      go_wp2_with fail
                      clear hcell hcell1 hd e0 e1 ef
                      refine (syntaxR_x _ _).mono ?_
                      rintro e w8 ⟨rfl, hb8⟩
                      have B8 := below_next BB7 hb8
                      have E8 := E7.next hb8
                      have e0 := E8.c0
                      have e1 := E8.c1
                      have ef := E8.fz
                      go_wp2_with fail
                      generalize hw9 : (World.setCell _ _ _).setCell _ _ = w9
                      obtain ⟨s0, s1, B9⟩ := err_plain E8 B8 (Nat.le_refl _) hw9
                      clear hw9 e0 e1 ef
                      exact bodyPost_ret (v := .tuple #[.slice none 0 0, .agg #[.int .i64 1, .int .i64 (k1 : Int)]]) (by simp [results, Tryd.results11, go_sem, s0, s1]) rfl (RecsE.bad HF.out B9)
                  · have HF : Hid (recV l = .bad 1 (k + 1)) := Lib.hid (by rw [HK.out, aft_at_cr row1 HG.out (by rw [List.getElem?_eq_none (by omega)]; simp)]; rfl)
                    have hge : (l.length : Int) ≤ ((k + 1 : Nat) : Int) := by omega
                    clear h44 hst HG HK HST HN
                    have hkk : k < k + 1 := Nat.lt_succ_self _
                    generalize k + 1 = k1 at *
                    go_wp2_with fail
                    clear hcell e0 e1 ef
                    refine (syntaxR_x _ _).mono ?_
                    rintro e w8 ⟨rfl, hb8⟩
                    have B8 := below_next BB7 hb8
                    have E8 := E7.next hb8
                    have e0 := E8.c0
                    have e1 := E8.c1
                    have ef := E8.fz
                    go_wp2_with fail
                    generalize hw9 : (World.setCell _ _ _).setCell _ _ = w9
                    obtain ⟨s0, s1, B9⟩ := err_plain E8 B8 (Nat.le_refl _) hw9
                    clear hw9 e0 e1 ef
                    exact bodyPost_ret (v := .tuple #[.slice none 0 0, .agg #[.int .i64 1, .int .i64 (k1 : Int)]]) (by simp [results, Tryd.results11, go_sem, s0, s1]) rfl (RecsE.bad HF.out B9)
              · have HF := Lib.hid (HN.out (by omega))
                have hke : ¬ ((k : Int) < (l.length : Int)) := by omega
                clear h44 HK HST HN
                go_wp2_with fail
                refine ⟨⟨acc ++ [row1], _, [], k + 1, some ⟨g4, 0, none⟩, cap4, none, 0, w7, by simp, rfl, by simp, by simp; omega, by simp; omega, by omega, Lib.hid (fun h => absurd rfl h), HF, hout7, hb7, World.ownsRow_nil _ _ _ _, Below.refl _ _⟩, by simp [intN]; omega⟩
        · have HF : Hid (recV l = .bad K A) := Lib.hid (by rw [hp.out, hrec row HCR.out]; rfl)
          have hk := knz hK
          clear hrec hp HCR
          go_upto_region 9 with fail
          generalize hw5 : (w4.alloc _).alloc _ = w5
          have B5 : Below w.heap.size w w5 := hw5 ▸ ball (ball B4)
          have E5 : ErrAt w5 w.heap.size := hw5 ▸ E4.next (ball (ball (Below.refl _ _)))
          have x0 : w5.cell? ⟨w4.heap.size + 1, 0, none⟩ = some (.int .i64 (K : Int)) := by subst hw5; simp [go_sem]
          have x1 : w5.cell? ⟨w4.heap.size + 1, 1, none⟩ = some (.int .i64 (A : Int)) := by subst hw5; simp [go_sem]
          have n1 : w4.heap.size + 1 ≠ w.heap.size := by have := E4.lt; omega
          have n2 : w.heap.size ≠ w4.heap.size + 1 := fun e => n1 e.symm
          have e0 := E5.c0
          have e1 := E5.c1
          have ef := E5.fz
          clear hw5 B4 E4 hown4 hbo4 hzs
          generalize w4.heap.size + 1 = X at *
          go_wp2_with fail
          go_region
          generalize hw6 : World.drew _ = w6
          obtain ⟨s0, s1, B6⟩ := err_any E5 B5 (Nat.le_refl _) hw6
          clear hw6 e0 e1 ef x0 x1 n1 n2 B5 E5
          go_wp2_with fail
          exact bodyPost_ret (v := .tuple #[.slice none 0 0, .agg #[.int .i64 (K : Int), .int .i64 (A : Int)]]) (by simp [results, Tryd.results11, go_sem, s0, s1]) rfl (RecsE.bad HF.out B6)
    · have hrow : row = [] := by
        cases row with
        | nil => rfl
        | cons t r => exact absurd (Or.inr (by simp)) hgo
      have hjn : l.length ≤ j := by omega
      subst hrow
      have HF : Hid (recV l = .ok acc) := Lib.hid (by rw [hp.out, beg_far hjn]; show RR.ok (acc ++ []) = _; rw [List.append_nil])
      have hjn' : ¬ ((j : Int) < (l.length : Int)) := by omega
      have e0 := EW.c0
      have e1 := EW.c1
      have ef := EW.fz
      have hlt3 : w.heap.size < w3.heap.size := E3.lt
      have houtr := hout.below hb
      clear hp HR hrne hgo
      go_wp2_with fail
      generalize hw6 : (wr.setCell _ _).setCell _ _ = w6
      obtain ⟨s0, s1, B6⟩ := err_plain EW BB (Nat.le_refl _) hw6
      obtain ⟨hs6, hc6⟩ := set2_far hlt3 hw6
      have hr6 := houtr.readV (Nat.le_refl _) hs6 hc6
      clear hw6 e0 e1 ef
      exact bodyPost_ret (v := .tuple #[.slice p acc.length q, .agg #[.int .i64 0, .int .i64 0]]) (by simp [results, Tryd.results11, go_sem, s0, s1]) rfl (RecsE.ok HF.out hr6 (by omega) B6)
end Go.Proofs.YtcfminkmidaaoaaDoor
