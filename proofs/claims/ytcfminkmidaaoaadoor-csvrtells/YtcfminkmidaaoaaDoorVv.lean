/- The second writing's PrintRecords. -/
import Derived.Test.YtcfminkmidaaoaaDoorVu
import Derived.Test.YtcfminkmidaaoaaDoorTl
import Derived.Deep.CutBlock
namespace Go.Proofs.YtcfminkmidaaoaaDoor
open Go.ChangeShapes Go.WideShapes Go.RowKit Go.Sort
theorem any_take {s : Bs} {j : Nat} {b : UInt8} (h : s[j]? = some b) : (s.take (j + 1)).any markB = ((s.take j).any markB || markB b) := by
  rw [List.take_add_one, h]; simp
theorem dbl_take {s : Bs} {j : Nat} {b : UInt8} (h : s[j]? = some b) : dblQ (s.take (j + 1)) = dblQ (s.take j) ++ dblU b := by
  rw [List.take_add_one, h]; exact dblQ_snoc _ _
theorem own_le9 {w : World} {base : Nat} {l l' : Bs} {p : Option Addr} {q : Nat} (e : l = l') (h : w.ownsRow base 5 1 (.slice p l.length q) l.length (cellsB l)) : w.ownsRow base 5 1 (.slice p l'.length q) l'.length (cellsB l') := e ▸ h
/-- Bytes that a call has put together. -/
def OutB (w : World) (base : Nat) (v : Value) (l : Bs) : Prop := ∃ p q, v = .slice p l.length q ∧ w.ownsRow base 5 1 (.slice p l.length q) l.length (cellsB l)
theorem OutB.of {w : World} {base : Nat} {v : Value} {l l' : Bs} (h : OutB w base v l) (e : l = l') : OutB w base v l' := e ▸ h
set_option maxHeartbeats 32000000 in
set_option maxRecDepth 100000 in
theorem printR_x (L : List (List Bs)) (p : Option Addr) (c : Nat) (w : World) (h : RecP strP w p L) (hf : ∀ row ∈ L, ∀ s ∈ row, s.length ≤ 1000) (hN : (printV L).length ≤ 900000) :
    Calls Tryd.prog 14 #[.slice p L.length c] w fun e w' => PrintE w (printV L) e w' := by
  have hLl := printV_ge L
  have HH := Lib.hid h
  have HF := Lib.hid hf
  clear h hf
  go_enter Tryd.func14, Tryd.ntmps14
  go_wp2_with fail
  go_loopw [3, 4] (fun sv iv wr => ∃ j : Nat, iv = .int .i64 (j : Int) ∧ j ≤ L.length ∧ OutB wr w.heap.size sv (printV (L.take j)) ∧ Below w.heap.size w wr) (fun _ iv _ => L.length + 1 - intN iv)
  case atStart => exact ⟨0, rfl, Nat.zero_le _, ⟨none, 0, rfl, World.ownsRow_nil _ _ _ _⟩, Below.refl _ _⟩
  case round =>
    obtain ⟨j, rfl, hjl, hO, hb⟩ := hrel
    by_cases hlt : j < L.length
    · have hrow := List.getElem?_eq_getElem hlt
      have hmem := List.getElem_mem hlt
      generalize hrr : L[j]'hlt = row at *
      clear hrr
      have HFR := Lib.hid (HF.out row hmem)
      obtain ⟨ad, q, cq, hpa, hcell, hlies⟩ := HH.out.at hrow
      subst hpa
      have HL : Hid (StrK w q row) := Lib.hid hlies
      have HC : Hid (∀ V, Below w.heap.size w V → V.cell? (ad.add j) = some (.slice q row.length cq)) := Lib.hid (fun V hV => (hV.cell (p := ad.add j) (World.block_lt_of_cell? _ _ hcell)).trans hcell)
      have HP := Lib.hid (printV_take hrow)
      have hbig := printV_le L (j + 1)
      rw [HP.out] at hbig
      clear hlies hmem hcell hrow
      generalize hA : printV (L.take j) = A at *
      clear hA
      have hrp : rowP row = joinP (fieldP (row.length == 1)) row ++ [10] := rfl
      rw [hrp, List.length_append, List.length_append] at hbig
      have HRP := Lib.hid hrp
      have hrl : row.length ≤ 1000001 := by have := joinP_ge (fieldP (row.length == 1)) row; omega
      clear hrp
      go_wp2_with fail
      go_loopw [3, 5] (fun sv iv wx => ∃ k : Nat, iv = .int .i64 (k : Int) ∧ k ≤ row.length ∧ OutB wx w.heap.size sv (A ++ joinP (fieldP (row.length == 1)) (row.take k)) ∧ Below w.heap.size w wx) (fun _ iv _ => row.length + 1 - intN iv)
      case atStart => exact ⟨0, rfl, Nat.zero_le _, by simpa [joinP] using hO, hb⟩
      case round =>
        clear hO hb
        obtain ⟨k, rfl, hkl, hO, hb⟩ := hrel
        have hcell := HC.out wr hb
        by_cases hk : k < row.length
        · have hs := List.getElem?_eq_getElem hk
          have hsm := List.getElem_mem hk
          generalize hss : row[k]'hk = s at *
          clear hss
          have hs300 := HFR.out s hsm
          obtain ⟨ad2, hq2, hcell2⟩ := HL.out.at hs
          subst hq2
          have HC2 : Hid (∀ V, Below w.heap.size w V → V.cell? (ad2.add k) = some (.string (baS s))) := Lib.hid (fun V hV => (hV.cell (p := ad2.add k) (World.block_lt_of_cell? _ _ hcell2)).trans hcell2)
          have HJ := Lib.hid (joinP_take (fieldP (row.length == 1)) hs)
          have hfl := fieldP_len (row.length == 1) s
          have hjl2 := joinP_le (fieldP (row.length == 1)) row k
          clear hcell2 hs hsm
          have hal : (A ++ joinP (fieldP (row.length == 1)) (row.take k)).length ≤ 900000 := by rw [List.length_append]; omega
          clear hjl2 hbig
          generalize hAJ : A ++ joinP (fieldP (row.length == 1)) (row.take k) = AJ at *
          have HAJ := Lib.hid hAJ
          clear hAJ
          go_upto_if 26 with fail
          go_cut [3] (fun ov wx => OutB wx w.heap.size ov (AJ ++ (if k = 0 then [] else [44])) ∧ Below w.heap.size w wx)
          case first =>
            obtain ⟨p1, q1, rfl, ho1⟩ := hO
            by_cases hk0 : k = 0
            · subst hk0
              go_wp2_with fail
              go_meet
              exact ⟨⟨p1, q1, by simp, by simpa using ho1⟩, hb⟩
            · have hk1 : (0 : Int) < (k : Int) := by omega
              have hz := hb.size
              go_wp2_with (at_builtin; refine app1 _ (by rfl) _ _ (by rfl) w.heap.size p1 q1 AJ (by rfl) (ho1.alloc _) wr.heap.size 1 _ 44 rfl (by rfl) (by simp [go_sem]) (by omega) (by simp; omega) ?_)
              intro g3 cap w4 hA
              obtain ⟨hown4, hbel⟩ := hA
              have B4 := hbel _ _ (Nat.le_refl _) (ball hb)
              clear hbel
              go_wp2_with fail
              go_meet
              exact ⟨OutB.of ⟨_, _, by simp, hown4⟩ (by rw [if_neg hk0]), B4⟩
          case rest =>
            obtain ⟨hO1, hb1⟩ := hcut
            have hAl : (AJ ++ (if k = 0 then [] else [44])).length ≤ 900001 := by rw [List.length_append]; split <;> simp <;> omega
            clear hO hb hcell hal
            generalize hAC : AJ ++ (if k = 0 then [] else [44]) = AC at *
            have HAC := Lib.hid hAC
            clear hAC
            have hcell := HC.out wc hb1
            have hcell2 := HC2.out wc hb1
            have hcellk : k = 0 → wc.cell? ad2 = some (.string (baS s)) := fun e => by subst e; simpa [Addr.add] using hcell2
            go_upto_region 10 with fail
            go_cut [6] (fun sv wx => sv = .string (baS s) ∧ wx = wc)
            case first =>
              by_cases hk0 : k = 0
              · subst hk0
                have hc0 := hcellk rfl
                go_wp2_with fail
                go_meet
                exact ⟨rfl, rfl⟩
              · have hk1 : (0 : Int) < (k : Int) := by omega
                go_wp2_with fail
                go_meet
                exact ⟨rfl, rfl⟩
            case rest =>
              obtain ⟨rfl, hwc⟩ := hcut
              subst hwc
              clear hcellk hcell2
              go_upto_region 11 with fail
              go_cut [7] (fun nv wx => nv = .bool (s.isEmpty && (row.length == 1)) ∧ wx = wc)
              case first =>
                by_cases he : s = []
                · subst he
                  have hsb : (baS []) = ⟨#[]⟩ := rfl
                  rw [hsb]
                  go_wp2_with fail
                  go_meet
                  exact ⟨by rw [len_one]; rfl, rfl⟩
                · have hne := ne_listR he
                  have hie : s.isEmpty = false := by simpa using he
                  generalize baS s = S at *
                  go_wp2_with fail
                  go_meet
                  exact ⟨by rw [hie]; rfl, rfl⟩
              case rest =>
                obtain ⟨rfl, hwc⟩ := hcut
                subst hwc
                clear hcell
                have HX := Lib.hid (fun jj (hj : jj < s.length) V => str_at8 s jj hj V)
                have hsz := baS_size s
                generalize hND : (s.isEmpty && (row.length == 1)) = nd at *
                have HND := Lib.hid hND
                clear hND
                generalize hSS : baS s = S at *
                have HSS := Lib.hid hSS
                clear hSS
                go_wp2_with fail
                go_loopw [7, 8] (fun nv iv wx => ∃ jj : Nat, iv = .int .i64 (jj : Int) ∧ jj ≤ s.length ∧ nv = .bool (nd || (s.take jj).any markB) ∧ wx = wc) (fun _ iv _ => s.length + 1 - intN iv)
                case atStart => exact ⟨0, rfl, Nat.zero_le _, by simp, rfl⟩
                case round =>
                  obtain ⟨jj, rfl, hjj, rfl, hwx⟩ := hrel
                  subst hwx
                  by_cases hjl2 : jj < s.length
                  · have hx := HX.out jj hjl2
                    have HA2 := Lib.hid (any_take (List.getElem?_eq_getElem hjl2))
                    generalize s[jj]'hjl2 = b at *
                    generalize hcv : (nd || (s.take jj).any markB) = cv at *
                    have HCV := Lib.hid hcv
                    clear hcv
                    cases cv with
                    | true =>
                      have HR : Hid ((nd || (s.take (jj + 1)).any markB) = true) := Lib.hid (by rw [HA2.out, ← Bool.or_assoc, HCV.out]; rfl)
                      clear HCV HA2
                      go_wp2_with fail
                      exact ⟨⟨jj + 1, by simp, by omega, by rw [HR.out], trivial⟩, by simp [intN]; omega⟩
                    | false =>
                      have HR : Hid ((nd || (s.take (jj + 1)).any markB) = markB b) := Lib.hid (by rw [HA2.out, ← Bool.or_assoc, HCV.out]; rfl)
                      clear HCV HA2
                      by_cases hm : markB b = true
                      · rw [hm] at HR
                        have hm4 : b = 34 ∨ b = 44 ∨ b = 10 ∨ b = 13 := by simpa [markB, or_assoc] using hm
                        clear hm
                        rcases hm4 with rfl | rfl | rfl | rfl
                        · go_wp2_with fail
                          exact ⟨⟨jj + 1, by simp, by omega, by rw [HR.out], trivial⟩, by simp [intN]; omega⟩
                        · go_wp2_with fail
                          exact ⟨⟨jj + 1, by simp, by omega, by rw [HR.out], trivial⟩, by simp [intN]; omega⟩
                        · go_wp2_with fail
                          exact ⟨⟨jj + 1, by simp, by omega, by rw [HR.out], trivial⟩, by simp [intN]; omega⟩
                        · go_wp2_with fail
                          exact ⟨⟨jj + 1, by simp, by omega, by rw [HR.out], trivial⟩, by simp [intN]; omega⟩
                      · have hm' : markB b = false := by simpa using hm
                        rw [hm'] at HR
                        simp only [markB, Bool.or_eq_false_iff, beq_eq_false_iff_ne] at hm'
                        obtain ⟨⟨⟨h34, h44⟩, h10⟩, h13⟩ := hm'
                        have k34 : (((b.toNat : Nat) : Int) == 34) = false := beq_eq_false_iff_ne.2 (fun e => h34 ((byte_is (c := b) (k := 34) (by decide)).1 e))
                        have k44 : (((b.toNat : Nat) : Int) == 44) = false := beq_eq_false_iff_ne.2 (fun e => h44 ((byte_is (c := b) (k := 44) (by decide)).1 e))
                        have k10 : (((b.toNat : Nat) : Int) == 10) = false := beq_eq_false_iff_ne.2 (fun e => h10 ((byte_is (c := b) (k := 10) (by decide)).1 e))
                        have k13 : (((b.toNat : Nat) : Int) == 13) = false := beq_eq_false_iff_ne.2 (fun e => h13 ((byte_is (c := b) (k := 13) (by decide)).1 e))
                        clear hm h34 h44 h10 h13
                        generalize b.toNat = u at *
                        go_wp2_with fail
                        exact ⟨⟨jj + 1, by simp, by omega, by rw [HR.out], trivial⟩, by simp [intN]; omega⟩
                  · have hjn : ¬ ((jj : Int) < (s.length : Int)) := by omega
                    have HB : Hid ((nd || (s.take jj).any markB) = needB (row.length == 1) s) := Lib.hid (by
                      rw [List.take_of_length_le (by omega), ← HND.out]; rfl)
                    rw [HB.out]
                    obtain ⟨p1, q1, hov, ho1⟩ := hO1
                    subst hov
                    have hz := hb1.size
                    by_cases hnb : needB (row.length == 1) s = true
                    · have HFP : Hid (fieldP (row.length == 1) s = 34 :: (dblQ s ++ [34])) := Lib.hid (by unfold fieldP; rw [if_pos hnb])
                      have hdl := dblQ_len s
                      rw [hnb]
                      clear hnb
                      go_wp2_with (at_builtin; refine app1 _ (by rfl) _ _ (by rfl) w.heap.size p1 q1 AC (by rfl) (ho1.alloc _) wr.heap.size 1 _ 34 rfl (by rfl) (by simp [go_sem]) (by omega) (by simp; omega) ?_)
                      intro g3 cap w4 hA
                      obtain ⟨hown4, hbel⟩ := hA
                      have B4 := hbel _ _ (Nat.le_refl _) (ball hb1)
                      clear hbel ho1
                      have hA4 : (AC ++ [34]).length = AC.length + 1 := by simp
                      rw [← hA4]
                      clear hA4
                      have O4 : OutB w4 w.heap.size (.slice (some ⟨g3, 0, none⟩) (AC ++ [34]).length cap) (AC ++ [34] ++ dblQ (s.take 0)) := OutB.of ⟨_, _, rfl, hown4⟩ (by simp [dblQ])
                      clear hown4
                      generalize (Value.slice (some ⟨g3, 0, none⟩) (AC ++ [34]).length cap) = ov4 at *
                      go_wp2_with fail
                      go_loopw [3, 9] (fun sv iv wy => ∃ jk : Nat, iv = .int .i64 (jk : Int) ∧ jk ≤ s.length ∧ OutB wy w.heap.size sv (AC ++ [34] ++ dblQ (s.take jk)) ∧ Below w.heap.size w wy) (fun _ iv _ => s.length + 1 - intN iv)
                      case atStart => exact ⟨0, rfl, Nat.zero_le _, O4, B4⟩
                      case round =>
                        clear O4 B4
                        obtain ⟨jk, rfl, hjk, hO5, hb5⟩ := hrel
                        obtain ⟨p5, q5, hov5, ho5⟩ := hO5
                        subst hov5
                        have hz5 := hb5.size
                        have hdt : (dblQ (s.take jk)).length ≤ 2 * s.length := by have := dblQ_len (s.take jk); rw [List.length_take] at this; omega
                        have hal5 : (AC ++ [34] ++ dblQ (s.take jk)).length ≤ 910000 := by simp; omega
                        by_cases hjl3 : jk < s.length
                        · have hx := HX.out jk hjl3
                          have HD := Lib.hid (dbl_take (List.getElem?_eq_getElem hjl3))
                          generalize s[jk]'hjl3 = b at *
                          generalize hG5 : AC ++ [34] ++ dblQ (s.take jk) = G5 at *
                          have HG5 := Lib.hid hG5
                          clear hG5
                          by_cases hb34 : b = 34
                          · subst hb34
                            have HN5 : Hid (AC ++ [34] ++ dblQ (s.take (jk + 1)) = G5 ++ [34] ++ [34]) := Lib.hid (by rw [HD.out, ← HG5.out]; simp [dblU])
                            clear HD
                            go_wp2_with (at_builtin; refine app1 _ (by rfl) _ _ (by rfl) w.heap.size p5 q5 G5 (by rfl) (ho5.alloc _) wr.heap.size 1 _ 34 rfl (by rfl) (by simp [go_sem]) (by omega) (by simp; omega) ?_)
                            intro g6 cap6 w6 hA
                            obtain ⟨hown6, hbel⟩ := hA
                            have B6 := hbel _ _ (Nat.le_refl _) (ball hb5)
                            clear hbel ho5 hb5
                            have hz6 := B6.size
                            have HL6 : Hid ((G5 ++ [34]).length = G5.length + 1) := Lib.hid (by simp)
                            have HO6 := Lib.hid hown6
                            clear hown6
                            go_wp2_with (at_builtin; refine app1 _ (by rfl) _ _ (by rfl) w.heap.size (some ⟨g6, 0, none⟩) cap6 (G5 ++ [34]) (by rw [HL6.out]; rfl) (HO6.out.alloc _) w6.heap.size 1 _ 34 rfl (by rfl) (by simp [go_sem]) (by rw [HL6.out]; omega) (by simp; omega) ?_)
                            intro g7 cap7 w7 hA
                            obtain ⟨hown7, hbel⟩ := hA
                            have B7 := hbel _ _ (Nat.le_refl _) (ball B6)
                            clear hbel
                            go_wp2
                            exact ⟨⟨jk + 1, by simp, by omega, OutB.of (l := G5 ++ [34, 34]) ⟨some ⟨g7, 0, none⟩, cap7, by simp, by simpa using hown7⟩ (by rw [HN5.out]; simp), B7⟩, by simp [intN]; omega⟩
                          · have HN5 : Hid (AC ++ [34] ++ dblQ (s.take (jk + 1)) = G5 ++ [b]) := Lib.hid (by rw [HD.out, ← HG5.out]; simp [dblU, hb34])
                            have k34 : (((b.toNat : Nat) : Int) == 34) = false := beq_eq_false_iff_ne.2 (fun e => hb34 ((byte_is (c := b) (k := 34) (by decide)).1 e))
                            clear HD hb34
                            go_wp2_with (at_builtin; refine app1 _ (by rfl) _ _ (by rfl) w.heap.size p5 q5 G5 (by rfl) (ho5.alloc _) wr.heap.size 1 _ b rfl (by rfl) (by simp [go_sem]) (by omega) (by simp; omega) ?_)
                            intro g6 cap6 w6 hA
                            obtain ⟨hown6, hbel⟩ := hA
                            have B6 := hbel _ _ (Nat.le_refl _) (ball hb5)
                            clear hbel ho5 hb5
                            go_wp2
                            exact ⟨⟨jk + 1, by simp, by omega, OutB.of ⟨_, _, by simp, hown6⟩ HN5.out.symm, B6⟩, by simp [intN]; omega⟩
                        · have hjn3 : ¬ ((jk : Int) < (s.length : Int)) := by omega
                          have HE5 : Hid (A ++ joinP (fieldP (row.length == 1)) (row.take (k + 1)) = AC ++ [34] ++ dblQ (s.take jk) ++ [34]) := Lib.hid (by
                            have e : s.take jk = s := List.take_of_length_le (by omega)
                            rw [HJ.out, HFP.out, ← HAC.out, ← HAJ.out, e]; simp)
                          generalize AC ++ [34] ++ dblQ (s.take jk) = G5 at *
                          go_wp2_with (at_builtin; refine app1 _ (by rfl) _ _ (by rfl) w.heap.size p5 q5 G5 (by rfl) (ho5.alloc _) wr.heap.size 1 _ 34 rfl (by rfl) (by simp [go_sem]) (by omega) (by simp; omega) ?_)
                          intro g6 cap6 w6 hA
                          obtain ⟨hown6, hbel⟩ := hA
                          have B6 := hbel _ _ (Nat.le_refl _) (ball hb5)
                          clear hbel ho5 hb5
                          go_wp2
                          exact ⟨⟨k + 1, by simp, by omega, OutB.of ⟨_, _, by simp, hown6⟩ HE5.out.symm, B6⟩, by simp [intN]; omega⟩
                    · have hnb' : needB (row.length == 1) s = false := by simpa using hnb
                      have HFP : Hid (fieldP (row.length == 1) s = s) := Lib.hid (by unfold fieldP; rw [if_neg hnb])
                      have HE5 : Hid (A ++ joinP (fieldP (row.length == 1)) (row.take (k + 1)) = AC ++ s) := Lib.hid (by
                        rw [HJ.out, HFP.out, ← HAC.out, ← HAJ.out]; simp)
                      rw [hnb']
                      clear hnb hnb'
                      go_wp2_with (at_builtin; refine appS _ (by rfl) _ _ (by rfl) w.heap.size p1 q1 AC s (by rfl) ho1 (by rw [HSS.out]; rfl) (by omega) (by omega) (by omega) ?_)
                      intro p6 q6 w6 hA
                      obtain ⟨hown6, hbel⟩ := hA
                      have B6 := hbel _ _ (Nat.le_refl _) hb1
                      clear hbel ho1
                      go_wp2
                      exact ⟨⟨k + 1, by simp, by omega, OutB.of ⟨_, _, by simp, hown6⟩ HE5.out.symm, B6⟩, by simp [intN]; omega⟩
        · have hkn : ¬ ((k : Int) < (row.length : Int)) := by omega
          have HE2 : Hid (printV (L.take (j + 1)) = A ++ joinP (fieldP (row.length == 1)) (row.take k) ++ [10]) := Lib.hid (by
            rw [HP.out, HRP.out, List.take_of_length_le (by omega), List.append_assoc])
          have hal : (A ++ joinP (fieldP (row.length == 1)) (row.take k)).length ≤ 900000 := by
            have := joinP_le (fieldP (row.length == 1)) row k
            rw [List.length_append]; omega
          have hz := hb.size
          clear hbig
          generalize A ++ joinP (fieldP (row.length == 1)) (row.take k) = AJ at *
          obtain ⟨p5, q5, hov5, ho5⟩ := hO
          subst hov5
          go_wp2_with (at_builtin; refine app1 _ (by rfl) _ _ (by rfl) w.heap.size p5 q5 AJ (by rfl) (ho5.alloc _) wr.heap.size 1 _ 10 rfl (by rfl) (by simp [go_sem]) (by omega) (by simp; omega) ?_)
          intro g6 cap6 w6 hA
          obtain ⟨hown6, hbel⟩ := hA
          have B6 := hbel _ _ (Nat.le_refl _) (ball hb)
          clear hbel ho5 hb
          go_wp2
          exact ⟨⟨j + 1, by simp, by omega, OutB.of ⟨_, _, by simp, hown6⟩ HE2.out.symm, B6⟩, by simp [intN]; omega⟩
    · have hjn : ¬ ((j : Int) < (L.length : Int)) := by omega
      have HE : Hid (printV (L.take j) = printV L) := Lib.hid (by rw [List.take_of_length_le (by omega)])
      rw [HE.out] at hO
      obtain ⟨p5, q5, rfl, ho5⟩ := hO
      go_wp2_with fail
      go_ret
      exact ⟨hb, p5, q5, rfl, ho5⟩
end Go.Proofs.YtcfminkmidaaoaaDoor
