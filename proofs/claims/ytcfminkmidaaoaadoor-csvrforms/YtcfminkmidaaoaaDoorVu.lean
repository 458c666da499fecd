/- Package csvr: Print. -/
import Derived.Test.YtcfminkmidaaoaaDoorVt
import Derived.Test.YtcfminkmidaaoaaDoorVs
import Derived.Lib.BufferOld
namespace Go.Proofs.YtcfminkmidaaoaaDoor
open Go.ChangeShapes Go.WideShapes Go.RowKit Go.Sort
theorem addr_at (g j : Nat) : (⟨g, 0, none⟩ : Addr).add j = ⟨g, j, none⟩ := by unfold Addr.add; split <;> simp_all
theorem RecP.at {α : Type} {R : RowP α} {w : World} {p : Option Addr} {L : List (List α)} (h : RecP R w p L) {j : Nat} {row : List α} (hj : L[j]? = some row) : ∃ ad q cq, p = some ad ∧ w.cell? (ad.add j) = some (.slice q row.length cq) ∧ R.lies w q row := by
  obtain ⟨g, q, cq, e, _, hc, hr⟩ := h j row hj
  exact ⟨⟨g, 0, none⟩, q, cq, e, by rw [addr_at]; exact hc, hr⟩
theorem StrK.at {w : World} {p : Option Addr} {l : List Bs} (h : StrK w p l) {j : Nat} {s : Bs} (hj : l[j]? = some s) : ∃ ad, p = some ad ∧ w.cell? (ad.add j) = some (.string (baS s)) := by
  obtain ⟨g, e, _, hc⟩ := h j s hj
  exact ⟨⟨g, 0, none⟩, e, by rw [addr_at]; exact hc⟩
theorem printV_take {L : List (List Bs)} {j : Nat} {row : List Bs} (h : L[j]? = some row) : printV (L.take (j + 1)) = printV (L.take j) ++ rowP row := by
  rw [List.take_add_one, h]; exact printV_snoc _ _
theorem joinP_take (f : Bs → Bs) {row : List Bs} {k : Nat} {s : Bs} (h : row[k]? = some s) : joinP f (row.take (k + 1)) = joinP f (row.take k) ++ (if k = 0 then [] else [44]) ++ f s := by
  have hk := (List.getElem?_eq_some_iff.1 h).1
  rw [List.take_add_one, h]
  show joinP f (row.take k ++ [s]) = _
  rw [joinP_snoc]
  by_cases h0 : k = 0
  · subst h0; simp
  · rw [if_neg h0, if_neg (by intro e; have := congrArg List.length e; rw [List.length_take, List.length_nil] at this; omega)]
theorem printV_le (L : List (List Bs)) (j : Nat) : (printV (L.take j)).length ≤ (printV L).length := by
  conv => rhs; rw [← List.take_append_drop j L]
  unfold printV
  rw [List.flatMap_append, List.length_append]; omega
theorem joinP_le (f : Bs → Bs) (row : List Bs) (k : Nat) : (joinP f (row.take k)).length ≤ (joinP f row).length := by
  unfold joinP
  rw [List.length_drop, List.length_drop]
  conv => rhs; rw [← List.take_append_drop k row]
  rw [List.flatMap_append, List.length_append]; omega
theorem joinP_ge (f : Bs → Bs) (row : List Bs) : row.length ≤ (joinP f row).length + 1 := by
  have : row.length ≤ (row.flatMap (fun s => 44 :: f s)).length := by
    induction row with
    | nil => simp
    | cons a q ih => rw [List.flatMap_cons, List.length_append, List.length_cons, List.length_cons]; omega
  unfold joinP
  rw [List.length_drop]; omega
theorem printV_ge (L : List (List Bs)) : L.length ≤ (printV L).length := by
  induction L with
  | nil => simp
  | cons a q ih =>
    have e : printV (a :: q) = rowP a ++ printV q := by simp [printV]
    have : 1 ≤ (rowP a).length := by unfold rowP; simp
    rw [e, List.length_append, List.length_cons]; omega
/-- What Print hands back. -/
def PrintE (w : World) (l : Bs) (e : Ending) (w' : World) : Prop := Below w.heap.size w w' ∧ ∃ p q, e = .returned (.slice p l.length q) ∧ w'.ownsRow w.heap.size 5 1 (.slice p l.length q) l.length (cellsB l)
theorem len_one (n : Nat) : (((n : Nat) : Int) == 1) = (n == 1) := by
  rw [Bool.eq_iff_iff, beq_iff_eq, beq_iff_eq]; omega
/-- A buffer that a call has made, and what was written into it. -/
def BufAt (w : World) (B : Nat) (l : Bs) : Prop := Lib.IsBuffer 57 5 B B (cellsB l) w
theorem wb_x (acc : Bs) (c : UInt8) (u : Int) (hu : u = (c.toNat : Int)) (B : Nat) (w : World) (h : BufAt w B acc) (hl : acc.length ≤ 3000000) :
    Calls Tryd.prog 20 #[.pointer (some ⟨B, 0, none⟩), .int .u8 u] w fun e w' => e = .returned .nilIface ∧ BufAt w' B (acc ++ [c]) ∧ Below B w w' := by
  subst hu
  have hlen : (cellsB acc).length = acc.length := by simp [cellsB]
  refine (Tryd.Buffer_WriteByte_k B B (cellsB acc) (c.toNat : Int) w h (Nat.le_of_lt (Lib.IsBuffer.lt h)) (Lib.byteCells_one acc) (by rw [hlen]; omega)).mono ?_
  rintro e w' ⟨h1, h2, h3, _⟩
  exact ⟨h1, by unfold BufAt; rw [cellsB_snoc]; exact h2, h3⟩
theorem ws_x (acc t : Bs) (B : Nat) (w : World) (h : BufAt w B acc) (hl : acc.length ≤ 3000000) (ht : t.length ≤ 3000000) :
    Calls Tryd.prog 21 #[.pointer (some ⟨B, 0, none⟩), .string (baS t)] w fun e w' => (∃ v, e = .returned v) ∧ BufAt w' B (acc ++ t) ∧ Below B w w' := by
  have hlen : (cellsB acc).length = acc.length := by simp [cellsB]
  refine (Tryd.Buffer_WriteString_k B B (cellsB acc) (baS t) w h (Nat.le_of_lt (Lib.IsBuffer.lt h)) (Lib.byteCells_one acc) (by rw [hlen, baS_size]; omega)).mono ?_
  rintro e w' ⟨h1, h2, h3, _⟩
  refine ⟨⟨_, h1⟩, ?_, h3⟩
  unfold BufAt
  rw [show cellsB (acc ++ t) = cellsB acc ++ cellsB t by simp [cellsB]]
  have e : (baS t).data.toList = t := by simp [baS]
  rw [e] at h2
  exact h2
theorem bb_x (acc : Bs) (B : Nat) (w : World) (h : BufAt w B acc) :
    Calls Tryd.prog 23 #[.pointer (some ⟨B, 0, none⟩)] w fun e w' => (∃ p q, e = .returned (.slice p acc.length q) ∧ w'.ownsRow B 5 1 (.slice p acc.length q) acc.length (cellsB acc)) ∧ Below w.heap.size w w' := by
  have hlen : (cellsB acc).length = acc.length := by simp [cellsB]
  refine (Tryd.Buffer_Bytes B B (cellsB acc) w h).mono ?_
  rintro e w' ⟨v, h1, h2, n, h3⟩
  rw [hlen] at h2
  refine ⟨?_, h3 ▸ bdrew (Below.refl _ _) n⟩
  rcases h2.2 with ⟨hv, h0⟩ | ⟨g, cap, cur, hv, _⟩
  · exact ⟨none, 0, by rw [h1, hv, h0], by rw [h0]; rw [hv, h0] at h2; exact h2⟩
  · exact ⟨some ⟨g, 0, none⟩, cap, by rw [h1, hv], by rw [← hv]; exact h2⟩
set_option maxHeartbeats 16000000 in
set_option maxRecDepth 100000 in
theorem print_x (L : List (List Bs)) (p : Option Addr) (c : Nat) (w : World) (hg : Gl w) (h : RecP strP w p L) (hf : ∀ row ∈ L, ∀ s ∈ row, s.length ≤ 1000) (hN : (printV L).length ≤ 1000000) :
    Calls Tryd.prog 13 #[.slice p L.length c] w fun e w' => PrintE w (printV L) e w' := by
  have hLl := printV_ge L
  have HG := Lib.hid hg
  have HH := Lib.hid h
  have HF := Lib.hid hf
  clear hg h hf
  go_enter Tryd.func13, Tryd.ntmps13
  go_upto_region 2 with fail
  generalize hw0 : w.alloc _ = w0
  have B0 : Below w.heap.size w w0 := hw0 ▸ ball (Below.refl _ _)
  have I0 : BufAt w0 w.heap.size [] := hw0 ▸ Lib.fresh_isBuffer 57 5 w
  clear hw0
  go_wp2_with fail
  go_loopw [10] (fun iv wr => ∃ j : Nat, iv = .int .i64 (j : Int) ∧ j ≤ L.length ∧ BufAt wr w.heap.size (printV (L.take j)) ∧ Below w.heap.size w wr) (fun iv _ => L.length + 1 - intN iv)
  case atStart => exact ⟨0, rfl, Nat.zero_le _, I0, B0⟩
  case round =>
    clear I0 B0
    obtain ⟨j, rfl, hjl, hI, hb⟩ := hrel
    by_cases hlt : j < L.length
    · have hrow := List.getElem?_eq_getElem hlt
      have hmem := List.getElem_mem hlt
      generalize hrr : L[j]'hlt = row at *
      clear hrr
      have HFR := Lib.hid (HF.out row hmem)
      obtain ⟨ad, q, cq, rfl, hcell, hlies⟩ := (HH.out.below hb).at hrow
      have HRW := Lib.hid ((HH.out.at hrow))
      have HL : Hid (StrK w q row) := Lib.hid (by
        obtain ⟨ad2, q2, cq2, e2, hc2, hl2⟩ := HH.out.at hrow
        cases e2
        have := (hb.cell (p := ad.add j) (World.block_lt_of_cell? _ _ hc2)).trans hc2
        rw [hcell] at this
        cases this
        exact hl2)
      have HP := Lib.hid (printV_take hrow)
      have hbig := printV_le L (j + 1)
      rw [HP.out] at hbig
      clear hlies HRW hmem
      generalize hA : printV (L.take j) = A at *
      have HA := Lib.hid hA
      clear hA hrow
      have hrp : rowP row = joinP (fieldP (row.length == 1)) row ++ [10] := rfl
      rw [hrp, List.length_append, List.length_append] at hbig
      have HRP := Lib.hid hrp
      have hrl : row.length ≤ 1000001 := by have := joinP_ge (fieldP (row.length == 1)) row; omega
      clear hrp
      go_wp2_with fail
      go_loopw [16] (fun iv wx => ∃ k : Nat, iv = .int .i64 (k : Int) ∧ k ≤ row.length ∧ BufAt wx w.heap.size (A ++ joinP (fieldP (row.length == 1)) (row.take k)) ∧ Below w.heap.size w wx) (fun iv _ => row.length + 1 - intN iv)
      case atStart => exact ⟨0, rfl, Nat.zero_le _, by simpa [joinP] using hI, hb⟩
      case round =>
        clear hcell hI hb
        obtain ⟨k, rfl, hkl, hI, hb⟩ := hrel
        by_cases hk : k < row.length
        · have hs := List.getElem?_eq_getElem hk
          have hsm := List.getElem_mem hk
          generalize hss : row[k]'hk = s at *
          clear hss
          have hs300 := HFR.out s hsm
          obtain ⟨ad2, hq2, hcell2⟩ := HL.out.at hs
          have HE := Lib.hid hq2
          clear hq2
          have hcell2' := (hb.cell (p := ad2.add k) (World.block_lt_of_cell? _ _ hcell2)).trans hcell2
          have HT : Hid (∀ V, Gl V → Calls Tryd.prog 22 #[.string (baS s), .bool (((row.length : Nat) : Int) == 1)] V fun e w' => e = .returned (.string (baS (fieldP (row.length == 1) s))) ∧ Below V.heap.size V w') := Lib.hid (fun V hV => by
            rw [len_one]; exact fieldTold_x s _ V hV hs300)
          have HJ := Lib.hid (joinP_take (fieldP (row.length == 1)) hs)
          have hfl := fieldP_len (row.length == 1) s
          have hjl2 := joinP_le (fieldP (row.length == 1)) row k
          clear hcell2 hs hsm
          obtain rfl := HE.out
          have hal : (A ++ joinP (fieldP (row.length == 1)) (row.take k)).length ≤ 1000000 := by rw [List.length_append]; omega
          have HAL := Lib.hid hal
          have HFL := Lib.hid hfl
          have HS := Lib.hid hs300
          generalize joinP (fieldP (row.length == 1)) (row.take k) = J at *
          generalize hFP : fieldP (row.length == 1) s = FP at *
          generalize baS s = S at *
          clear hal hfl hs300 hjl2 hFP hbig
          have hI' := Lib.hid hI
          clear hI
          generalize hAJ : A ++ J = AJ at *
          have HAJ := Lib.hid hAJ
          clear hAJ
          by_cases hk0 : k = 0
          · subst hk0
            have hcell0 : wr.cell? ad2 = some (.string S) := by simpa [Addr.add] using hcell2'
            have HE2 : Hid (A ++ joinP (fieldP (row.length == 1)) (row.take (0 + 1)) = AJ ++ FP) := Lib.hid (by rw [HJ.out, ← HAJ.out]; simp)
            go_wp2_with fail
            refine (HT.out _ (HG.out.below hb)).mono ?_
            rintro e w2 ⟨rfl, hb2⟩
            have I2 : BufAt w2 w.heap.size AJ := Lib.IsBuffer.old hI'.out hb2
            have B2 := below_next hb hb2
            clear hI' HT hcell2' hb
            go_wp2_with fail
            refine (ws_x AJ FP w.heap.size w2 I2 (by have := HAL.out; omega) (by have := HFL.out; have := HS.out; omega)).mono ?_
            rintro e w3 ⟨⟨v3, rfl⟩, I3, hb3⟩
            have B3 := B2.trans hb3
            go_wp2
            exact ⟨⟨1, by simp, by omega, by rw [HE2.out]; exact I3, B3⟩, by simp [intN]; omega⟩
          · have HE2 : Hid (A ++ joinP (fieldP (row.length == 1)) (row.take (k + 1)) = AJ ++ [44] ++ FP) := Lib.hid (by rw [HJ.out, if_neg hk0, ← HAJ.out]; simp)
            have hk1 : (0 : Int) < (k : Int) := by omega
            go_wp2_with fail
            refine (wb_x AJ 44 44 rfl w.heap.size _ hI'.out (by have := HAL.out; omega)).mono ?_
            rintro e w1 ⟨rfl, I1, hb1⟩
            have B1 := hb.trans hb1
            clear hI' hcell2' hb hb1
            go_wp2_with fail
            refine (HT.out _ (HG.out.below B1)).mono ?_
            rintro e w2 ⟨rfl, hb2⟩
            have I2 : BufAt w2 w.heap.size (AJ ++ [44]) := Lib.IsBuffer.old I1 hb2
            have B2 := below_next B1 hb2
            clear I1 HT B1
            go_wp2_with fail
            refine (ws_x (AJ ++ [44]) FP w.heap.size w2 I2 (by have := HAL.out; simp; omega) (by have := HFL.out; have := HS.out; omega)).mono ?_
            rintro e w3 ⟨⟨v3, rfl⟩, I3, hb3⟩
            have B3 := B2.trans hb3
            go_wp2
            exact ⟨⟨k + 1, by simp, by omega, by rw [HE2.out]; exact I3, B3⟩, by simp [intN]; omega⟩
        · have hkn : ¬ ((k : Int) < (row.length : Int)) := by omega
          have HE2 : Hid (printV (L.take (j + 1)) = A ++ joinP (fieldP (row.length == 1)) (row.take k) ++ [10]) := Lib.hid (by
            rw [HP.out, HRP.out, List.take_of_length_le (by omega), List.append_assoc])
          have hal : (A ++ joinP (fieldP (row.length == 1)) (row.take k)).length ≤ 1000000 := by
            have := joinP_le (fieldP (row.length == 1)) row k
            rw [List.length_append]; omega
          have HAL := Lib.hid hal
          clear hal hbig
          generalize A ++ joinP (fieldP (row.length == 1)) (row.take k) = AJ at *
          go_wp2_with fail
          refine (wb_x AJ 10 10 rfl w.heap.size _ hI (by have := HAL.out; omega)).mono ?_
          rintro e w1 ⟨rfl, I1, hb1⟩
          have B1 := hb.trans hb1
          clear hI hb hb1
          go_wp2
          exact ⟨⟨j + 1, by simp, by omega, by rw [HE2.out]; exact I1, B1⟩, by simp [intN]; omega⟩
    · have hjn : ¬ ((j : Int) < (L.length : Int)) := by omega
      have HE : Hid (printV (L.take j) = printV L) := Lib.hid (by rw [List.take_of_length_le (by omega)])
      rw [HE.out] at hI
      go_wp2_with fail
      refine (bb_x (printV L) w.heap.size _ hI).mono ?_
      rintro e w1 ⟨⟨p1, q1, rfl, ho⟩, hb1⟩
      go_wp2
      go_ret
      exact ⟨below_next hb hb1, p1, q1, rfl, ho⟩
end Go.Proofs.YtcfminkmidaaoaaDoor
