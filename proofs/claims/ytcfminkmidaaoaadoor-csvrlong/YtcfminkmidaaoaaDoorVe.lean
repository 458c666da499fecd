/- Package csvr: one record. -/
import Derived.Test.YtcfminkmidaaoaaDoorVd
namespace Go.Proofs.YtcfminkmidaaoaaDoor
open Go.ChangeShapes Go.WideShapes Go.RowKit Go.Sort
/-- What recordAt hands back. -/
def RecAtE (w : World) (l : Bs) (i : Nat) (e : Ending) (w' : World) : Prop :=
  ((∃ (row : List Tk) (n : Nat) (p : Option Addr) (c : Nat), e = .returned (.tuple #[.slice p row.length c, .int .i64 (n : Int), .agg #[.int .i64 0, .int .i64 0]]) ∧ i < n ∧ n ≤ l.length ∧ row.length ≤ l.length + 1 ∧ w'.ownsRow w.heap.size 34 3 (.slice p row.length c) row.length (row.flatMap cellsK) ∧ recA (.beg []) i (l.drop i) = (recA (.beg []) n (l.drop n)).pre [row])
  ∨ (∃ K A : Nat, e = .returned (.tuple #[.slice none 0 0, .int .i64 0, .agg #[.int .i64 (K : Int), .int .i64 (A : Int)]]) ∧ 0 < K ∧ recA (.beg []) i (l.drop i) = .bad K A)) ∧ Below w.heap.size w w'
theorem knz {K : Nat} (h : 0 < K) : (((K : Nat) : Int) != 0) = true := bne_iff_ne.2 (by omega)
set_option maxHeartbeats 16000000 in
set_option maxRecDepth 100000 in
theorem recordAt_x (l : Bs) (a : Option Addr) (c i : Nat) (w : World) (h : BytesAt w a l) (hc : l.length ≤ c) (hl : l.length ≤ 1000000) (hi : i < l.length) :
    Calls Tryd.prog 16 #[.slice a l.length c, .int .i64 (i : Int)] w fun e w' => RecAtE w l i e w' := by
  have HH := Lib.hid h
  have HFL := Lib.hid (fun j V (hV : BytesAt V a l) (hj : j ≤ l.length) => fieldAt_x l a c j V hV hc hl hj)
  have HEN := Lib.hid (fun j V (hV : BytesAt V a l) (hj : j ≤ l.length) (h44 : l[j]? ≠ some 44) => behindEnd_x l a c j V hV hl hj h44)
  clear h
  go_enter Tryd.func16, Tryd.ntmps16
  go_upto_region 1 with fail
  generalize hw0 : w.alloc _ = w0
  have B0 : Below w.heap.size w w0 := hw0 ▸ ball (Below.refl _ _)
  have E0 : ErrAt w0 w.heap.size := by subst hw0; exact ⟨by simp [go_sem], by simp [go_sem], fun o => by simp [go_sem], by simp [go_sem]⟩
  clear hw0
  have H0 := Lib.hid (HH.out.below B0)
  clear HH
  go_wp2_with fail
  go_loopw [7, 1] (fun sv iv wr => ∃ (acc : List Tk) (j : Nat) (p : Option Addr) (q : Nat), sv = .slice p acc.length q ∧ iv = .int .i64 (j : Int) ∧ acc.length + i ≤ j ∧ j ≤ l.length ∧ Hid (CondR l j acc) ∧ Hid (recA (.beg []) i (l.drop i) = recA (.beg acc) j (l.drop j)) ∧ wr.ownsRow w0.heap.size 34 3 (.slice p acc.length q) acc.length (acc.flatMap cellsK) ∧ Below w0.heap.size w0 wr) (fun _ iv _ => l.length + 1 - intN iv)
  case atStart => exact ⟨[], i, none, 0, rfl, rfl, by simp, Nat.le_of_lt hi, Lib.hid (Or.inl hi), Lib.hid rfl, World.ownsRow_nil _ _ _ _, Below.refl _ _⟩
  case round =>
    obtain ⟨acc, j, p, q, rfl, rfl, haj, hjl, hcr, hp, hown, hb⟩ := hrel
    have hzs := hb.size
    have EW := E0.next hb
    have BB : Below w.heap.size w wr := below_next B0 hb
    have hcall := Lib.hid (HFL.out j wr (H0.out.below hb) hjl)
    clear HFL
    go_wp2_with fail
    refine hcall.out.mono ?_
    rintro e w4 ⟨⟨v, rfl, hv⟩, hb4⟩
    have E4 := EW.next hb4
    have B4 := below_next BB hb4
    have hown4 := own_next hown hb4
    have hb4' := below_next hb hb4
    clear hcall EW BB hown hb hb4 hzs
    have hzs := hb4'.size
    rcases hv with ⟨s, k, rfl, hjk, hkl, hsl, hrec⟩ | ⟨K, A, rfl, hK, hrec⟩
    · have HK : Hid (recA (.beg []) i (l.drop i) = recA (.aft (acc ++ [(5, s, j)])) k (l.drop k)) := Lib.hid (hp.out.trans (hrec acc hcr.out))
      clear hrec hp hcr
      go_upto_region 3 with fail
      generalize hw5 : (w4.alloc _).alloc _ = w5
      have B5 : Below w.heap.size w w5 := hw5 ▸ ball (ball B4)
      have E5 : ErrAt w5 w.heap.size := hw5 ▸ E4.next (ball (ball (Below.refl _ _)))
      have hown5 : w5.ownsRow w0.heap.size 34 3 (.slice p acc.length q) acc.length (acc.flatMap cellsK) := hw5 ▸ (hown4.alloc _).alloc _
      have hb5 : Below w0.heap.size w0 w5 := hw5 ▸ (hb4'.alloc hzs _).alloc (by simp; omega) _
      have y0 : w5.cell? ⟨w4.heap.size, 0, none⟩ = some (.int .i64 5) := by subst hw5; simp [go_sem]
      have y1 : w5.cell? ⟨w4.heap.size, 1, none⟩ = some (.string (baS s)) := by subst hw5; simp [go_sem]
      have y2 : w5.cell? ⟨w4.heap.size, 2, none⟩ = some (.int .i64 (j : Int)) := by subst hw5; simp [go_sem]
      have x0 : w5.cell? ⟨w4.heap.size + 1, 0, none⟩ = some (.int .i64 0) := by subst hw5; simp [go_sem]
      have x1 : w5.cell? ⟨w4.heap.size + 1, 1, none⟩ = some (.int .i64 0) := by subst hw5; simp [go_sem]
      clear hw5 B4 E4 hown4 hb4' hzs
      have hzs := hb5.size
      generalize w4.heap.size = X at *
      have ecell : cellsK (5, s, j) = [.int .i64 5, .string (baS s), .int .i64 (j : Int)] := rfl
      have HE := Lib.hid ecell
      clear ecell hsl
      generalize baS s = S at *
      go_wp2_with (at_builtin; refine appK _ (by rfl) _ _ (by rfl) w0.heap.size p q acc (by rfl) (hown5.alloc _) w5.heap.size 1 (5, s, j) (by rfl) (by rw [HE.out]; exact three8) (by omega) (by simp; omega) ?_)
      intro g3 cap w6 hA
      obtain ⟨hown6, hbel⟩ := hA
      have B6 := hbel w.heap.size w (Nat.le_of_lt E0.lt) (ball B5)
      have hb6 := hbel w0.heap.size w0 (Nat.le_refl _) (hb5.alloc hzs _)
      have E6 := E0.next hb6
      clear hbel hown5 hb5 B5 E5 x0 x1 y0 y1 y2 HE hzs
      have hlen : (acc ++ [(5, s, j)]).length = acc.length + 1 := by simp
      have HLEN := Lib.hid hlen
      have hne : acc ++ [(5, s, j)] ≠ [] := by simp
      have HNE := Lib.hid hne
      clear hlen hne
      generalize acc ++ [(5, s, j)] = acc1 at *
      have H6 := Lib.hid (H0.out.below hb6)
      by_cases h44 : l[k]? = some 44
      · have hlt : k < l.length := (List.getElem?_eq_some_iff.1 h44).1
        have HF : Hid (recA (.beg []) i (l.drop i) = recA (.beg acc1) (k + 1) (l.drop (k + 1))) := Lib.hid (HK.out.trans (aft_at_comma acc1 h44))
        obtain ⟨ad, ha⟩ : ∃ ad, a = some ad := by
          obtain ⟨ad, e, _⟩ := H0.out k _ h44
          exact ⟨ad, e⟩
        subst ha
        have hcell : w6.cell? (ad.add k) = some (.int .u8 44) := by
          have := bytesAt_cell H6.out k hlt
          rwa [(List.getElem?_eq_some_iff.1 h44).2] at this
        clear h44 HK HEN
        go_wp2_with fail
        refine ⟨⟨acc1, k + 1, some ⟨g3, 0, none⟩, cap, by rw [HLEN.out], by simp, by rw [HLEN.out]; omega, by omega, Lib.hid (Or.inr HNE.out), HF, hown6, hb6⟩, by simp [intN]; omega⟩
      · have hcall2 := Lib.hid (HEN.out k w6 H6.out hkl h44)
        clear HEN
        by_cases hlt : k < l.length
        · obtain ⟨ad, ha⟩ : ∃ ad, a = some ad := by
            obtain ⟨ad, e, _⟩ := H0.out k (l[k]'hlt) (List.getElem?_eq_getElem hlt)
            exact ⟨ad, e⟩
          subst ha
          have hcell := bytesAt_cell H6.out k hlt
          rw [List.getElem?_eq_getElem hlt] at h44
          generalize l[k]'hlt = b at *
          have hn44 : (((b.toNat : Nat) : Int) != 44) = true := bne_of (fun e => h44 (by rw [(byte_is (c := b) (k := 44) (by decide)).1 e]; rfl))
          clear h44
          generalize b.toNat = u at *
          go_wp2_with fail
          clear hcell hn44
          refine hcall2.out.mono ?_
          rintro e w7 ⟨⟨v, rfl, hv⟩, hb7⟩
          have E7 := E6.next hb7
          have B7 := below_next B6 hb7
          have hown7 := own_next hown6 hb7
          clear hcall2 hb7 B6 E6 hown6 hb6 H6
          rcases hv with ⟨n, rfl, hkn, hnl, hkn2, hrec⟩ | ⟨x, rfl, hrec⟩
          · have HF : Hid (recA (.beg []) i (l.drop i) = (recA (.beg []) n (l.drop n)).pre [acc1]) := Lib.hid (HK.out.trans (hrec acc1))
            have hin : i < n := by omega
            clear hrec HK
            go_upto_region 8 with fail
            generalize hw8 : w7.alloc _ = w8
            have B8 : Below w.heap.size w w8 := hw8 ▸ ball B7
            have E8 : ErrAt w8 w.heap.size := hw8 ▸ E7.next (ball (Below.refl _ _))
            have hown8 : w8.ownsRow w0.heap.size 34 3 (.slice (some ⟨g3, 0, none⟩) acc1.length cap) acc1.length (acc1.flatMap cellsK) := hw8 ▸ hown7.alloc _
            have x0 : w8.cell? ⟨w7.heap.size, 0, none⟩ = some (.int .i64 0) := by subst hw8; simp [go_sem]
            have e0 := E8.c0
            have e1 := E8.c1
            have ef := E8.fz
            have hlt3 : w.heap.size < w0.heap.size := E0.lt
            have hw0le := B0.size
            clear hw8 B7 E7 hown7
            generalize w7.heap.size = X at *
            go_wp2_with fail
            generalize hw9 : (World.setCell _ _ _).setCell _ _ = w9
            obtain ⟨s0, s1, B9⟩ := err_plain E8 B8 (Nat.le_refl _) hw9
            have hown9 : w9.ownsRow w0.heap.size 34 3 (.slice (some ⟨g3, 0, none⟩) acc1.length cap) acc1.length (acc1.flatMap cellsK) := by
              subst hw9
              exact ownsRow_setCell_below (ownsRow_setCell_below hown8 hlt3 _) hlt3 _
            clear hw9 e0 e1 ef x0 B8 E8 hown8
            exact bodyPost_ret (v := .tuple #[.slice (some ⟨g3, 0, none⟩) (acc.length + 1) cap, .int .i64 (n : Int), .agg #[.int .i64 0, .int .i64 0]]) (by simp [results, Tryd.results16, go_sem, s0, s1]) rfl ⟨Or.inl ⟨acc1, n, _, cap, by rw [HLEN.out], hin, hnl, by rw [HLEN.out]; omega, ownsRow_le8 hown9 hw0le, HF.out⟩, B9⟩
          · have HF : Hid (recA (.beg []) i (l.drop i) = .bad 1 x) := Lib.hid (HK.out.trans (hrec acc1))
            clear hrec HK
            go_upto_region 8 with fail
            generalize hw8 : w7.alloc _ = w8
            have B8 : Below w.heap.size w w8 := hw8 ▸ ball B7
            have E8 : ErrAt w8 w.heap.size := hw8 ▸ E7.next (ball (Below.refl _ _))
            have x0 : w8.cell? ⟨w7.heap.size, 0, none⟩ = some (.int .i64 1) := by subst hw8; simp [go_sem]
            have x1 : w8.cell? ⟨w7.heap.size, 1, none⟩ = some (.int .i64 (x : Int)) := by subst hw8; simp [go_sem]
            have n1 : w7.heap.size ≠ w.heap.size := by have := E7.lt; omega
            have n2 : w.heap.size ≠ w7.heap.size := fun e => n1 e.symm
            have e0 := E8.c0
            have e1 := E8.c1
            have ef := E8.fz
            clear hw8 B7 E7 hown7
            generalize w7.heap.size = X at *
            go_wp2_with fail
            go_region
            generalize hw9 : World.drew _ = w9
            obtain ⟨s0, s1, B9⟩ := err_any E8 B8 (Nat.le_refl _) hw9
            clear hw9 e0 e1 ef x0 x1 n1 n2 B8 E8
            go_wp2_with fail
            exact bodyPost_ret (v := .tuple #[.slice none 0 0, .int .i64 0, .agg #[.int .i64 1, .int .i64 (x : Int)]]) (by simp [results, Tryd.results16, go_sem, s0, s1]) rfl ⟨Or.inr ⟨1, x, rfl, by decide, HF.out⟩, B9⟩
        · have hke : ((k : Int) == (l.length : Int)) = true := by rw [beq_iff_eq]; omega
          clear h44
          go_wp2_with fail
          refine hcall2.out.mono ?_
          rintro e w7 ⟨⟨v, rfl, hv⟩, hb7⟩
          have E7 := E6.next hb7
          have B7 := below_next B6 hb7
          have hown7 := own_next hown6 hb7
          clear hcall2 hb7 B6 E6 hown6 hb6 H6
          rcases hv with ⟨n, rfl, hkn, hnl, hkn2, hrec⟩ | ⟨x, rfl, hrec⟩
          · have HF : Hid (recA (.beg []) i (l.drop i) = (recA (.beg []) n (l.drop n)).pre [acc1]) := Lib.hid (HK.out.trans (hrec acc1))
            have hin : i < n := by omega
            clear hrec HK
            go_upto_region 8 with fail
            generalize hw8 : w7.alloc _ = w8
            have B8 : Below w.heap.size w w8 := hw8 ▸ ball B7
            have E8 : ErrAt w8 w.heap.size := hw8 ▸ E7.next (ball (Below.refl _ _))
            have hown8 : w8.ownsRow w0.heap.size 34 3 (.slice (some ⟨g3, 0, none⟩) acc1.length cap) acc1.length (acc1.flatMap cellsK) := hw8 ▸ hown7.alloc _
            have x0 : w8.cell? ⟨w7.heap.size, 0, none⟩ = some (.int .i64 0) := by subst hw8; simp [go_sem]
            have e0 := E8.c0
            have e1 := E8.c1
            have ef := E8.fz
            have hlt3 : w.heap.size < w0.heap.size := E0.lt
            have hw0le := B0.size
            clear hw8 B7 E7 hown7
            generalize w7.heap.size = X at *
            go_wp2_with fail
            generalize hw9 : (World.setCell _ _ _).setCell _ _ = w9
            obtain ⟨s0, s1, B9⟩ := err_plain E8 B8 (Nat.le_refl _) hw9
            have hown9 : w9.ownsRow w0.heap.size 34 3 (.slice (some ⟨g3, 0, none⟩) acc1.length cap) acc1.length (acc1.flatMap cellsK) := by
              subst hw9
              exact ownsRow_setCell_below (ownsRow_setCell_below hown8 hlt3 _) hlt3 _
            clear hw9 e0 e1 ef x0 B8 E8 hown8
            exact bodyPost_ret (v := .tuple #[.slice (some ⟨g3, 0, none⟩) (acc.length + 1) cap, .int .i64 (n : Int), .agg #[.int .i64 0, .int .i64 0]]) (by simp [results, Tryd.results16, go_sem, s0, s1]) rfl ⟨Or.inl ⟨acc1, n, _, cap, by rw [HLEN.out], hin, hnl, by rw [HLEN.out]; omega, ownsRow_le8 hown9 hw0le, HF.out⟩, B9⟩
          · have HF : Hid (recA (.beg []) i (l.drop i) = .bad 1 x) := Lib.hid (HK.out.trans (hrec acc1))
            clear hrec HK
            go_upto_region 8 with fail
            generalize hw8 : w7.alloc _ = w8
            have B8 : Below w.heap.size w w8 := hw8 ▸ ball B7
            have E8 : ErrAt w8 w.heap.size := hw8 ▸ E7.next (ball (Below.refl _ _))
            have x0 : w8.cell? ⟨w7.heap.size, 0, none⟩ = some (.int .i64 1) := by subst hw8; simp [go_sem]
            have x1 : w8.cell? ⟨w7.heap.size, 1, none⟩ = some (.int .i64 (x : Int)) := by subst hw8; simp [go_sem]
            have n1 : w7.heap.size ≠ w.heap.size := by have := E7.lt; omega
            have n2 : w.heap.size ≠ w7.heap.size := fun e => n1 e.symm
            have e0 := E8.c0
            have e1 := E8.c1
            have ef := E8.fz
            clear hw8 B7 E7 hown7
            generalize w7.heap.size = X at *
            go_wp2_with fail
            go_region
            generalize hw9 : World.drew _ = w9
            obtain ⟨s0, s1, B9⟩ := err_any E8 B8 (Nat.le_refl _) hw9
            clear hw9 e0 e1 ef x0 x1 n1 n2 B8 E8
            go_wp2_with fail
            exact bodyPost_ret (v := .tuple #[.slice none 0 0, .int .i64 0, .agg #[.int .i64 1, .int .i64 (x : Int)]]) (by simp [results, Tryd.results16, go_sem, s0, s1]) rfl ⟨Or.inr ⟨1, x, rfl, by decide, HF.out⟩, B9⟩
    · have HF : Hid (recA (.beg []) i (l.drop i) = .bad K A) := Lib.hid (hp.out.trans (hrec acc hcr.out))
      have hk := knz hK
      clear hrec hp hcr
      go_upto_region 3 with fail
      generalize hw5 : (w4.alloc _).alloc _ = w5
      have B5 : Below w.heap.size w w5 := hw5 ▸ ball (ball B4)
      have E5 : ErrAt w5 w.heap.size := hw5 ▸ E4.next (ball (ball (Below.refl _ _)))
      have x0 : w5.cell? ⟨w4.heap.size + 1, 0, none⟩ = some (.int .i64 (K : Int)) := by subst hw5; simp [go_sem]
      have x1 : w5.cell? ⟨w4.heap.size + 1, 1, none⟩ = some (.int .i64 (A : Int)) := by subst hw5; simp [go_sem]
      have n1 : w4.heap.size + 1 ≠ w.heap.size := by have := E4.lt; omega
      have n2 : w.heap.size ≠ w4.heap.size + 1 := fun e => n1 e.symm
      have e0 := E5.c0
      have e1 := E5.c1
      have ef := E5.fz
      clear hw5 B4 E4 hown4 hb4' hzs HEN
      generalize w4.heap.size + 1 = X at *
      go_wp2_with fail
      go_region
      generalize hw6 : World.drew _ = w6
      obtain ⟨s0, s1, B6⟩ := err_any E5 B5 (Nat.le_refl _) hw6
      clear hw6 e0 e1 ef x0 x1 n1 n2 B5 E5
      go_wp2_with fail
      exact bodyPost_ret (v := .tuple #[.slice none 0 0, .int .i64 0, .agg #[.int .i64 (K : Int), .int .i64 (A : Int)]]) (by simp [results, Tryd.results16, go_sem, s0, s1]) rfl ⟨Or.inr ⟨K, A, rfl, hK, HF.out⟩, B6⟩
end Go.Proofs.YtcfminkmidaaoaaDoor
