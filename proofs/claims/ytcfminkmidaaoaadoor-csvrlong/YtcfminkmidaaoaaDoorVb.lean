/- Package csvr: a field in quotes. -/
import Derived.Test.YtcfminkmidaaoaaDoorVa
namespace Go.Proofs.YtcfminkmidaaoaaDoor
open Go.ChangeShapes Go.WideShapes Go.RowKit Go.Sort
theorem qok_is (b : UInt8) : qokB b = (prtB b || decide ((b.toNat : Int) = 10) || decide ((b.toNat : Int) = 13)) := by
  have : ∀ n, n < 256 → qokB (UInt8.ofNat n) = (prtB (UInt8.ofNat n) || decide ((n : Int) = 10) || decide ((n : Int) = 13)) := by decide +kernel
  have e := this b.toNat b.toNat_lt
  rwa [show UInt8.ofNat b.toNat = b by simp] at e
set_option maxHeartbeats 8000000 in
set_option maxRecDepth 100000 in
theorem quotedAt_x (l : Bs) (ad : Addr) (c i : Nat) (w : World) (h : BytesAt w (some ad) l) (hl : l.length ≤ 1000000) (hi : i < l.length) :
    Calls Tryd.prog 31 #[.slice (some ad) l.length c, .int .i64 (i : Int)] w fun e w' => e = .returned (TextE (qG [] (l.drop (i + 1)) (i + 1))) ∧ Below w.heap.size w w' := by
  have HH := Lib.hid h
  clear h
  go_enter Tryd.func31, Tryd.ntmps31
  go_upto_region 1 with fail
  generalize hw0 : w.alloc _ = w0
  have B0 : Below w.heap.size w w0 := hw0 ▸ ball (Below.refl _ _)
  have E0 : ErrAt w0 w.heap.size := by subst hw0; exact ⟨by simp [go_sem], by simp [go_sem], fun o => by simp [go_sem], by simp [go_sem]⟩
  clear hw0
  have H0 := Lib.hid (HH.out.below B0)
  clear HH
  go_wp2_with fail
  go_loopw [7, 8] (fun sv iv wr => ∃ (acc : Bs) (j : Nat) (p : Option Addr) (q : Nat), sv = .slice p acc.length q ∧ iv = .int .i64 (j : Int) ∧ acc.length ≤ j ∧ j ≤ l.length ∧ Hid (qG [] (l.drop (i + 1)) (i + 1) = qG acc (l.drop j) j) ∧ wr.ownsRow w0.heap.size 5 1 (.slice p acc.length q) acc.length (cellsB acc) ∧ Below w0.heap.size w0 wr) (fun _ iv _ => l.length + 1 - intN iv)
  case atStart => exact ⟨[], i + 1, none, 0, rfl, rfl, Nat.zero_le _, hi, Lib.hid rfl, World.ownsRow_nil _ _ _ _, Below.refl _ _⟩
  case round =>
    obtain ⟨acc, j, p, q, rfl, rfl, haj, hjl, hp, hown, hb⟩ := hrel
    have hzs := hb.size
    have EW := E0.next hb
    have e0 := EW.c0
    have e1 := EW.c1
    have ef := EW.fz
    have hv := conv_bytes q (bytes_own hown)
    have BB : Below w.heap.size w wr := below_next B0 hb
    by_cases hlt : j < l.length
    · have hcell := bytesAt_cell (H0.out.below hb) j hlt
      have hget := Lib.hid (List.getElem?_eq_getElem hlt)
      generalize l[j]'hlt = b at *
      by_cases hq : b = 34
      · subst hq
        have hpre : IntKind.i64.wrap ((j : Int) + 1) = ((j + 1 : Nat) : Int) := by rw [IntKind.wrap_i64]; omega
        obtain ⟨s0, s1⟩ := errset (x := 0) (y := 0) e0 e1
        by_cases hend : j + 1 = l.length
        · have HF := Lib.hid (hp.out.trans (q_close hget.out (by rw [List.getElem?_eq_none (by omega)]; simp)))
          clear hget hp
          generalize j + 1 = j1 at *
          subst hend
          go_wp2_with fail
          exact bodyPost_ret (v := .tuple #[.string (baS acc), .int .i64 (l.length : Int), .agg #[.int .i64 0, .int .i64 0]]) (by simp [results, Tryd.results31, go_sem, s0, s1]) rfl ⟨by rw [HF.out]; rfl, (BB.setCell (Nat.le_refl _) _).setCell (Nat.le_refl _) _⟩
        · have hlt1 : j + 1 < l.length := by omega
          have hcell1 := bytesAt_cell (H0.out.below hb) (j + 1) hlt1
          have hget1 := Lib.hid (List.getElem?_eq_getElem hlt1)
          have hacc2 : acc.length ≤ j + 1 := by omega
          have hjj : j < j + 1 := Nat.lt_succ_self _
          generalize l[j + 1]'hlt1 = d at *
          by_cases hd : d = 34
          · subst hd
            have HF : Hid (qG [] (l.drop (i + 1)) (i + 1) = qG (acc ++ [34]) (l.drop (j + 1 + 1)) (j + 1 + 1)) := Lib.hid (by rw [hp.out, q_dbl hget.out hget1.out])
            clear hget hget1 hp e0 e1 ef hend s0 s1
            generalize j + 1 = j1 at *
            go_wp2_with (at_builtin; refine app1 _ (by rfl) _ _ (by rfl) w0.heap.size p q acc (by rfl) (hown.alloc _) wr.heap.size 1 _ 34 rfl (by rfl) (by simp [go_sem]) (by omega) (by simp; omega) ?_)
            intro g3 cap w4 hA
            obtain ⟨hown4, hbel⟩ := hA
            have B4 := hbel _ _ (Nat.le_refl _) (ball hb)
            clear hbel hown hb BB
            go_wp2
            refine ⟨⟨acc ++ [34], j1 + 1, some ⟨g3, 0, none⟩, cap, by simp, by simp, by simp; omega, by omega, HF, by simpa using hown4, B4⟩, by simp [intN]; omega⟩
          · have HF := Lib.hid (hp.out.trans (q_close hget.out (by rw [hget1.out]; simpa using hd)))
            have hd34 : ¬ ((d.toNat : Int) = 34) := fun e => hd ((byte_is (c := d) (k := 34) (by decide)).1 e)
            have hd34' : (((d.toNat : Nat) : Int) != 34) = true := bne_iff_ne.2 hd34
            clear hget hget1 hp hend hd hd34
            generalize d.toNat = u at *
            generalize j + 1 = j1 at *
            go_wp2_with fail
            exact bodyPost_ret (v := .tuple #[.string (baS acc), .int .i64 (j1 : Int), .agg #[.int .i64 0, .int .i64 0]]) (by simp [results, Tryd.results31, go_sem, s0, s1]) rfl ⟨by rw [HF.out]; rfl, (BB.setCell (Nat.le_refl _) _).setCell (Nat.le_refl _) _⟩
      · have hq34 : ¬ ((b.toNat : Int) = 34) := fun e => hq ((byte_is (c := b) (k := 34) (by decide)).1 e)
        have HT := Lib.hid (q_go (acc := acc) hget.out hq)
        have HX := Lib.hid (isPlain_x b)
        have hk := qok_is b
        by_cases hok : qokB b = true
        · have HF : Hid (qG [] (l.drop (i + 1)) (i + 1) = qG (acc ++ [b]) (l.drop (j + 1)) (j + 1)) := Lib.hid (by rw [hp.out, HT.out, if_pos hok])
          rw [hok] at hk
          have hks := hk.symm
          clear hk hok hp HT e0 e1 ef hget hq
          generalize hu : b.toNat = u at HX hcell hq34 hks
          have HU2 := Lib.hid hu
          clear hu
          rcases hbb : prtB b with _ | _
          · rw [hbb] at hks HX
            clear hbb
            have hks2 : (u : Int) = 10 ∨ (u : Int) = 13 := by simpa using hks
            clear hks
            rcases hks2 with h10 | h10
            · obtain rfl : u = 10 := by omega
              clear h10
              go_wp2_with fail
              refine (HX.out _).mono ?_
              rintro e w' ⟨rfl, rfl⟩
              clear HX
              go_wp2_with (at_builtin; refine app1 _ (by rfl) _ _ (by rfl) w0.heap.size p q acc (by rfl) (hown.alloc _) w'.heap.size 1 _ b (by rw [HU2.out]) (by rfl) (by simp [go_sem]) (by omega) (by simp; omega) ?_)
              intro g3 cap w4 hA
              obtain ⟨hown4, hbel⟩ := hA
              have B4 := hbel _ _ (Nat.le_refl _) (ball hb)
              clear hbel hown hb BB
              go_wp2
              refine ⟨⟨acc ++ [b], j + 1, some ⟨g3, 0, none⟩, cap, by simp, by simp, by simp; omega, by omega, HF, by simpa using hown4, B4⟩, by simp [intN]; omega⟩
            · obtain rfl : u = 13 := by omega
              clear h10
              go_wp2_with fail
              refine (HX.out _).mono ?_
              rintro e w' ⟨rfl, rfl⟩
              clear HX
              go_wp2_with (at_builtin; refine app1 _ (by rfl) _ _ (by rfl) w0.heap.size p q acc (by rfl) (hown.alloc _) w'.heap.size 1 _ b (by rw [HU2.out]) (by rfl) (by simp [go_sem]) (by omega) (by simp; omega) ?_)
              intro g3 cap w4 hA
              obtain ⟨hown4, hbel⟩ := hA
              have B4 := hbel _ _ (Nat.le_refl _) (ball hb)
              clear hbel hown hb BB
              go_wp2
              refine ⟨⟨acc ++ [b], j + 1, some ⟨g3, 0, none⟩, cap, by simp, by simp, by simp; omega, by omega, HF, by simpa using hown4, B4⟩, by simp [intN]; omega⟩
          · rw [hbb] at HX
            clear hbb hks
            go_wp2_with fail
            refine (HX.out _).mono ?_
            rintro e w' ⟨rfl, rfl⟩
            clear HX
            go_wp2_with (at_builtin; refine app1 _ (by rfl) _ _ (by rfl) w0.heap.size p q acc (by rfl) (hown.alloc _) w'.heap.size 1 _ b (by rw [HU2.out]) (by rfl) (by simp [go_sem]) (by omega) (by simp; omega) ?_)
            intro g3 cap w4 hA
            obtain ⟨hown4, hbel⟩ := hA
            have B4 := hbel _ _ (Nat.le_refl _) (ball hb)
            clear hbel hown hb BB
            go_wp2
            refine ⟨⟨acc ++ [b], j + 1, some ⟨g3, 0, none⟩, cap, by simp, by simp, by simp; omega, by omega, HF, by simpa using hown4, B4⟩, by simp [intN]; omega⟩
        · have HF : Hid (qG [] (l.drop (i + 1)) (i + 1) = .inr j) := Lib.hid (by rw [hp.out, HT.out, if_neg hok])
          obtain ⟨s0, s1⟩ := errset (x := 1) (y := (j : Int)) e0 e1
          rw [show qokB b = false by simpa using hok] at hk
          have hks := hk.symm
          rw [Bool.or_eq_false_iff, Bool.or_eq_false_iff] at hks
          obtain ⟨⟨hb1, hb2⟩, hb3⟩ := hks
          have hn10 : (((b.toNat : Nat) : Int) != 10) = true := by rw [bne_iff_ne]; simpa using hb2
          have hn13 : (((b.toNat : Nat) : Int) != 13) = true := by rw [bne_iff_ne]; simpa using hb3
          rw [hb1] at HX
          clear hk hok hp HT hb1 hb2 hb3 hget hq
          generalize b.toNat = u at *
          go_wp2_with fail
          refine (HX.out _).mono ?_
          rintro e w' ⟨rfl, rfl⟩
          clear HX
          go_wp2_with fail
          exact bodyPost_ret (v := .tuple #[.string (baS []), .int .i64 0, .agg #[.int .i64 1, .int .i64 (j : Int)]]) (by simp [results, Tryd.results31, go_sem, s0, s1, baS]) rfl ⟨by rw [HF.out]; rfl, (BB.setCell (Nat.le_refl _) _).setCell (Nat.le_refl _) _⟩
    · have HF : Hid (qG [] (l.drop (i + 1)) (i + 1) = .inr l.length) := Lib.hid (by rw [hp.out, show j = l.length by omega, q_end])
      obtain rfl : j = l.length := by omega
      obtain ⟨s0, s1⟩ := errset (x := 1) (y := (l.length : Int)) e0 e1
      clear hp
      go_wp2_with fail
      exact bodyPost_ret (v := .tuple #[.string (baS []), .int .i64 0, .agg #[.int .i64 1, .int .i64 (l.length : Int)]]) (by simp [results, Tryd.results31, go_sem, s0, s1, baS]) rfl ⟨by rw [HF.out]; rfl, (BB.setCell (Nat.le_refl _) _).setCell (Nat.le_refl _) _⟩
end Go.Proofs.YtcfminkmidaaoaaDoor
