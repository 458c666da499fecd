/- The second writing's field in quotes. -/
import Derived.Test.YtcfminkmidaaoaaDoorVc
namespace Go.Proofs.YtcfminkmidaaoaaDoor
open Go.ChangeShapes Go.WideShapes Go.RowKit Go.Sort
/-- What it hands back. -/
def QuoR (r : (Bs × Nat) ⊕ Nat) : Value :=
  match r with
  | .inl (s, k) => .tuple #[.string (baS s), .int .i64 (k : Int), .int .i64 (-1)]
  | .inr x => .tuple #[.string (baS []), .int .i64 0, .int .i64 (x : Int)]
theorem prt_bounds {b : UInt8} (h : prtB b = true) : ¬ ((b.toNat : Int) < 32) ∧ ¬ ((126 : Int) < (b.toNat : Int)) := by
  rw [prtN_is] at h
  simp at h; omega
theorem prt_bounds_no {b : UInt8} (h : prtB b = false) : ((b.toNat : Int) < 32) ∨ (¬ ((b.toNat : Int) < 32) ∧ (126 : Int) < (b.toNat : Int)) := by
  rw [prtN_is] at h
  simp at h; omega
set_option maxHeartbeats 16000000 in
set_option maxRecDepth 100000 in
theorem quotedR_x (l : Bs) (ad : Addr) (c i : Nat) (w : World) (h : BytesAt w (some ad) l) (hl : l.length ≤ 1000000) (hi : i ≤ l.length) :
    Calls Tryd.prog 26 #[.slice (some ad) l.length c, .int .i64 (i : Int)] w fun e w' => e = .returned (QuoR (qG [] (l.drop i) i)) ∧ Below w.heap.size w w' := by
  have HH := Lib.hid h
  clear h
  go_enter Tryd.func26, Tryd.ntmps26
  go_wp2_with fail
  go_loopw [7, 1] (fun sv iv wr => ∃ (acc : Bs) (j : Nat) (p : Option Addr) (q : Nat), sv = .slice p acc.length q ∧ iv = .int .i64 (j : Int) ∧ acc.length ≤ j ∧ j ≤ l.length ∧ Hid (qG [] (l.drop i) i = qG acc (l.drop j) j) ∧ wr.ownsRow w.heap.size 5 1 (.slice p acc.length q) acc.length (cellsB acc) ∧ Below w.heap.size w wr) (fun _ iv _ => l.length + 1 - intN iv)
  case atStart => exact ⟨[], i, none, 0, rfl, rfl, Nat.zero_le _, hi, Lib.hid rfl, World.ownsRow_nil _ _ _ _, Below.refl _ _⟩
  case round =>
    obtain ⟨acc, j, p, q, rfl, rfl, haj, hjl, hp, hown, hb⟩ := hrel
    have hzs := hb.size
    have hv := conv_bytes q (bytes_own hown)
    by_cases hlt : j < l.length
    · have hcell := bytesAt_cell (HH.out.below hb) j hlt
      have hget := Lib.hid (List.getElem?_eq_getElem hlt)
      generalize l[j]'hlt = b at *
      by_cases hq : b = 34
      · subst hq
        have hpre : IntKind.i64.wrap ((j : Int) + 1) = ((j + 1 : Nat) : Int) := by rw [IntKind.wrap_i64]; omega
        have hjj : j < j + 1 := Nat.lt_succ_self _
        by_cases hlt1 : j + 1 < l.length
        · have hcell1 := bytesAt_cell (HH.out.below hb) (j + 1) hlt1
          have hget1 := Lib.hid (List.getElem?_eq_getElem hlt1)
          generalize l[j + 1]'hlt1 = d at *
          by_cases hd : d = 34
          · subst hd
            have HF : Hid (qG [] (l.drop i) i = qG (acc ++ [34]) (l.drop (j + 1 + 1)) (j + 1 + 1)) := Lib.hid (by rw [hp.out, q_dbl hget.out hget1.out])
            have hpre2 : IntKind.i64.wrap ((j : Int) + 2) = ((j + 1 + 1 : Nat) : Int) := by rw [IntKind.wrap_i64]; omega
            have hacc2 : acc.length ≤ j + 1 := by omega
            clear hget hget1 hp hv
            generalize j + 1 = j1 at *
            go_wp2_with (at_builtin; refine app1 _ (by rfl) _ _ (by rfl) w.heap.size p q acc (by rfl) (hown.alloc _) wr.heap.size 1 _ 34 rfl (by rfl) (by simp [go_sem]) (by omega) (by simp; omega) ?_)
            intro g3 cap w4 hA
            obtain ⟨hown4, hbel⟩ := hA
            have B4 := hbel _ _ (Nat.le_refl _) (ball hb)
            clear hbel hown hb
            go_wp2
            refine ⟨⟨acc ++ [34], j1 + 1, some ⟨g3, 0, none⟩, cap, by simp, by simp, by simp; omega, by omega, HF, by simpa using hown4, B4⟩, by simp [intN]; omega⟩
          · have HF := Lib.hid (hp.out.trans (q_close hget.out (by rw [hget1.out]; simpa using hd)))
            have hd34 : ¬ ((d.toNat : Int) = 34) := fun e => hd ((byte_is (c := d) (k := 34) (by decide)).1 e)
            clear hget hget1 hp hd
            generalize d.toNat = u at *
            generalize j + 1 = j1 at *
            go_wp2_with fail
            go_ret3
            exact ⟨by rw [HF.out]; rfl, hb⟩
        · have hend : ¬ (((j + 1 : Nat) : Int) < (l.length : Int)) := by omega
          have HF := Lib.hid (hp.out.trans (q_close hget.out (by rw [List.getElem?_eq_none (by omega)]; simp)))
          clear hget hp
          generalize j + 1 = j1 at *
          go_wp2_with fail
          go_ret3
          exact ⟨by rw [HF.out]; rfl, hb⟩
      · have hq34 : ¬ ((b.toNat : Int) = 34) := fun e => hq ((byte_is (c := b) (k := 34) (by decide)).1 e)
        have HT := Lib.hid (q_go (acc := acc) hget.out hq)
        have hk := qok_is b
        by_cases hok : qokB b = true
        · have HF : Hid (qG [] (l.drop i) i = qG (acc ++ [b]) (l.drop (j + 1)) (j + 1)) := Lib.hid (by rw [hp.out, HT.out, if_pos hok])
          rw [hok] at hk
          have hks := hk.symm
          have hcases : ((b.toNat : Int) = 10) ∨ ((b.toNat : Int) = 13) ∨ ((((b.toNat : Nat) : Int) != 10) = true ∧ (((b.toNat : Nat) : Int) != 13) = true ∧ ¬ ((b.toNat : Int) < 32) ∧ ¬ ((126 : Int) < (b.toNat : Int))) := by
            by_cases h10 : (b.toNat : Int) = 10
            · exact Or.inl h10
            · by_cases h13 : (b.toNat : Int) = 13
              · exact Or.inr (Or.inl h13)
              · refine Or.inr (Or.inr ⟨bne_of h10, bne_of h13, prt_bounds ?_⟩)
                simpa [h10, h13] using hks
          clear hk hok hp HT hget hq hks hv
          generalize hu : b.toNat = u at hcell hq34 hcases
          have HU2 := Lib.hid hu
          clear hu
          rcases hcases with h10 | h13 | ⟨k10, k13, k32, k126⟩
          · obtain rfl : u = 10 := by omega
            clear h10
            go_wp2_with (at_builtin; refine app1 _ (by rfl) _ _ (by rfl) w.heap.size p q acc (by rfl) (hown.alloc _) wr.heap.size 1 _ b (by rw [HU2.out]; try rfl) (by rfl) (by simp [go_sem]) (by omega) (by simp; omega) ?_)
            intro g3 cap w4 hA
            obtain ⟨hown4, hbel⟩ := hA
            have B4 := hbel _ _ (Nat.le_refl _) (ball hb)
            clear hbel hown hb
            go_wp2
            refine ⟨⟨acc ++ [b], j + 1, some ⟨g3, 0, none⟩, cap, by simp, by simp, by simp; omega, by omega, HF, by simpa using hown4, B4⟩, by simp [intN]; omega⟩
          · obtain rfl : u = 13 := by omega
            clear h13
            go_wp2_with (at_builtin; refine app1 _ (by rfl) _ _ (by rfl) w.heap.size p q acc (by rfl) (hown.alloc _) wr.heap.size 1 _ b (by rw [HU2.out]; try rfl) (by rfl) (by simp [go_sem]) (by omega) (by simp; omega) ?_)
            intro g3 cap w4 hA
            obtain ⟨hown4, hbel⟩ := hA
            have B4 := hbel _ _ (Nat.le_refl _) (ball hb)
            clear hbel hown hb
            go_wp2
            refine ⟨⟨acc ++ [b], j + 1, some ⟨g3, 0, none⟩, cap, by simp, by simp, by simp; omega, by omega, HF, by simpa using hown4, B4⟩, by simp [intN]; omega⟩
          · go_wp2_with (at_builtin; refine app1 _ (by rfl) _ _ (by rfl) w.heap.size p q acc (by rfl) (hown.alloc _) wr.heap.size 1 _ b (by rw [HU2.out]; try rfl) (by rfl) (by simp [go_sem]) (by omega) (by simp; omega) ?_)
            intro g3 cap w4 hA
            obtain ⟨hown4, hbel⟩ := hA
            have B4 := hbel _ _ (Nat.le_refl _) (ball hb)
            clear hbel hown hb
            go_wp2
            refine ⟨⟨acc ++ [b], j + 1, some ⟨g3, 0, none⟩, cap, by simp, by simp, by simp; omega, by omega, HF, by simpa using hown4, B4⟩, by simp [intN]; omega⟩
        · have HF : Hid (qG [] (l.drop i) i = .inr j) := Lib.hid (by rw [hp.out, HT.out, if_neg hok])
          rw [show qokB b = false by simpa using hok] at hk
          have hks := hk.symm
          rw [Bool.or_eq_false_iff, Bool.or_eq_false_iff] at hks
          obtain ⟨⟨hb1, hb2⟩, hb3⟩ := hks
          have hn10 : (((b.toNat : Nat) : Int) != 10) = true := by rw [bne_iff_ne]; simpa using hb2
          have hn13 : (((b.toNat : Nat) : Int) != 13) = true := by rw [bne_iff_ne]; simpa using hb3
          have hbd := prt_bounds_no hb1
          clear hk hok hp HT hb1 hb2 hb3 hget hq hv
          generalize b.toNat = u at *
          rcases hbd with h32 | ⟨h32, h126⟩
          · go_wp2_with fail
            go_ret3
            exact ⟨by rw [HF.out]; rfl, hb⟩
          · go_wp2_with fail
            go_ret3
            exact ⟨by rw [HF.out]; rfl, hb⟩
    · have HF : Hid (qG [] (l.drop i) i = .inr l.length) := Lib.hid (by rw [hp.out, show j = l.length by omega, q_end])
      have hjn : ¬ ((j : Int) < (l.length : Int)) := by omega
      clear hp hv
      go_wp2_with fail
      go_ret3
      exact ⟨by rw [HF.out]; rfl, hb⟩
end Go.Proofs.YtcfminkmidaaoaaDoor
