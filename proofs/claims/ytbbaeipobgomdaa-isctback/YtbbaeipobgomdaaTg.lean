/- The second writing's text: what a text stands for. -/
import Derived.Test.YtbbaeipobgomdaaTe
namespace Go.Proofs.Ytbbaeipobgomdaa
open Go.ChangeShapes Go.WideShapes Go.RowKit Go.Sort
/-- What it hands back. -/
def TextR (r : (Bs × Nat) ⊕ Nat) : Value :=
  match r with
  | .inl (s, k) => .tuple #[.string (baS s), .int .i64 (k : Int), .int .i64 (-1)]
  | .inr x => .tuple #[.string (baS []), .int .i64 0, .int .i64 (x : Int)]
theorem prt_yes {b : UInt8} (h : prtB b = true) : 32 ≤ (b.toNat : Int) ∧ (b.toNat : Int) ≤ 126 := by rw [prtN_is] at h; simpa using h
theorem prt_no {b : UInt8} (h : ¬ prtB b = true) : (b.toNat : Int) < 32 ∨ (32 ≤ (b.toNat : Int) ∧ 126 < (b.toNat : Int)) := by rw [prtN_is] at h; simp at h; omega
set_option maxHeartbeats 8000000 in
set_option maxRecDepth 100000 in
theorem textR_x (l : Bs) (ad : Addr) (c i : Nat) (w : World) (h : BytesAt w (some ad) l) (hl : l.length ≤ 1000000) (hi : i ≤ l.length) :
    Calls Try.prog 18 #[.slice (some ad) l.length c, .int .i64 (i : Int)] w fun e w' => e = .returned (TextR (txtG [] (l.drop i) i)) ∧ Below w.heap.size w w' := by
  have H0 := Lib.hid h
  clear h
  go_enter Try.func18, Try.ntmps18
  go_wp2_with fail
  go_loopw [1, 7] (fun iv sv wr => ∃ (acc : Bs) (j : Nat) (p : Option Addr) (q : Nat), sv = .slice p acc.length q ∧ iv = .int .i64 (j : Int) ∧ acc.length ≤ j ∧ j ≤ l.length ∧ Hid (txtG [] (l.drop i) i = txtG acc (l.drop j) j) ∧ wr.ownsRow w.heap.size 5 1 (.slice p acc.length q) acc.length (cellsB acc) ∧ Below w.heap.size w wr) (fun iv _ _ => l.length + 1 - intN iv)
  case atStart => exact ⟨[], i, none, 0, rfl, rfl, Nat.zero_le _, hi, Lib.hid rfl, World.ownsRow_nil _ _ _ _, Below.refl _ _⟩
  case round =>
    obtain ⟨acc, j, p, q, rfl, rfl, haj, hjl, hp, hown, hb⟩ := hrel
    have hzs := hb.size
    have hv := conv_bytes q (bytes_own hown)
    by_cases hlt : j < l.length
    · have hcell := bytesAt_cell (H0.out.below hb) j hlt
      have hget := Lib.hid (List.getElem?_eq_getElem hlt)
      generalize l[j]'hlt = b at *
      by_cases hq : b = 34
      · subst hq
        have HF := Lib.hid (hp.out.trans (t_quote hget.out))
        clear hget hp
        go_wp2_with fail
        go_ret3
        exact ⟨by rw [HF.out]; rfl, hb⟩
      · have hq34 : ¬ ((b.toNat : Int) = 34) := fun e => hq ((byte_is (c := b) (k := 34) (by decide)).1 e)
        by_cases h92 : b = 92
        · subst h92
          by_cases hend : j + 1 = l.length
          · have HF := Lib.hid (hp.out.trans (t_esc_end hget.out hend))
            clear hget hp
            go_wp2_with fail
            go_ret3
            exact ⟨by rw [HF.out]; rfl, hb⟩
          · have hlt1 : j + 1 < l.length := by omega
            have hcell1 := bytesAt_cell (H0.out.below hb) (j + 1) hlt1
            have HT := Lib.hid (t_esc (acc := acc) hget.out (List.getElem?_eq_getElem hlt1))
            have hpre : IntKind.i64.wrap ((j : Int) + 1) = ((j + 1 : Nat) : Int) := by rw [IntKind.wrap_i64]; omega
            generalize l[j + 1]'hlt1 = d at *
            by_cases he : escB d = true
            · have HF : Hid (txtG [] (l.drop i) i = txtG (acc ++ [d]) (l.drop (j + 1 + 1)) (j + 1 + 1)) := Lib.hid (by rw [hp.out, HT.out, if_pos he])
              have hacc2 : acc.length ≤ j + 1 := by omega
              have hjj : j < j + 1 := Nat.lt_succ_self _
              have hd : d = 34 ∨ d = 92 := by simpa [escB] using he
              clear hget hp HT he hend
              generalize j + 1 = j1 at *
              rcases hd with hd | hd
              · subst hd
                go_wp2_with (at_builtin; refine app1 _ (by rfl) _ _ (by rfl) w.heap.size p q acc (by rfl) (hown.alloc _) wr.heap.size 1 _ 34 rfl (by rfl) (by simp [go_sem]) (by omega) (by simp; omega) ?_)
                intro g3 cap w4 hA
                obtain ⟨hown4, hbel⟩ := hA
                have B4 := hbel _ _ (Nat.le_refl _) (ball hb)
                clear hbel hown hb
                go_wp2
                refine ⟨⟨acc ++ [34], j1 + 1, some ⟨g3, 0, none⟩, cap, by simp, by simp, by simp; omega, by omega, HF, by simpa using hown4, B4⟩, by simp [intN]; omega⟩
              · subst hd
                go_wp2_with (at_builtin; refine app1 _ (by rfl) _ _ (by rfl) w.heap.size p q acc (by rfl) (hown.alloc _) wr.heap.size 1 _ 92 rfl (by rfl) (by simp [go_sem]) (by omega) (by simp; omega) ?_)
                intro g3 cap w4 hA
                obtain ⟨hown4, hbel⟩ := hA
                have B4 := hbel _ _ (Nat.le_refl _) (ball hb)
                clear hbel hown hb
                go_wp2
                refine ⟨⟨acc ++ [92], j1 + 1, some ⟨g3, 0, none⟩, cap, by simp, by simp, by simp; omega, by omega, HF, by simpa using hown4, B4⟩, by simp [intN]; omega⟩
            · have HF : Hid (txtG [] (l.drop i) i = .inr (j + 1)) := Lib.hid (by rw [hp.out, HT.out, if_neg he])
              have hd1 : ¬ ((d.toNat : Int) = 34) := fun e => he (by rw [(byte_is (c := d) (k := 34) (by decide)).1 e]; rfl)
              have hd2 : ¬ ((d.toNat : Int) = 92) := fun e => he (by rw [(byte_is (c := d) (k := 92) (by decide)).1 e]; rfl)
              have hd3 : ((d.toNat : Int) != 34) = true := by simpa using hd1
              have hd4 : ((d.toNat : Int) != 92) = true := by simpa using hd2
              clear hget hp HT he hend
              generalize j + 1 = j1 at *
              generalize d.toNat = u at *
              go_wp2_with fail
              go_ret3
              exact ⟨by rw [HF.out]; rfl, hb⟩
        · have hq92 : ¬ ((b.toNat : Int) = 92) := fun e => h92 ((byte_is (c := b) (k := 92) (by decide)).1 e)
          have HT := Lib.hid (t_go (acc := acc) hget.out hq h92)
          clear hget hq h92
          by_cases hd : prtB b = true
          · have HF : Hid (txtG [] (l.drop i) i = txtG (acc ++ [b]) (l.drop (j + 1)) (j + 1)) := Lib.hid (by rw [hp.out, HT.out, if_pos hd])
            obtain ⟨p1, p2⟩ := prt_yes hd
            clear hp HT hd
            generalize hu : b.toNat = u at hcell hq34 hq92 p1 p2
            have HU2 := Lib.hid hu
            clear hu
            go_wp2_with (at_builtin; refine app1 _ (by rfl) _ _ (by rfl) w.heap.size p q acc (by rfl) (hown.alloc _) wr.heap.size 1 _ b (by rw [HU2.out]) (by rfl) (by simp [go_sem]) (by omega) (by simp; omega) ?_)
            intro g3 cap w4 hA
            obtain ⟨hown4, hbel⟩ := hA
            have B4 := hbel _ _ (Nat.le_refl _) (ball hb)
            clear hbel hown hb
            go_wp2
            refine ⟨⟨acc ++ [b], j + 1, some ⟨g3, 0, none⟩, cap, by simp, by simp, by simp; omega, by omega, HF, by simpa using hown4, B4⟩, by simp [intN]; omega⟩
          · have HF : Hid (txtG [] (l.drop i) i = .inr j) := Lib.hid (by rw [hp.out, HT.out, if_neg hd])
            have hn := prt_no hd
            clear hp HT hd
            generalize b.toNat = u at *
            rcases hn with hn | ⟨hn1, hn2⟩
            · go_wp2_with fail
              go_ret3
              exact ⟨by rw [HF.out]; rfl, hb⟩
            · go_wp2_with fail
              go_ret3
              exact ⟨by rw [HF.out]; rfl, hb⟩
    · have HF : Hid (txtG [] (l.drop i) i = .inr l.length) := Lib.hid (by rw [hp.out, show j = l.length by omega, t_end])
      obtain rfl : j = l.length := by omega
      clear hp
      go_wp2_with fail
      go_ret3
      exact ⟨by rw [HF.out]; rfl, hb⟩
end Go.Proofs.Ytbbaeipobgomdaa
