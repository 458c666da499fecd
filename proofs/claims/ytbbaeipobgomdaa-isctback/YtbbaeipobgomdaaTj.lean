/- Texts put in quotes: the second writing's Quote. -/
import Derived.Test.YtbbaeipobgomdaaTi
namespace Go.Proofs.Ytbbaeipobgomdaa
open Go.ChangeShapes Go.WideShapes Go.RowKit Go.Sort
theorem prt_bounds {b : UInt8} (h : prtB b = true) : 32 ≤ (b.toNat : Int) ∧ (b.toNat : Int) ≤ 126 := by rw [prtN_is] at h; simpa using h
theorem prt_out {b : UInt8} (h : prtB b = false) : (b.toNat : Int) < 32 ∨ (32 ≤ (b.toNat : Int) ∧ 126 < (b.toNat : Int)) := by rw [prtN_is] at h; simp at h; omega
theorem esc_yes {b : UInt8} (h : escB b = true) : b = 34 ∨ b = 92 := by simpa [escB] using h
theorem esc_no {b : UInt8} (h : escB b = false) : ((b.toNat : Int) == 34) = false ∧ ((b.toNat : Int) == 92) = false := by
  rw [escN_is] at h; simpa using h
set_option maxHeartbeats 8000000 in
set_option maxRecDepth 100000 in
theorem quoteR_x (l : Bs) (w : World) (hl : l.length ≤ 400000) :
    Calls Try.prog 13 #[.string (baS l)] w fun e w' => e = .returned (.string (baS (quoteV l))) ∧ Below w.heap.size w w' := by
  have HS := Lib.hid (str_at l)
  have hsz := baS_size l
  generalize baS l = S at *
  go_enter Try.func13, Try.ntmps13
  go_wp2_with fail
  have HO := one_own w w.heap.size 34 (Nat.le_refl _)
  go_loopw [3, 4] (fun sv iv wr => ∃ (acc : Bs) (j : Nat) (p : Option Addr) (q : Nat), sv = .slice p acc.length q ∧ iv = .int .i64 (j : Int) ∧ acc.length ≤ 1 + 2 * j ∧ j ≤ l.length ∧ Hid (acc = 34 :: bodyQ (l.take j)) ∧ wr.ownsRow w.heap.size 5 1 (.slice p acc.length q) acc.length (cellsB acc) ∧ Below w.heap.size w wr) (fun _ iv _ => l.length + 1 - intN iv)
  case atStart => exact ⟨[34], 0, some ⟨w.heap.size, 0, none⟩, 1, rfl, rfl, by simp, Nat.zero_le _, Lib.hid rfl, HO, ball (Below.refl _ _)⟩
  case round =>
    obtain ⟨acc, j, p, q, rfl, rfl, haj, hjl, hp, hown, hb⟩ := hrel
    clear HO
    have hzs := hb.size
    by_cases hlt : j < l.length
    · have hx := fun V => HS.out j hlt V
      have HT := Lib.hid (take_snoc8 (List.getElem?_eq_getElem hlt))
      generalize l[j]'hlt = b at *
      have HU := Lib.hid (rfl : (b.toNat : Int) = (b.toNat : Int))
      by_cases he : escB b = true
      · have HF : Hid (acc ++ [92] ++ [b] = 34 :: bodyQ (l.take (j + 1))) := Lib.hid (by rw [hp.out, HT.out, bodyQ_snoc, add_esc he]; simp)
        clear HT hp HS HU
        rcases esc_yes he with rfl | rfl
        · clear he
          go_wp2_with (at_builtin; refine app1 _ (by rfl) _ _ (by rfl) w.heap.size p q acc (by rfl) (hown.alloc _) wr.heap.size 1 _ 92 rfl (by rfl) (by simp [go_sem]) (by omega) (by simp; omega) ?_)
          intro g3 cap w4 hA
          obtain ⟨hown4, hbel⟩ := hA
          have B4 := hbel _ _ (Nat.le_refl _) (ball hb)
          have hzs4 := B4.size
          clear hbel hown hb hzs
          have HL : Hid (List.length (acc ++ [(92 : UInt8)]) = acc.length + 1) := Lib.hid (by simp)
          go_wp2_with (at_builtin; refine app1 _ (by rfl) _ _ (by rfl) w.heap.size (some ⟨g3, 0, none⟩) cap (acc ++ [92]) (by rw [HL.out]; rfl) (hown4.alloc _) w4.heap.size 1 _ 34 rfl (by rfl) (by simp [go_sem]) (by rw [HL.out]; omega) (by simp; omega) ?_)
          intro g5 cap5 w5 hA
          obtain ⟨hown5, hbel⟩ := hA
          have B5 := hbel _ _ (Nat.le_refl _) (ball B4)
          clear hbel hown4 B4
          go_wp2
          exact ⟨⟨acc ++ [92] ++ [34], j + 1, some ⟨g5, 0, none⟩, cap5, by simp, by simp, by simp; omega, by omega, HF, by simpa using hown5, B5⟩, by simp [intN]; omega⟩
        · clear he
          go_wp2_with (at_builtin; refine app1 _ (by rfl) _ _ (by rfl) w.heap.size p q acc (by rfl) (hown.alloc _) wr.heap.size 1 _ 92 rfl (by rfl) (by simp [go_sem]) (by omega) (by simp; omega) ?_)
          intro g3 cap w4 hA
          obtain ⟨hown4, hbel⟩ := hA
          have B4 := hbel _ _ (Nat.le_refl _) (ball hb)
          have hzs4 := B4.size
          clear hbel hown hb hzs
          have HL : Hid (List.length (acc ++ [(92 : UInt8)]) = acc.length + 1) := Lib.hid (by simp)
          go_wp2_with (at_builtin; refine app1 _ (by rfl) _ _ (by rfl) w.heap.size (some ⟨g3, 0, none⟩) cap (acc ++ [92]) (by rw [HL.out]; rfl) (hown4.alloc _) w4.heap.size 1 _ 92 rfl (by rfl) (by simp [go_sem]) (by rw [HL.out]; omega) (by simp; omega) ?_)
          intro g5 cap5 w5 hA
          obtain ⟨hown5, hbel⟩ := hA
          have B5 := hbel _ _ (Nat.le_refl _) (ball B4)
          clear hbel hown4 B4
          go_wp2
          exact ⟨⟨acc ++ [92] ++ [92], j + 1, some ⟨g5, 0, none⟩, cap5, by simp, by simp, by simp; omega, by omega, HF, by simpa using hown5, B5⟩, by simp [intN]; omega⟩
      · have he : escB b = false := by simpa using he
        by_cases hpr : prtB b = true
        · have HF : Hid (acc ++ [b] = 34 :: bodyQ (l.take (j + 1))) := Lib.hid (by rw [hp.out, HT.out, bodyQ_snoc, add_prt he hpr]; simp)
          obtain ⟨p1, p2⟩ := prt_bounds hpr
          obtain ⟨q1, q2⟩ := esc_no he
          clear HT he hp HS hpr
          generalize hu : b.toNat = u at hx p1 p2 q1 q2
          have HU2 := Lib.hid hu
          clear hu HU
          go_wp2_with (at_builtin; refine app1 _ (by rfl) _ _ (by rfl) w.heap.size p q acc (by rfl) (hown.alloc _) wr.heap.size 1 _ b (by rw [HU2.out]) (by rfl) (by simp [go_sem]) (by omega) (by simp; omega) ?_)
          intro g5 cap5 w5 hA
          obtain ⟨hown5, hbel⟩ := hA
          have B5 := hbel _ _ (Nat.le_refl _) (ball hb)
          clear hbel hown hb
          go_wp2
          exact ⟨⟨acc ++ [b], j + 1, some ⟨g5, 0, none⟩, cap5, by simp, by simp, by simp; omega, by omega, HF, by simpa using hown5, B5⟩, by simp [intN]; omega⟩
        · have hpr : prtB b = false := by simpa using hpr
          have HF : Hid (acc = 34 :: bodyQ (l.take (j + 1))) := Lib.hid (by rw [hp.out, HT.out, bodyQ_snoc, add_none hpr]; simp)
          have hn := prt_out hpr
          clear HT he hp HS hpr HU
          generalize b.toNat = u at *
          rcases hn with hn | ⟨hn, hn2⟩
          all_goals go_wp2
          all_goals exact ⟨⟨acc, j + 1, p, q, rfl, by simp, by omega, by omega, HF, hown, hb⟩, by simp [intN]; omega⟩
    · have HF : Hid (acc ++ [34] = quoteV l) := Lib.hid (by rw [hp.out, show j = l.length by omega, List.take_length]; rfl)
      obtain rfl : j = l.length := by omega
      clear hp HS
      go_wp2_with (at_builtin; refine app1 _ (by rfl) _ _ (by rfl) w.heap.size p q acc (by rfl) (hown.alloc _) wr.heap.size 1 _ 34 rfl (by rfl) (by simp [go_sem]) (by omega) (by simp; omega) ?_)
      intro g5 cap5 w5 hA
      obtain ⟨hown5, hbel⟩ := hA
      have B5 := hbel _ _ (Nat.le_refl _) (ball hb)
      have hv := conv_bytes cap5 (bytes_own hown5)
      rw [show List.length (acc ++ [(34 : UInt8)]) = acc.length + 1 by simp, HF.out] at hv
      clear hbel hown hb
      go_wp2
      go_ret
      exact ⟨rfl, B5⟩
end Go.Proofs.Ytbbaeipobgomdaa
