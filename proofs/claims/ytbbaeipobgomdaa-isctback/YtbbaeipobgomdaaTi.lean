/- Texts put in quotes: the code's own Quote. -/
import Derived.Test.YtbbaeipobgomdaaTd
import Derived.Laws.OwnMore
namespace Go.Proofs.Ytbbaeipobgomdaa
open Go.ChangeShapes Go.WideShapes Go.RowKit Go.Sort
/-- What one byte of a text adds to it in quotes. -/
def addQ (b : UInt8) : Bs := if prtB b then unitQ b else []
theorem bodyQ_snoc (l : Bs) (b : UInt8) : bodyQ (l ++ [b]) = bodyQ l ++ addQ b := by
  unfold bodyQ addQ
  rw [List.filter_append, List.flatMap_append]
  congr 1
  by_cases h : prtB b = true
  · rw [if_pos h]; simp [h]
  · rw [if_neg h]; simp [h]
theorem bodyQ_len (l : Bs) : (bodyQ l).length ≤ 2 * l.length := by
  induction l with
  | nil => simp [bodyQ]
  | cons a r ih =>
    have : (bodyQ (a :: r)).length ≤ 2 + (bodyQ r).length := by
      unfold bodyQ
      rw [List.filter_cons]
      split
      · rw [List.flatMap_cons, List.length_append]
        have : (unitQ a).length ≤ 2 := by unfold unitQ; split <;> simp
        omega
      · omega
    simp; omega
theorem add_esc {b : UInt8} (h : escB b = true) : addQ b = [92, b] := by
  unfold addQ unitQ; rw [if_pos (esc_prt h), if_pos (by simpa [escB] using h)]
theorem add_prt {b : UInt8} (h : escB b = false) (hp : prtB b = true) : addQ b = [b] := by
  unfold addQ unitQ; rw [if_pos hp, if_neg (by simpa [escB] using h)]
theorem add_none {b : UInt8} (hp : prtB b = false) : addQ b = [] := by
  unfold addQ; rw [if_neg (by simp [hp])]
theorem str_at (l : Bs) (j : Nat) (hj : j < l.length) (w : World) : (Instr.index 9 (.string (baS l)) (.int .i64 (j : Int))).run Try.prog w = .ok (.int .u8 ((l[j]'hj).toNat : Int)) w := by
  rw [run_index_string w 9 (baS l) .i64 (j : Int) Try.underlying9, dif_pos ⟨by omega, by rw [baS_size]; omega⟩]
  rfl
/-- One byte alone. -/
theorem one_own (w : World) (base : Nat) (b : UInt8) (hb : base ≤ w.heap.size) : (w.alloc (.cells #[.int .u8 (b.toNat : Int)] 5)).ownsRow base 5 1 (.slice (some ⟨w.heap.size, 0, none⟩) 1 1) 1 (cellsB [b]) :=
  World.ownsRow_lit w #[.int .u8 (b.toNat : Int)] 1 hb (by decide) (by simp)
set_option maxHeartbeats 8000000 in
set_option maxRecDepth 100000 in
theorem quote_x (l : Bs) (w : World) (hl : l.length ≤ 400000) :
    Calls Try.prog 12 #[.string (baS l)] w fun e w' => e = .returned (.string (baS (quoteV l))) ∧ Below w.heap.size w w' := by
  have HS := Lib.hid (str_at l)
  have hsz := baS_size l
  generalize baS l = S at *
  go_enter Try.func12, Try.ntmps12
  go_wp2_with fail
  have HO := one_own w w.heap.size 34 (Nat.le_refl _)
  go_loopw [3, 8] (fun sv iv wr => ∃ (acc : Bs) (j : Nat) (p : Option Addr) (q : Nat), sv = .slice p acc.length q ∧ iv = .int .i64 (j : Int) ∧ acc.length ≤ 1 + 2 * j ∧ j ≤ l.length ∧ Hid (acc = 34 :: bodyQ (l.take j)) ∧ wr.ownsRow w.heap.size 5 1 (.slice p acc.length q) acc.length (cellsB acc) ∧ Below w.heap.size w wr) (fun _ iv _ => l.length + 1 - intN iv)
  case atStart => exact ⟨[34], 0, some ⟨w.heap.size, 0, none⟩, 1, rfl, rfl, by simp, Nat.zero_le _, Lib.hid rfl, HO, ball (Below.refl _ _)⟩
  case round =>
    obtain ⟨acc, j, p, q, rfl, rfl, haj, hjl, hp, hown, hb⟩ := hrel
    clear HO
    have hzs := hb.size
    by_cases hlt : j < l.length
    · have hx := fun V => HS.out j hlt V
      have HT := Lib.hid (take_snoc8 (List.getElem?_eq_getElem hlt))
      generalize l[j]'hlt = b at *
      have HN := Lib.hid (fun V => needsEscape_x b V)
      have HX := Lib.hid (fun V => inText_x b V)
      have HU := Lib.hid (rfl : (b.toNat : Int) = (b.toNat : Int))
      by_cases he : escB b = true
      · have HF : Hid (acc ++ [92] ++ [b] = 34 :: bodyQ (l.take (j + 1))) := Lib.hid (by rw [hp.out, HT.out, bodyQ_snoc, add_esc he]; simp)
        rw [he] at HN
        rw [esc_prt he] at HX
        clear HT he hp HS
        generalize hu : b.toNat = u at hx HN HX
        have HU2 := Lib.hid hu
        clear hu HU
        go_wp2_with fail
        refine (HN.out _).mono ?_
        rintro e w' ⟨rfl, rfl⟩
        clear HN
        go_wp2_with (at_builtin; refine app1 _ (by rfl) _ _ (by rfl) w.heap.size p q acc (by rfl) (hown.alloc _) w'.heap.size 1 _ 92 rfl (by rfl) (by simp [go_sem]) (by omega) (by simp; omega) ?_)
        intro g3 cap w4 hA
        obtain ⟨hown4, hbel⟩ := hA
        have B4 := hbel _ _ (Nat.le_refl _) (ball hb)
        have hzs4 := B4.size
        clear hbel hown hb hzs
        go_wp2_with fail
        refine (HX.out _).mono ?_
        rintro e w'' ⟨rfl, rfl⟩
        clear HX
        have HL : Hid (List.length (acc ++ [(92 : UInt8)]) = acc.length + 1) := Lib.hid (by simp)
        go_wp2_with (at_builtin; refine app1 _ (by rfl) _ _ (by rfl) w.heap.size (some ⟨g3, 0, none⟩) cap (acc ++ [92]) (by rw [HL.out]; rfl) (hown4.alloc _) w''.heap.size 1 _ b (by rw [HU2.out]) (by rfl) (by simp [go_sem]) (by rw [HL.out]; omega) (by simp; omega) ?_)
        intro g5 cap5 w5 hA
        obtain ⟨hown5, hbel⟩ := hA
        have B5 := hbel _ _ (Nat.le_refl _) (ball B4)
        clear hbel hown4 B4
        go_wp2
        exact ⟨⟨acc ++ [92] ++ [b], j + 1, some ⟨g5, 0, none⟩, cap5, by simp, by simp, by simp; omega, by omega, HF, by simpa using hown5, B5⟩, by simp [intN]; omega⟩
      · have he : escB b = false := by simpa using he
        rw [he] at HN
        by_cases hpr : prtB b = true
        · have HF : Hid (acc ++ [b] = 34 :: bodyQ (l.take (j + 1))) := Lib.hid (by rw [hp.out, HT.out, bodyQ_snoc, add_prt he hpr]; simp)
          rw [hpr] at HX
          clear HT he hp HS hpr
          generalize hu : b.toNat = u at hx HN HX
          have HU2 := Lib.hid hu
          clear hu HU
          go_wp2_with fail
          refine (HN.out _).mono ?_
          rintro e w' ⟨rfl, rfl⟩
          clear HN
          go_wp2_with fail
          refine (HX.out _).mono ?_
          rintro e w'' ⟨rfl, rfl⟩
          clear HX
          go_wp2_with (at_builtin; refine app1 _ (by rfl) _ _ (by rfl) w.heap.size p q acc (by rfl) (hown.alloc _) w''.heap.size 1 _ b (by rw [HU2.out]) (by rfl) (by simp [go_sem]) (by omega) (by simp; omega) ?_)
          intro g5 cap5 w5 hA
          obtain ⟨hown5, hbel⟩ := hA
          have B5 := hbel _ _ (Nat.le_refl _) (ball hb)
          clear hbel hown hb
          go_wp2
          exact ⟨⟨acc ++ [b], j + 1, some ⟨g5, 0, none⟩, cap5, by simp, by simp, by simp; omega, by omega, HF, by simpa using hown5, B5⟩, by simp [intN]; omega⟩
        · have hpr : prtB b = false := by simpa using hpr
          have HF : Hid (acc = 34 :: bodyQ (l.take (j + 1))) := Lib.hid (by rw [hp.out, HT.out, bodyQ_snoc, add_none hpr]; simp)
          rw [hpr] at HX
          clear HT he hp HS hpr HU
          generalize b.toNat = u at *
          go_wp2_with fail
          refine (HN.out _).mono ?_
          rintro e w' ⟨rfl, rfl⟩
          clear HN
          go_wp2_with fail
          refine (HX.out _).mono ?_
          rintro e w'' ⟨rfl, rfl⟩
          clear HX
          go_wp2
          exact ⟨⟨acc, j + 1, p, q, rfl, by simp, by omega, by omega, HF, hown, hb⟩, by simp [intN]; omega⟩
    · have HF : Hid (acc ++ [34] = quoteV l) := Lib.hid (by rw [hp.out, show j = l.length by omega, List.take_length]; rfl)
      obtain rfl : j = l.length := by omega
      clear hp HS
      go_wp2_with (at_builtin; refine app1 _ (by rfl) _ _ (by rfl) w.heap.size p q acc (by rfl) (hown.alloc _) wr.heap.size 1 _ 34 rfl (by rfl) (by simp [go_sem]) (by omega) (by simp; omega) ?_)
      intro g5 cap5 w5 hA
      obtain ⟨hown5, hbel⟩ := hA
      have B5 := hbel _ _ (Nat.le_refl _) (ball hb)
      have hv := conv_bytes cap5 (bytes_own hown5)
      rw [show List.length (acc ++ [(34 : UInt8)]) = acc.length + 1 by simp, HF.out] at hv
      clear hbel hown hb
      go_wp2
      go_ret
      exact ⟨rfl, B5⟩
end Go.Proofs.Ytbbaeipobgomdaa
