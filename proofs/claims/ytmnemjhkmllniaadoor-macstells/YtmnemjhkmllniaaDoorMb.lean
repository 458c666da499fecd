/- macs.printPair and macs.Print: every number below 2^48 is told in its one form. -/
import Derived.Test.YtmnemjhkmllniaaDoorMa
namespace Go.Proofs.YtmnemjhkmllniaaDoor
open Go.ChangeShapes Go.WideShapes Go.RowKit Go.Sort

theorem hexS_one {u : Nat} (h : u < 16) : hexS u = [hexC u] := by unfold hexS; rw [if_pos h]
theorem fmt1 (v : Int) (u : Nat) (w : World) (hg : Gl w) (hu : u < 16) (h : v = u) :
    Calls Tryd.prog 22 #[.int .u64 v, .int .i64 16] w fun e w' => e = .returned (.string (baS [hexC u])) ∧ Below w.heap.size w w' := by
  have := fmt16 u w hg (by omega)
  rw [hexS_one hu] at this
  rw [h]; exact this
set_option maxHeartbeats 1000000 in
theorem printPair_x (v : Int) (n : Nat) (w : World) (hg : Gl w) (hn : n < 256) (hv : v = n) :
    Calls Tryd.prog 16 #[.int .u64 v] w fun e w' => e = .returned (.string (baS (pairS n))) ∧ Below w.heap.size w w' := by
  subst hv
  have h1 : Hid (((n : Int) / 16 = ((n / 16 : Nat) : Int)) ∧ n / 16 < 16) := ⟨by omega, by omega⟩
  have h2 : Hid ((bits .and .u64 (n : Int) 15 = ((n % 16 : Nat) : Int)) ∧ n % 16 < 16) := ⟨and15 n (by omega), by omega⟩
  have hadd : ∀ V, (Op.stringOp .add (baS [hexC (n / 16)]) (baS [hexC (n % 16)])).run Tryd.prog V = .ok (.string (baS (pairS n))) V := addS [hexC (n / 16)] [hexC (n % 16)] (by simp) (by simp)
  have HG := Lib.hid hg
  clear hg hn
  go_enter Tryd.func16, Tryd.ntmps16
  go_wp2_with fail
  refine (fmt1 _ (n / 16) _ HG.out h1.out.2 h1.out.1).mono ?_
  rintro e w1 ⟨rfl, hb1⟩
  go_wp2_with fail
  refine (fmt1 _ (n % 16) _ (HG.out.below hb1) h2.out.2 h2.out.1).mono ?_
  rintro e w2 ⟨rfl, hb2⟩
  go_wp2
  go_ret
  exact ⟨rfl, below_next hb1 hb2⟩
theorem dgM_and (x j d : Nat) (hx : x < 281474976710656) (hd : 256 ^ (5 - j) = d) : bits .and .u64 ((x : Int) / (d : Int)) 255 = ((dgM x j : Nat) : Int) := by
  have := and255 (x / d) (Nat.lt_of_le_of_lt (Nat.div_le_self _ _) (by omega))
  unfold dgM
  rw [hd, ← this]
  rfl
set_option maxHeartbeats 1000000 in
theorem printM_no (m : Nat) (w : World) (hm : 281474976710656 ≤ m) (hm' : m < 18446744073709551616) :
    Calls Tryd.prog 9 #[.int .u64 m] w fun e w' => e = .returned (.tuple #[.string ⟨#[]⟩, .bool false]) ∧ Below w.heap.size w w' := by
  have h0 : (((m : Int) / 281474976710656) != 0) = true := by rw [bne_iff_ne]; omega
  clear hm hm'
  go_enter Tryd.func9, Tryd.ntmps9
  go_wp2
  go_ret2
  exact ⟨rfl, Below.refl _ _⟩
set_option maxHeartbeats 8000000 in
set_option maxRecDepth 100000 in
theorem printM_yes (m : Nat) (w : World) (hg : Gl w) (hm : m < 281474976710656) :
    Calls Tryd.prog 9 #[.int .u64 m] w fun e w' => e = .returned (.tuple #[.string (baS (tellM m)), .bool true]) ∧ Below w.heap.size w w' := by
  have h0 : (((m : Int) / 281474976710656) != 0) = false := by rw [bne_eq_false_iff_eq]; omega
  obtain ⟨W0, hW0⟩ : ∃ W0, W0 = w.alloc (.cells (emptyS 6) 9) := ⟨_, rfl⟩
  have HG := Lib.hid hg
  have HM : Hid (MidS W0 w.heap.size 6 (fun j => pairS (dgM m j)) 0) := by rw [hW0]; exact midS_new w _ _
  have B0 : Below w.heap.size w W0 := by rw [hW0]; exact (Below.refl _ _).alloc (Nat.le_refl _) _
  have s0 : w.heap.size < W0.heap.size := by rw [hW0]; simp
  have hmk : ∀ W : World, (Instr.makeSlice 34 (.int .i64 6) (.int .i64 6)).run Tryd.prog W = .ok (.slice (some ⟨W.heap.size, 0, none⟩) 6 6) (W.alloc (.cells (emptyS 6) 9)) := makeS 6 (by omega)
  have HX := Lib.hid hm
  clear hg hm
  go_enter Tryd.func9, Tryd.ntmps9
  go_wp2
  rw [← hW0]
  clear hW0
  go_loopw [12] (fun i wr => ∃ (k : Nat), k ≤ 6 ∧ i = .int .i64 k ∧ Hid (MidS wr w.heap.size 6 (fun j => pairS (dgM m j)) k) ∧ Below w.heap.size w wr ∧ w.heap.size < wr.heap.size)
    (fun i _ => 6 - (intOf i).toNat)
  case atStart => exact ⟨0, by omega, rfl, HM, B0, s0⟩
  case round =>
    obtain ⟨k, hk, rfl, hm, hb, hlt⟩ := hrel
    clear HM B0 s0
    have HB : Hid (Gl wr) := HG.out.below hb
    by_cases hk6 : k < 6
    · rcases (show k = 0 ∨ k = 1 ∨ k = 2 ∨ k = 3 ∨ k = 4 ∨ k = 5 by omega) with rfl | rfl | rfl | rfl | rfl | rfl
      · have hq : Hid (bits .and .u64 ((m : Int) / 1099511627776) 255 = ((dgM m 0 : Nat) : Int)) := Lib.hid (dgM_and m 0 1099511627776 HX.out rfl)
        go_wp2_with fail
        refine (printPair_x _ (dgM m 0) _ HB.out (dgM_lt m _) hq.out).mono ?_
        rintro e w1 ⟨rfl, hb1⟩
        have m1 := midS_next hm.out hlt hb1
        obtain ⟨s, hs⟩ := m1.2.1 0 (by omega)
        have hfz := m1.2.2 0
        have HM1 := Lib.hid m1
        have hlt1 : w.heap.size < w1.heap.size := Nat.lt_of_lt_of_le hlt hb1.size
        clear m1 hm
        go_wp2
        go_roundw
        case rel => exact ⟨1, by omega, rfl, midS_set HM1.out (by omega), (below_next hb hb1).setCell (Nat.le_refl _) _, by simpa using hlt1⟩
        case measure => simp [intOf]
      · have hq : Hid (bits .and .u64 ((m : Int) / 4294967296) 255 = ((dgM m 1 : Nat) : Int)) := Lib.hid (dgM_and m 1 4294967296 HX.out rfl)
        go_wp2_with fail
        refine (printPair_x _ (dgM m 1) _ HB.out (dgM_lt m _) hq.out).mono ?_
        rintro e w1 ⟨rfl, hb1⟩
        have m1 := midS_next hm.out hlt hb1
        obtain ⟨s, hs⟩ := m1.2.1 1 (by omega)
        have hfz := m1.2.2 1
        have HM1 := Lib.hid m1
        have hlt1 : w.heap.size < w1.heap.size := Nat.lt_of_lt_of_le hlt hb1.size
        clear m1 hm
        go_wp2
        go_roundw
        case rel => exact ⟨2, by omega, rfl, midS_set HM1.out (by omega), (below_next hb hb1).setCell (Nat.le_refl _) _, by simpa using hlt1⟩
        case measure => simp [intOf]
      · have hq : Hid (bits .and .u64 ((m : Int) / 16777216) 255 = ((dgM m 2 : Nat) : Int)) := Lib.hid (dgM_and m 2 16777216 HX.out rfl)
        go_wp2_with fail
        refine (printPair_x _ (dgM m 2) _ HB.out (dgM_lt m _) hq.out).mono ?_
        rintro e w1 ⟨rfl, hb1⟩
        have m1 := midS_next hm.out hlt hb1
        obtain ⟨s, hs⟩ := m1.2.1 2 (by omega)
        have hfz := m1.2.2 2
        have HM1 := Lib.hid m1
        have hlt1 : w.heap.size < w1.heap.size := Nat.lt_of_lt_of_le hlt hb1.size
        clear m1 hm
        go_wp2
        go_roundw
        case rel => exact ⟨3, by omega, rfl, midS_set HM1.out (by omega), (below_next hb hb1).setCell (Nat.le_refl _) _, by simpa using hlt1⟩
        case measure => simp [intOf]
      · have hq : Hid (bits .and .u64 ((m : Int) / 65536) 255 = ((dgM m 3 : Nat) : Int)) := Lib.hid (dgM_and m 3 65536 HX.out rfl)
        go_wp2_with fail
        refine (printPair_x _ (dgM m 3) _ HB.out (dgM_lt m _) hq.out).mono ?_
        rintro e w1 ⟨rfl, hb1⟩
        have m1 := midS_next hm.out hlt hb1
        obtain ⟨s, hs⟩ := m1.2.1 3 (by omega)
        have hfz := m1.2.2 3
        have HM1 := Lib.hid m1
        have hlt1 : w.heap.size < w1.heap.size := Nat.lt_of_lt_of_le hlt hb1.size
        clear m1 hm
        go_wp2
        go_roundw
        case rel => exact ⟨4, by omega, rfl, midS_set HM1.out (by omega), (below_next hb hb1).setCell (Nat.le_refl _) _, by simpa using hlt1⟩
        case measure => simp [intOf]
      · have hq : Hid (bits .and .u64 ((m : Int) / 256) 255 = ((dgM m 4 : Nat) : Int)) := Lib.hid (dgM_and m 4 256 HX.out rfl)
        go_wp2_with fail
        refine (printPair_x _ (dgM m 4) _ HB.out (dgM_lt m _) hq.out).mono ?_
        rintro e w1 ⟨rfl, hb1⟩
        have m1 := midS_next hm.out hlt hb1
        obtain ⟨s, hs⟩ := m1.2.1 4 (by omega)
        have hfz := m1.2.2 4
        have HM1 := Lib.hid m1
        have hlt1 : w.heap.size < w1.heap.size := Nat.lt_of_lt_of_le hlt hb1.size
        clear m1 hm
        go_wp2
        go_roundw
        case rel => exact ⟨5, by omega, rfl, midS_set HM1.out (by omega), (below_next hb hb1).setCell (Nat.le_refl _) _, by simpa using hlt1⟩
        case measure => simp [intOf]
      · have hq : Hid (bits .and .u64 (m : Int) 255 = ((dgM m 5 : Nat) : Int)) := Lib.hid (by have := dgM_and m 5 1 HX.out rfl; rwa [show ((1 : Nat) : Int) = 1 from rfl, Int.ediv_one] at this)
        go_wp2_with fail
        refine (printPair_x _ (dgM m 5) _ HB.out (dgM_lt m _) hq.out).mono ?_
        rintro e w1 ⟨rfl, hb1⟩
        have m1 := midS_next hm.out hlt hb1
        obtain ⟨s, hs⟩ := m1.2.1 5 (by omega)
        have hfz := m1.2.2 5
        have HM1 := Lib.hid m1
        have hlt1 : w.heap.size < w1.heap.size := Nat.lt_of_lt_of_le hlt hb1.size
        clear m1 hm
        go_wp2
        go_roundw
        case rel => exact ⟨6, by omega, rfl, midS_set HM1.out (by omega), (below_next hb hb1).setCell (Nat.le_refl _) _, by simpa using hlt1⟩
        case measure => simp [intOf]
    · have hkk : k = 6 := by omega
      subst hkk
      have hj := Tryd.strings_Join w.heap.size 0 6 [baS (pairS (dgM m 0)), baS (pairS (dgM m 1)), baS (pairS (dgM m 2)), baS (pairS (dgM m 3)), baS (pairS (dgM m 4)), baS (pairS (dgM m 5))] ⟨#[58]⟩ wr (fun j y hj => by
          rw [Nat.zero_add]
          match j, hj with
          | 0, hj => cases hj; exact hm.out.1 0 (by omega)
          | 1, hj => cases hj; exact hm.out.1 1 (by omega)
          | 2, hj => cases hj; exact hm.out.1 2 (by omega)
          | 3, hj => cases hj; exact hm.out.1 3 (by omega)
          | 4, hj => cases hj; exact hm.out.1 4 (by omega)
          | 5, hj => cases hj; exact hm.out.1 5 (by omega)
          | j + 6, hj => simp at hj) hlt (by simp) (by simp) (by
          show (Lib.join [pairS (dgM m 0), pairS (dgM m 1), pairS (dgM m 2), pairS (dgM m 3), pairS (dgM m 4), pairS (dgM m 5)] [58]).length ≤ _
          have := tellM_len m
          unfold tellM at this
          rw [this]; decide)
      have HJ : Hid (Calls Tryd.prog 17 #[.slice (some ⟨w.heap.size, 0, none⟩) 6 6, .string ⟨#[58]⟩] wr fun e w' => e = .returned (.string (baS (tellM m))) ∧ Below wr.heap.size wr w') := hj
      clear hj hm
      go_wp2_with fail
      refine HJ.out.mono ?_
      rintro e w1 ⟨rfl, hb1⟩
      go_wp2
      go_ret2
      exact ⟨rfl, below_next hb hb1⟩
/-- What Print answers. -/
def tellMR (m : Nat) : Value := if m < 281474976710656 then .tuple #[.string (baS (tellM m)), .bool true] else .tuple #[.string ⟨#[]⟩, .bool false]
theorem printM_x (m : Nat) (w : World) (hg : Gl w) (hm : m < 18446744073709551616) :
    Calls Tryd.prog 9 #[.int .u64 m] w fun e w' => e = .returned (tellMR m) ∧ Below w.heap.size w w' := by
  unfold tellMR
  by_cases h : m < 281474976710656
  · rw [if_pos h]; exact printM_yes m w hg h
  · rw [if_neg h]; exact printM_no m w (by omega) hm
end Go.Proofs.YtmnemjhkmllniaaDoor
