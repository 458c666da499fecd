/- addr.printGroups and addr.printFour: groups in hex with a colon between, four numbers with a dot between. -/
import Derived.Test.YtmnemjhkmllniaaGreatDoorzFm
import Derived.Test.YtmnemjhkmllniaaGreatDoorzPa
namespace Go.Proofs.YtmnemjhkmllniaaGreatDoor
open Go.ChangeShapes Go.WideShapes Go.RowKit Go.Sort

theorem infoStr : (Tryz.prog.info? 9).map (fun i => (i.zero, i.size, i.bytes)) = some (some (.string ByteArray.empty), 1, 16) := by kernel_rfl
/-- n empty texts. -/
def emptyS (n : Nat) : Array Value := madeCells (Value.string ByteArray.empty).cells n
theorem emptyS_at (n j : Nat) (h : j < n) : (emptyS n)[j]? = some (.string ByteArray.empty) := by
  unfold emptyS madeCells
  rw [Array.getElem?_map, Array.getElem?_range, if_pos h, show (Value.string ByteArray.empty).cells = #[Value.string ByteArray.empty] from rfl]
  simp [Nat.mod_one]
theorem makeS (n : Nat) (h : n ≤ 1000) (W : World) : (Instr.makeSlice 38 (.int .i64 (n : Int)) (.int .i64 (n : Int))).run Tryz.prog W = .ok (.slice (some ⟨W.heap.size, 0, none⟩) n n) (W.alloc (.cells (emptyS n) 9)) := by
  obtain ⟨i0, hi, hz0, hz1, hz2⟩ := info_parts infoStr
  have h := run_make (P := Tryz.prog) W 38 9 i0 (.string ByteArray.empty) Tryz.underlying38 hi hz0 .i64 .i64 n n (by omega) (by omega) (by rw [hz2]; omega) (by omega)
  rw [hz1] at h
  rw [h]
  simp [emptyS]
def baS (l : Bs) : ByteArray := ⟨l.toArray⟩
/-- Of a slice's elements, from its address on, these are the numbers. -/
def RowAt (w : World) (a : Option Addr) (l : List Nat) : Prop := ∀ (j x : Nat), l[j]? = some x → ∃ g off, a = some ⟨g, off, none⟩ ∧ g < w.heap.size ∧ w.cell? ⟨g, off + j, none⟩ = some (.int .u64 (x : Int))
theorem RowAt.below {w w' : World} {a : Option Addr} {l : List Nat} (h : RowAt w a l) (hb : Below w.heap.size w w') : RowAt w' a l := fun j x hj => by
  obtain ⟨g, off, e, hg, hc⟩ := h j x hj
  exact ⟨g, off, e, Nat.lt_of_lt_of_le hg hb.size, (olds hb g (off + j) hg).trans hc⟩
/-- What holds in the middle of the loop that fills the texts: the first k are told. -/
def MidS (w : World) (H n : Nat) (f : Nat → Bs) (k : Nat) : Prop :=
  (∀ j, j < k → w.cell? ⟨H, j, none⟩ = some (.string (baS (f j)))) ∧ (∀ j, j < n → ∃ s, w.cell? ⟨H, j, none⟩ = some (.string s)) ∧ ∀ o, w.frozen? ⟨H, o, none⟩ = false
theorem midS_next {w w' : World} {H n k : Nat} {f : Nat → Bs} (h : MidS w H n f k) (hH : H < w.heap.size) (hb : Below w.heap.size w w') : MidS w' H n f k := by
  obtain ⟨c, fr, _⟩ := keepf hb H hH
  exact ⟨fun j hj => (c j).trans (h.1 j hj), fun j hj => by obtain ⟨s, hs⟩ := h.2.1 j hj; exact ⟨s, (c j).trans hs⟩, fun o => (fr o).trans (h.2.2 o)⟩
theorem midS_set {w : World} {H n k : Nat} {f : Nat → Bs} (h : MidS w H n f k) (hk : k < n) : MidS (w.setCell ⟨H, k, none⟩ (.string (baS (f k)))) H n f (k + 1) := by
  obtain ⟨s, hs⟩ := h.2.1 k hk
  refine ⟨fun j hj => ?_, fun j hj => ?_, fun o => by simp [h.2.2 o]⟩
  · by_cases e : j = k
    · subst e; exact World.cell?_setCell_same _ _ _ hs
    · rw [World.cell?_setCell_other _ _ _ _ (by intro e'; injection e' with _ e'; omega)]; exact h.1 j (by omega)
  · by_cases e : j = k
    · subst e; exact ⟨_, World.cell?_setCell_same _ _ _ hs⟩
    · obtain ⟨s', hs'⟩ := h.2.1 j hj
      exact ⟨s', by rw [World.cell?_setCell_other _ _ _ _ (by intro e'; injection e' with _ e'; omega)]; exact hs'⟩
theorem midS_new (w : World) (n : Nat) (f : Nat → Bs) : MidS (w.alloc (.cells (emptyS n) 9)) w.heap.size n f 0 :=
  ⟨fun j hj => by omega, fun j hj => ⟨ByteArray.empty, by rw [World.cell?_alloc_new, emptyS_at n j hj]⟩, fun o => World.frozen?_alloc_new _ _ _ _⟩
theorem getD_of {l : List Nat} {j x : Nat} (h : l[j]? = some x) : l.getD j 0 = x := by simp [List.getD, h]
set_option maxHeartbeats 4000000 in
set_option maxRecDepth 100000 in
theorem groupsT_x (a : Option Addr) (c : Nat) (l : List Nat) (w : World) (hg : Gl w) (hl : ∀ x ∈ l, x < 65536) (h8 : l.length ≤ 8) (hr : RowAt w a l) :
    Calls Tryz.prog 86 #[.slice a l.length c] w fun e w' => e = .returned (.string ⟨(tellGroups l).toArray⟩) ∧ Below w.heap.size w w' := by
  have HL := Lib.hid hl
  obtain ⟨W0, hW0⟩ : ∃ W0, W0 = w.alloc (.cells (emptyS l.length) 9) := ⟨_, rfl⟩
  have HG := Lib.hid hg
  have HR := Lib.hid hr
  have B0 : Below w.heap.size w W0 := hW0 ▸ (Below.refl _ _).alloc (Nat.le_refl _) _
  have HM : Hid (MidS W0 w.heap.size l.length (fun j => hexS (l.getD j 0)) 0) := hW0 ▸ midS_new w _ _
  have s0 : w.heap.size < W0.heap.size := by rw [hW0]; simp
  have hmk := makeS l.length (by omega)
  have h8' : (l.length : Int) ≤ 8 := by omega
  clear hl hg hr
  go_enter Tryz.func86, Tryz.ntmps86
  go_wp2
  rw [← hW0]
  clear hW0
  go_loopw [11] (fun i wr => ∃ (k : Nat), k ≤ l.length ∧ i = .int .i64 k ∧ Hid (MidS wr w.heap.size l.length (fun j => hexS (l.getD j 0)) k) ∧ Below w.heap.size w wr ∧ w.heap.size < wr.heap.size)
    (fun i _ => l.length - (intOf i).toNat)
  case atStart => exact ⟨0, by omega, rfl, HM, B0, s0⟩
  case round =>
    obtain ⟨k, hk, rfl, hm, hb, hlt⟩ := hrel
    clear HM B0 s0
    by_cases hkl : k < l.length
    · obtain ⟨x, hx⟩ : ∃ x, l[k]? = some x := ⟨l[k]'hkl, List.getElem?_eq_getElem hkl⟩
      obtain ⟨g, off, rfl, hgl, hcx⟩ := (HR.out.below hb) k x hx
      have hx16 := HL.out x (List.mem_of_getElem? hx)
      have HD : Hid (hexS (l.getD k 0) = hexS x ∧ x < 65536) := ⟨by rw [getD_of hx], hx16⟩
      have HB := Lib.hid (HG.out.below hb)
      clear hx hx16
      have hkl' : (k : Int) < l.length := by omega
      go_wp2_with fail
      refine (fmt16 x _ HB.out HD.out.2).mono ?_
      rintro e w1 ⟨rfl, hb1⟩
      have m1 := midS_next hm.out hlt hb1
      obtain ⟨s, hs⟩ := m1.2.1 k hkl
      have hfz := m1.2.2 k
      have HM1 := Lib.hid m1
      have hlt1 : w.heap.size < w1.heap.size := Nat.lt_of_lt_of_le hlt hb1.size
      clear m1 hm hcx
      go_wp2
      go_roundw
      case rel =>
        have hset := midS_set HM1.out hkl
        refine ⟨k + 1, by omega, by go_num, ?_, (below_next hb hb1).setCell (Nat.le_refl _) _, by simpa using hlt1⟩
        have e := HD.out.1
        simp only [e] at hset
        exact hset
      case measure => simp [intOf]; omega
    · have hkk : k = l.length := by omega
      subst hkk
      have hj := Tryz.strings_Join w.heap.size 0 l.length (l.map fun n => baS (hexS n)) ⟨#[58]⟩ wr (fun j x hj => by
          rw [List.getElem?_map] at hj
          cases hx : l[j]? with
          | none => rw [hx] at hj; cases hj
          | some y =>
            rw [hx] at hj
            cases hj
            have := hm.out.1 j (List.getElem?_eq_some_iff.1 hx).1
            simp only [getD_of hx] at this
            rw [Nat.zero_add]
            exact this) hlt (by rw [List.length_map]; omega) (by rw [List.length_map]; omega) (by
          have e : (l.map fun n => baS (hexS n)).map (·.data.toList) = l.map hexS := by rw [List.map_map]; rfl
          have := tellGroups_len l
          unfold tellGroups at this
          rw [e, show (⟨#[58]⟩ : ByteArray).data.toList = [58] from rfl]
          omega)
      rw [List.length_map] at hj
      have e : (l.map fun n => baS (hexS n)).map (·.data.toList) = l.map hexS := by rw [List.map_map]; rfl
      rw [e, show (⟨#[58]⟩ : ByteArray).data.toList = [58] from rfl] at hj
      have HJ := Lib.hid hj
      clear hj e hm
      go_wp2_with fail
      refine HJ.out.mono ?_
      rintro e w1 ⟨rfl, hb1⟩
      go_wp2
      go_ret
      exact ⟨rfl, below_next hb hb1⟩

theorem and255 (a : Nat) (h : a < 18446744073709551616) : bits .and .u64 (a : Int) 255 = ((a % 256 : Nat) : Int) := by
  rw [show (255 : Int) = ((255 : Nat) : Int) by rfl, u64_and_nat _ _ h (by omega), show (255 : Nat) = 2 ^ 8 - 1 by rfl, Nat.and_two_pow_sub_one_eq_mod]
/-- The j-th of the four numbers. -/
def dg4 (x j : Nat) : Nat := x / 256 ^ (3 - j) % 256
theorem dg4_lt (x j : Nat) : dg4 x j < 256 := by unfold dg4; omega
theorem dg4_and (x j d : Nat) (hx : x < 4294967296) (hd : 256 ^ (3 - j) = d) : bits .and .u64 ((x : Int) / (d : Int)) 255 = ((dg4 x j : Nat) : Int) := by
  have := and255 (x / d) (Nat.lt_of_le_of_lt (Nat.div_le_self _ _) (by omega))
  unfold dg4
  rw [hd, ← this]
  rfl
theorem fmt10b (v : Int) (u : Nat) (w : World) (hg : Gl w) (hu : u < 256) (h : v = u) :
    Calls Tryz.prog 83 #[.int .u64 v, .int .i64 10] w fun e w' => e = .returned (.string (baS (decS u))) ∧ Below w.heap.size w w' := by
  rw [h, ← decS_eq u (by omega)]; exact fmt10 u w hg (by omega)
set_option maxHeartbeats 4000000 in
set_option maxRecDepth 100000 in
theorem fourT_x (x : Nat) (w : World) (hg : Gl w) (hx : x < 4294967296) :
    Calls Tryz.prog 62 #[.agg #[.int .u64 (hiQ x), .int .u64 (loQ x)]] w fun e w' => e = .returned (.string ⟨(tellFour x).toArray⟩) ∧ Below w.heap.size w w' := by
  rw [loQ_small hx]
  obtain ⟨W1, hW1⟩ : ∃ W1, W1 = w.alloc (.cells #[.int .u64 (hiQ x), .int .u64 (x : Int)] 26) := ⟨_, rfl⟩
  obtain ⟨W0, hW0⟩ : ∃ W0, W0 = W1.alloc (.cells (emptyS 4) 9) := ⟨_, rfl⟩
  have b1 : Below w.heap.size w W1 := hW1 ▸ (Below.refl _ _).alloc (Nat.le_refl _) _
  have hsz : W1.heap.size = w.heap.size + 1 := by rw [hW1]; simp
  have HG : Hid (Gl W1) := hg.below b1
  have HC : Hid (W1.cell? ⟨w.heap.size, 1, none⟩ = some (.int .u64 (x : Int))) := by rw [hW1]; show _ = _; simp [go_sem]
  have HM : Hid (MidS W0 (w.heap.size + 1) 4 (fun j => decS (dg4 x j)) 0) := by rw [← hsz, hW0]; exact midS_new W1 _ _
  have B0 : Below (w.heap.size + 1) W1 W0 := by rw [← hsz, hW0]; exact (Below.refl _ _).alloc (Nat.le_refl _) _
  have s0 : w.heap.size + 1 < W0.heap.size := by rw [hW0]; simp [hsz]
  have hmk : ∀ W : World, (Instr.makeSlice 38 (.int .i64 4) (.int .i64 4)).run Tryz.prog W = .ok (.slice (some ⟨W.heap.size, 0, none⟩) 4 4) (W.alloc (.cells (emptyS 4) 9)) := makeS 4 (by omega)
  have HX := Lib.hid hx
  have HS := Lib.hid hsz
  clear hg hx hsz
  go_enter Tryz.func62, Tryz.ntmps62
  go_wp2
  rw [← hW1, ← hW0]
  clear hW0 hW1
  go_loopw [8] (fun i wr => ∃ (k : Nat), k ≤ 4 ∧ i = .int .i64 k ∧ Hid (MidS wr (w.heap.size + 1) 4 (fun j => decS (dg4 x j)) k) ∧ Below (w.heap.size + 1) W1 wr ∧ w.heap.size + 1 < wr.heap.size)
    (fun i _ => 4 - (intOf i).toNat)
  case atStart => exact ⟨0, by omega, rfl, HM, B0, s0⟩
  case round =>
    obtain ⟨k, hk, rfl, hm, hb, hlt⟩ := hrel
    clear HM B0 s0
    have hcx : wr.cell? ⟨w.heap.size, 1, none⟩ = some (.int .u64 (x : Int)) := (hb.cell (p := ⟨w.heap.size, 1, none⟩) (Nat.lt_succ_self _)).trans HC.out
    have HB : Hid (Gl wr) := HG.out.below (by rw [HS.out]; exact hb)
    by_cases hk4 : k < 4
    · rcases (show k = 0 ∨ k = 1 ∨ k = 2 ∨ k = 3 by omega) with rfl | rfl | rfl | rfl
      · have hq : Hid (bits .and .u64 ((x : Int) / 16777216) 255 = ((dg4 x 0 : Nat) : Int)) := Lib.hid (dg4_and x 0 16777216 HX.out rfl)
        go_wp2_with fail
        refine (fmt10b _ (dg4 x 0) _ HB.out (dg4_lt x _) hq.out).mono ?_
        rintro e w1 ⟨rfl, hb1⟩
        have m1 := midS_next hm.out hlt hb1
        obtain ⟨s, hs⟩ := m1.2.1 0 (by omega)
        have hfz := m1.2.2 0
        have HM1 := Lib.hid m1
        have hlt1 : w.heap.size + 1 < w1.heap.size := Nat.lt_of_lt_of_le hlt hb1.size
        clear m1 hm hcx
        go_wp2
        go_roundw
        case rel => exact ⟨1, by omega, rfl, midS_set HM1.out (by omega), (hb.trans (hb1.mono (by omega))).setCell (Nat.le_refl _) _, by simpa using hlt1⟩
        case measure => simp [intOf]
      · have hq : Hid (bits .and .u64 ((x : Int) / 65536) 255 = ((dg4 x 1 : Nat) : Int)) := Lib.hid (dg4_and x 1 65536 HX.out rfl)
        go_wp2_with fail
        refine (fmt10b _ (dg4 x 1) _ HB.out (dg4_lt x _) hq.out).mono ?_
        rintro e w1 ⟨rfl, hb1⟩
        have m1 := midS_next hm.out hlt hb1
        obtain ⟨s, hs⟩ := m1.2.1 1 (by omega)
        have hfz := m1.2.2 1
        have HM1 := Lib.hid m1
        have hlt1 : w.heap.size + 1 < w1.heap.size := Nat.lt_of_lt_of_le hlt hb1.size
        clear m1 hm hcx
        go_wp2
        go_roundw
        case rel => exact ⟨2, by omega, rfl, midS_set HM1.out (by omega), (hb.trans (hb1.mono (by omega))).setCell (Nat.le_refl _) _, by simpa using hlt1⟩
        case measure => simp [intOf]
      · have hq : Hid (bits .and .u64 ((x : Int) / 256) 255 = ((dg4 x 2 : Nat) : Int)) := Lib.hid (dg4_and x 2 256 HX.out rfl)
        go_wp2_with fail
        refine (fmt10b _ (dg4 x 2) _ HB.out (dg4_lt x _) hq.out).mono ?_
        rintro e w1 ⟨rfl, hb1⟩
        have m1 := midS_next hm.out hlt hb1
        obtain ⟨s, hs⟩ := m1.2.1 2 (by omega)
        have hfz := m1.2.2 2
        have HM1 := Lib.hid m1
        have hlt1 : w.heap.size + 1 < w1.heap.size := Nat.lt_of_lt_of_le hlt hb1.size
        clear m1 hm hcx
        go_wp2
        go_roundw
        case rel => exact ⟨3, by omega, rfl, midS_set HM1.out (by omega), (hb.trans (hb1.mono (by omega))).setCell (Nat.le_refl _) _, by simpa using hlt1⟩
        case measure => simp [intOf]
      · have hq : Hid (bits .and .u64 ((x : Int)) 255 = ((dg4 x 3 : Nat) : Int)) := Lib.hid (by have := dg4_and x 3 1 HX.out rfl; rwa [show ((1 : Nat) : Int) = 1 from rfl, Int.ediv_one] at this)
        go_wp2_with fail
        refine (fmt10b _ (dg4 x 3) _ HB.out (dg4_lt x _) hq.out).mono ?_
        rintro e w1 ⟨rfl, hb1⟩
        have m1 := midS_next hm.out hlt hb1
        obtain ⟨s, hs⟩ := m1.2.1 3 (by omega)
        have hfz := m1.2.2 3
        have HM1 := Lib.hid m1
        have hlt1 : w.heap.size + 1 < w1.heap.size := Nat.lt_of_lt_of_le hlt hb1.size
        clear m1 hm hcx
        go_wp2
        go_roundw
        case rel => exact ⟨4, by omega, rfl, midS_set HM1.out (by omega), (hb.trans (hb1.mono (by omega))).setCell (Nat.le_refl _) _, by simpa using hlt1⟩
        case measure => simp [intOf]
    · have hkk : k = 4 := by omega
      subst hkk
      have hj := Tryz.strings_Join (w.heap.size + 1) 0 4 [baS (decS (dg4 x 0)), baS (decS (dg4 x 1)), baS (decS (dg4 x 2)), baS (decS (dg4 x 3))] ⟨#[46]⟩ wr (fun j y hj => by
          rw [Nat.zero_add]
          match j, hj with
          | 0, hj => cases hj; exact hm.out.1 0 (by omega)
          | 1, hj => cases hj; exact hm.out.1 1 (by omega)
          | 2, hj => cases hj; exact hm.out.1 2 (by omega)
          | 3, hj => cases hj; exact hm.out.1 3 (by omega)
          | j + 4, hj => simp at hj) hlt (by simp) (by simp) (by
          have := join_len_le [decS (dg4 x 0), decS (dg4 x 1), decS (dg4 x 2), decS (dg4 x 3)] [46] 3 (fun g hg => by
            simp at hg; rcases hg with rfl | rfl | rfl | rfl <;> exact (decS_len _).2)
          show (Lib.join [decS (dg4 x 0), decS (dg4 x 1), decS (dg4 x 2), decS (dg4 x 3)] [46]).length ≤ _
          simp only [List.length_cons, List.length_nil] at this
          omega)
      have HJ : Hid (Calls Tryz.prog 84 #[.slice (some ⟨w.heap.size + 1, 0, none⟩) 4 4, .string ⟨#[46]⟩] wr fun e w' => e = .returned (.string ⟨(tellFour x).toArray⟩) ∧ Below wr.heap.size wr w') := by
        have e : tellFour x = Lib.join [decS (dg4 x 0), decS (dg4 x 1), decS (dg4 x 2), decS (dg4 x 3)] [46] := by unfold tellFour dg4; simp
        rw [e]; exact hj
      clear hj hm hcx
      go_wp2_with fail
      refine HJ.out.mono ?_
      rintro e w1 ⟨rfl, hb1⟩
      go_wp2
      go_ret
      exact ⟨rfl, below_next (b1.trans (hb.mono (by omega))) hb1⟩
end Go.Proofs.YtmnemjhkmllniaaGreatDoor
