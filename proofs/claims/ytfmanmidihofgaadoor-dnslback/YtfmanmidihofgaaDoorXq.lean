/- The law's own text of numbers: pieces of lines. -/
import Derived.Test.YtfmanmidihofgaaDoorTl
namespace Go.Proofs.YtfmanmidihofgaaDoor
open Go.ChangeShapes Go.WideShapes Go.RowKit Go.Sort
/-- The pieces, by hand. -/
def pieces9 : List Bs := [[100, 104, 99, 112, 45, 114, 97, 110, 103, 101], [100, 104, 99, 112, 45, 111, 112, 116, 105, 111, 110], [100, 104, 99, 112, 45, 104, 111, 115, 116], [100, 111, 109, 97, 105, 110], [61], [61], [44], [44], [10], [10], [13, 10], [35], [49, 48, 46, 48, 46, 48, 46, 49], [49, 48, 46, 48, 46, 48, 46, 57], [50, 53, 53, 46, 50, 53, 53, 46, 50, 53, 53, 46, 48], [51, 54, 48, 48], [51], [54], [49, 53], [111, 112, 116, 105, 111, 110, 58, 114, 111, 117, 116, 101, 114, 115], [111, 112, 116, 105, 111, 110, 58, 100, 111, 109, 97, 105, 110, 45, 110, 97, 109, 101], [108, 97, 110], [48, 48, 58, 48, 48, 58, 48, 48, 58, 48, 48, 58, 48, 48, 58, 48, 49], [49, 48, 46, 48, 46, 48, 46, 53], [104], [32], [195, 169], [], [100, 104, 99, 112, 45, 114, 97, 110, 103, 101, 61, 49, 48, 46, 48, 46, 48, 46, 49, 44, 49, 48, 46, 48, 46, 48, 46, 57, 44, 50, 53, 53, 46, 50, 53, 53, 46, 50, 53, 53, 46, 48, 10], [100, 104, 99, 112, 45, 111, 112, 116, 105, 111, 110, 61, 51, 44, 49, 48, 46, 48, 46, 48, 46, 49, 10], [100, 104, 99, 112, 45, 104, 111, 115, 116, 61, 48, 48, 58, 48, 48, 58, 48, 48, 58, 48, 48, 58, 48, 48, 58, 48, 50, 44, 49, 48, 46, 48, 46, 48, 46, 54, 44, 98, 10]]
theorem pieces9_len : ∀ s ∈ pieces9, s.length ≤ 43 := by decide +kernel
def kQ (z : Int) : Nat := (z % 65536 % 31).toNat
theorem kQ_is (z : Int) : (bits BinOp.and IntKind.i64 z 65535).tmod 31 = (kQ z : Int) ∧ kQ z < 31 := by
  rw [i64_and65535, Int.tmod_eq_emod_of_nonneg (by omega)]
  unfold kQ; omega
def unitQ9 (z : Int) : Bs := pieces9.getD (kQ z) []
def textQ (zs : List Int) : Bs := (zs.take 60).flatMap unitQ9
theorem textQ_snoc {zs : List Int} {j : Nat} {z : Int} (h : zs[j]? = some z) : (zs.take (j + 1)).flatMap unitQ9 = (zs.take j).flatMap unitQ9 ++ unitQ9 z := by
  rw [List.take_add_one, h, List.flatMap_append]; simp
theorem unitQ_len (z : Int) : (pieces9.getD (kQ z) []).length ≤ 43 := by
  rw [List.getD_eq_getElem?_getD]
  rcases Nat.lt_or_ge (kQ z) pieces9.length with h | h
  · rw [List.getElem?_eq_getElem h]; exact pieces9_len _ (List.getElem_mem h)
  · rw [List.getElem?_eq_none h]; simp
theorem textQ_len (zs : List Int) : (textQ zs).length ≤ 2580 := by
  have : ∀ (q : List Int), (q.flatMap unitQ9).length ≤ 43 * q.length := by
    intro q
    induction q with
    | nil => simp
    | cons a r ih => rw [List.flatMap_cons, List.length_append, List.length_cons]; have h : (unitQ9 a).length ≤ 43 := unitQ_len a; omega
  have h := this (zs.take 60)
  unfold textQ
  rw [List.length_take] at h
  omega
set_option maxHeartbeats 8000000 in
set_option maxRecDepth 100000 in
theorem textQ_some (zs : List Int) (ad : Addr) (c : Nat) (w : World) (h : IntsAt w (some ad) zs) (hz : ∀ z ∈ zs, (Lit.int .i64 z).wf = true) :
    Calls Tryd.prog 9 #[.slice (some ad) zs.length c] w fun e w' => TextZE w (textQ zs) e w' := by
  have HH := Lib.hid h
  clear h
  go_enter Tryd.func9, Tryd.ntmps9
  go_upto_region 3 with fail
  generalize hw0 : w.alloc _ = w0
  have B0 : Below w.heap.size w w0 := hw0 ▸ ball (Below.refl _ _)
  have HP : Hid (∀ V, Below w0.heap.size w0 V → ∀ (k : Nat), k < 31 → V.cell? ⟨w.heap.size, k, none⟩ = some (.string (baS (pieces9.getD k [])))) := by
    intro V hV k hk
    have hl : w.heap.size < w0.heap.size := by subst hw0; simp [go_sem]
    rw [olds hV _ _ hl]
    subst hw0
    have hk' : k < pieces9.length := hk
    rw [List.getD_eq_getElem?_getD, List.getElem?_eq_getElem hk']
    exact strs_new w pieces9 _ _ k _ (List.getElem?_eq_getElem hk')
  clear hw0
  have H0 := Lib.hid (HH.out.below B0)
  clear HH
  go_wp2_with fail
  go_loopw [4, 5] (fun sv iv wr => ∃ (acc : Bs) (j : Nat) (p : Option Addr) (q : Nat), sv = .slice p acc.length q ∧ iv = .int .i64 (j : Int) ∧ acc.length ≤ 43 * j ∧ j ≤ 60 ∧ j ≤ zs.length ∧ Hid (acc = (zs.take j).flatMap unitQ9) ∧ wr.ownsRow w0.heap.size 5 1 (.slice p acc.length q) acc.length (cellsB acc) ∧ Below w0.heap.size w0 wr) (fun _ iv _ => zs.length + 1 - intN iv)
  case atStart => exact ⟨[], 0, none, 0, rfl, rfl, by simp, Nat.zero_le _, Nat.zero_le _, Lib.hid rfl, World.ownsRow_nil _ _ _ _, Below.refl _ _⟩
  case round =>
    obtain ⟨acc, j, p, q, rfl, rfl, haj, hj60, hjl, hacc, hown, hb⟩ := hrel
    have hzs := hb.size
    have hbs := B0.size
    by_cases hlt : j < zs.length
    · by_cases h60 : j < 60
      · have hcell := intsAt_cell (H0.out.below hb) j hlt
        have HZ := Lib.hid (fun V (hV : IntsAt V (some ad) zs) => intsAt_cell hV j hlt)
        have hzw := hz _ (List.getElem_mem hlt)
        have HS := Lib.hid (textQ_snoc (List.getElem?_eq_getElem hlt))
        generalize zs[j]'hlt = z at *
        obtain ⟨hk, hk2⟩ := kQ_is z
        have hpc := HP.out wr hb (kQ z) hk2
        have hul := unitQ_len z
        have HF : Hid (acc ++ pieces9.getD (kQ z) [] = (zs.take (j + 1)).flatMap unitQ9) := Lib.hid (by rw [HS.out, hacc.out]; rfl)
        clear HS hacc
        generalize pieces9.getD (kQ z) [] = s at *
        generalize kQ z = k at *
        go_wp2_with (at_builtin; refine appS _ (by rfl) _ _ (by rfl) w0.heap.size p q acc s (by rfl) hown (by rfl) (by omega) (by omega) (by omega) ?_)
        intro p' q' w4 hA
        obtain ⟨hown4, hbel⟩ := hA
        have B4 := hbel _ _ (Nat.le_refl _) hb
        clear hcell hpc hk hbel hown hb HZ
        go_wp2
        exact ⟨⟨acc ++ s, j + 1, p', q', by simp, by simp, by simp; omega, by omega, by omega, HF, by simpa using hown4, B4⟩, by simp [intN]; omega⟩
      · have HF : Hid (acc = textQ zs) := Lib.hid (by rw [hacc.out, show j = 60 by omega]; rfl)
        have h60' : ¬ ((j : Int) < 60) := by omega
        clear hacc HP
        go_wp2_with fail
        go_ret
        rw [← HF.out]
        exact ⟨below_next B0 hb, p, q, rfl, ownsRow_le8 hown hbs⟩
    · have HF : Hid (acc = textQ zs) := Lib.hid (by rw [hacc.out]; unfold textQ; rw [List.take_of_length_le (by omega), List.take_of_length_le (by omega)])
      obtain rfl : j = zs.length := by omega
      clear hacc HP
      go_wp2_with fail
      go_ret
      rw [← HF.out]
      exact ⟨below_next B0 hb, p, q, rfl, ownsRow_le8 hown hbs⟩
set_option maxRecDepth 100000 in
set_option maxHeartbeats 4000000 in
theorem textQ_none (c : Nat) (w : World) :
    Calls Tryd.prog 9 #[.slice none 0 c] w fun e w' => TextZE w [] e w' := by
  go_enter Tryd.func9, Tryd.ntmps9
  go_upto_region 3 with fail
  generalize hw0 : w.alloc _ = w0
  have B0 : Below w.heap.size w w0 := hw0 ▸ ball (Below.refl _ _)
  clear hw0
  go_wp2_with fail
  go_loopw [4, 5] (fun sv iv wr => sv = .slice none 0 0 ∧ iv = .int .i64 0 ∧ wr = w0) (fun _ _ _ => 0)
  case atStart => exact ⟨rfl, rfl, rfl⟩
  case round =>
    obtain ⟨rfl, rfl, rfl⟩ := hrel
    go_wp2_with fail
    go_ret
    exact ⟨B0, none, 0, rfl, World.ownsRow_nil _ _ _ _⟩
theorem textQ_x (zs : List Int) (a : Option Addr) (c : Nat) (w : World) (h : IntsAt w a zs) (hz : ∀ z ∈ zs, (Lit.int .i64 z).wf = true) :
    Calls Tryd.prog 9 #[.slice a zs.length c] w fun e w' => TextZE w (textQ zs) e w' := by
  cases a with
  | some ad => exact textQ_some zs ad c w h hz
  | none =>
    have hn : zs = [] := by
      cases zs with
      | nil => rfl
      | cons a r => obtain ⟨ad, e, _⟩ := h 0 a rfl; cases e
    subst hn
    exact textQ_none c w
end Go.Proofs.YtfmanmidihofgaaDoor
