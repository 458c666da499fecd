/- DnslForms: whichever row of texts is asked for, the law answers true. -/
import Derived.Test.YtfmanmidihofgaaDoorXp
import Derived.Deep.DeepCutAuto
namespace Go.Proofs.YtfmanmidihofgaaDoor
open Go.ChangeShapes Go.WideShapes Go.RowKit Go.Sort
def sumL (L : List Rw) : Nat := (L.map fun r => r.2.1.length).sum
theorem sumL_take {L : List Rw} {j : Nat} {r : Rw} (h : L[j]? = some r) : sumL (L.take (j + 1)) = sumL (L.take j) + r.2.1.length := by
  unfold sumL
  rw [List.take_add_one, h, List.map_append, List.sum_append]; simp
theorem sumL_le (L : List Rw) (j : Nat) : sumL (L.take j) ≤ sumL L := by
  unfold sumL
  conv => rhs; rw [← List.take_append_drop j L]
  rw [List.map_append, List.sum_append]; omega
/-- The rows, by hand: a text, how many records and fields it has, what is wrong, where. -/
abbrev Rx10 := Bs × Nat × Nat × Nat × Nat
def rows10 : List Rx10 := [([], 0, 0, 0, 0), ([10, 10], 0, 0, 0, 0), ([35, 10, 35, 32, 97, 61, 98], 0, 0, 0, 0), ([97, 61], 1, 1, 0, 0), ([97, 61, 98, 44, 99], 1, 2, 0, 0), ([97, 45, 98, 61, 44, 44, 10, 99, 61, 100, 13, 10], 2, 4, 0, 0), ([97, 61, 98, 61, 99], 1, 1, 0, 0), ([97, 61, 35], 1, 1, 0, 0), ([97], 0, 0, 1, 1), ([97, 10], 0, 0, 1, 1), ([61], 0, 0, 1, 0), ([32, 97, 61, 98], 0, 0, 1, 0), ([97, 32, 61, 98], 0, 0, 1, 1), ([65, 61, 98], 0, 0, 1, 0), ([97, 49, 61, 98], 0, 0, 1, 1), ([97, 61, 9, 98], 0, 0, 1, 2), ([97, 61, 195, 169], 0, 0, 1, 2), ([97, 61, 98, 10, 10, 98], 0, 0, 1, 6), ([97, 61, 98, 13], 0, 0, 1, 3)]
def okRow10 (p : Rx10) : Bool := decide (p.1.length ≤ 20) && decide ((outD (rowsV p.1)).1.length = p.2.1 ∧ sumL (outD (rowsV p.1)).1 = p.2.2.1 ∧ (outD (rowsV p.1)).2.1 = p.2.2.2.1 ∧ (outD (rowsV p.1)).2.2 = p.2.2.2.2) && decide (p.2.2.1 ≤ 5)
theorem rows10_ok : rows10.all okRow10 = true := by decide +kernel
def cellsR10 (p : Rx10) : List Value := [.string (baS p.1), .int .i64 (p.2.1 : Int), .int .i64 (p.2.2.1 : Int), .int .i64 (p.2.2.2.1 : Int), .int .i64 (p.2.2.2.2 : Int)]
theorem cellsR10_at : ∀ (l : List Rx10) (j i : Nat) (p), l[j]? = some p → i < 5 → (l.flatMap cellsR10)[j * 5 + i]? = (cellsR10 p)[i]?
  | [], j, i, p, h, _ => by simp at h
  | q :: r, 0, i, p, h, hi => by
    simp at h; subst h
    rw [List.flatMap_cons, List.getElem?_append_left (by simp [cellsR10]; omega), Nat.zero_mul, Nat.zero_add]
  | q :: r, j + 1, i, p, h, hi => by
    rw [List.flatMap_cons, List.getElem?_append_right (by simp [cellsR10]; omega), show (j + 1) * 5 + i - (cellsR10 q).length = j * 5 + i by simp [cellsR10]; omega]
    exact cellsR10_at r j i p (by simpa using h) hi
/-- A row lies in block b. -/
structure Fl10 (w : World) (b : Nat) (s : ByteArray) (n f k a : Int) : Prop where
  c0 : w.cell? ⟨b, 0, none⟩ = some (.string s)
  c1 : w.cell? ⟨b, 1, none⟩ = some (.int .i64 n)
  c2 : w.cell? ⟨b, 2, none⟩ = some (.int .i64 f)
  c3 : w.cell? ⟨b, 3, none⟩ = some (.int .i64 k)
  c4 : w.cell? ⟨b, 4, none⟩ = some (.int .i64 a)
  lt : b < w.heap.size
theorem Fl10.next {w w' : World} {b : Nat} {s : ByteArray} {n f k a : Int} (h : Fl10 w b s n f k a) (hb : Below w.heap.size w w') : Fl10 w' b s n f k a := by
  obtain ⟨q, m⟩ := keep hb b h.lt
  exact ⟨(q 0).trans h.c0, (q 1).trans h.c1, (q 2).trans h.c2, (q 3).trans h.c3, (q 4).trans h.c4, m⟩
def cells10 : List Value := [.string ⟨#[]⟩, .int .i64 0, .int .i64 0, .int .i64 0, .int .i64 0, .string ⟨#[10, 10]⟩, .int .i64 0, .int .i64 0, .int .i64 0, .int .i64 0, .string ⟨#[35, 10, 35, 32, 97, 61, 98]⟩, .int .i64 0, .int .i64 0, .int .i64 0, .int .i64 0, .string ⟨#[97, 61]⟩, .int .i64 1, .int .i64 1, .int .i64 0, .int .i64 0, .string ⟨#[97, 61, 98, 44, 99]⟩, .int .i64 1, .int .i64 2, .int .i64 0, .int .i64 0, .string ⟨#[97, 45, 98, 61, 44, 44, 10, 99, 61, 100, 13, 10]⟩, .int .i64 2, .int .i64 4, .int .i64 0, .int .i64 0, .string ⟨#[97, 61, 98, 61, 99]⟩, .int .i64 1, .int .i64 1, .int .i64 0, .int .i64 0, .string ⟨#[97, 61, 35]⟩, .int .i64 1, .int .i64 1, .int .i64 0, .int .i64 0, .string ⟨#[97]⟩, .int .i64 0, .int .i64 0, .int .i64 1, .int .i64 1, .string ⟨#[97, 10]⟩, .int .i64 0, .int .i64 0, .int .i64 1, .int .i64 1, .string ⟨#[61]⟩, .int .i64 0, .int .i64 0, .int .i64 1, .int .i64 0, .string ⟨#[32, 97, 61, 98]⟩, .int .i64 0, .int .i64 0, .int .i64 1, .int .i64 0, .string ⟨#[97, 32, 61, 98]⟩, .int .i64 0, .int .i64 0, .int .i64 1, .int .i64 1, .string ⟨#[65, 61, 98]⟩, .int .i64 0, .int .i64 0, .int .i64 1, .int .i64 0, .string ⟨#[97, 49, 61, 98]⟩, .int .i64 0, .int .i64 0, .int .i64 1, .int .i64 1, .string ⟨#[97, 61, 9, 98]⟩, .int .i64 0, .int .i64 0, .int .i64 1, .int .i64 2, .string ⟨#[97, 61, 195, 169]⟩, .int .i64 0, .int .i64 0, .int .i64 1, .int .i64 2, .string ⟨#[97, 61, 98, 10, 10, 98]⟩, .int .i64 0, .int .i64 0, .int .i64 1, .int .i64 6, .string ⟨#[97, 61, 98, 13]⟩, .int .i64 0, .int .i64 0, .int .i64 1, .int .i64 3]
set_option maxRecDepth 100000 in
theorem cells10_is : cells10 = rows10.flatMap cellsR10 := rfl
set_option maxHeartbeats 8000000 in
set_option maxRecDepth 100000 in
theorem dforms_row (n : Int) (k : Nat) (s : Bs) (L : List Rw) (x y : Nat) (w : World) (hk : k < 19) (hn : (bits BinOp.and IntKind.i64 n 255).tmod 19 = (k : Int)) (hx : rows10[k]? = some (s, L.length, sumL L, x, y)) (ho : outD (rowsV s) = (L, x, y)) (hs : s.length ≤ 20) (h5 : sumL L ≤ 5) :
    Calls Tryd.prog 3 #[.int .i64 n] w fun e w' => e = .returned (.bool true) ∧ Below w.heap.size w w' := by
  have h0 := cellsR10_at rows10 k 0 _ hx (by decide)
  have h1 := cellsR10_at rows10 k 1 _ hx (by decide)
  have h2 := cellsR10_at rows10 k 2 _ hx (by decide)
  have h3 := cellsR10_at rows10 k 3 _ hx (by decide)
  have h4 := cellsR10_at rows10 k 4 _ hx (by decide)
  rw [← cells10_is] at h0 h1 h2 h3 h4
  simp only [cellsR10, List.getElem?_cons_zero, List.getElem?_cons_succ, Nat.add_zero] at h0 h1 h2 h3 h4
  unfold cells10 at h0 h1 h2 h3 h4
  have HA : Hid (∀ V : World, Calls Tryd.prog 7 #[.slice (some ⟨V.heap.size, 0, none⟩) (baS s).size (grownCap V (baS s).size 0 5)] (Lib.bytesWorld V 5 (baS s)) fun e w' => (∃ p c, e = .returned (.tuple #[.slice p L.length c, .agg #[.int .i64 (x : Int), .int .i64 (y : Int)]]) ∧ RecW w' p L ∧ L.length ≤ 1000000) ∧ Below V.heap.size V w') := fun V => (parse10_s s V (by omega)).mono fun e w' h => h.out ho
  have kc : ∀ (V : World) (s : ByteArray), (convert 9 29 (.string s)).run Tryd.prog V = .ok (.slice (some ⟨V.heap.size, 0, none⟩) s.size (grownCap V s.size 0 5)) (Lib.bytesWorld V 5 s) := fun V s =>
    Lib.run_convert_string_bytes V 9 29 5 s Tryd.underlying9 Tryd.underlying29 Tryd.underlying5
  clear hx ho
  dsimp only at h0 h1 h2 h3 h4
  generalize baS s = S at *
  go_enter Tryd.func3, Tryd.ntmps3
  go_upto_region 3 with fail
  generalize hw1 : (w.alloc _).alloc _ = w1
  have B1 : Below w.heap.size w w1 := hw1 ▸ ball (ball (Below.refl _ _))
  have S1 : Fl10 w1 (w.heap.size + 1) S L.length (sumL L) x y := by
    subst hw1
    exact ⟨by simp [go_sem], by simp [go_sem], by simp [go_sem], by simp [go_sem], by simp [go_sem], by simp [go_sem]⟩
  clear h0 h1 h2 h3 h4 hn hk hw1
  generalize w.heap.size + 1 = X at *
  have s0 := S1.c0
  go_wp2_with fail
  clear s0
  refine (HA.out w1).mono ?_
  rintro e w2 ⟨⟨p, c, rfl, hr, hLs⟩, hb2⟩
  have S2 := S1.next hb2
  have B2 := below_next B1 hb2
  clear S1 hb2 B1 HA kc
  go_upto_region 4 with fail
  generalize hw3 : w2.alloc _ = w3
  have B3 : Below w.heap.size w w3 := hw3 ▸ ball B2
  have S3 : Fl10 w3 X S L.length (sumL L) x y := hw3 ▸ S2.next (ball (Below.refl _ _))
  have E3 : ErrC w3 w2.heap.size x y := by subst hw3; exact ⟨by simp [go_sem], by simp [go_sem], by simp [go_sem]⟩
  have R3 : Hid (RecW w3 p L) := Lib.hid (hw3 ▸ hr.below (ball (Below.refl _ _)))
  clear hw3 B2 S2 hr
  generalize w2.heap.size = N at *
  have s1 := S3.c1
  have s2 := S3.c2
  have s3 := S3.c3
  have s4 := S3.c4
  have e0 := E3.c0
  have e1 := E3.c1
  clear S3 E3
  go_wp2_with fail
  go_loopw [7, 46] (fun kv iv wr => ∃ j : Nat, iv = .int .i64 (j : Int) ∧ j ≤ L.length ∧ kv = .int .i64 (sumL (L.take j) : Int) ∧ wr = w3) (fun _ iv _ => L.length + 1 - intN iv)
  case atStart => exact ⟨0, rfl, Nat.zero_le _, rfl, rfl⟩
  case round =>
    obtain ⟨j, rfl, hj, rfl, hwr⟩ := hrel
    subst hwr
    by_cases hlt : j < L.length
    · have hrow := List.getElem?_eq_getElem hlt
      generalize L[j]'hlt = r at *
      obtain ⟨g, q, cq, hpa, _, _, hcell, _, _⟩ := R3.out j r hrow
      subst hpa
      have hst := sumL_take hrow
      have hle := sumL_le L (j + 1)
      rw [hst] at hle
      have HS := Lib.hid hst
      clear hst hrow
      generalize sumL (L.take j) = m at *
      go_wp2_with fail
      exact ⟨⟨j + 1, by simp, by omega, by rw [HS.out]; simp, trivial⟩, by simp [intN]; omega⟩
    · have hjn : ¬ ((j : Int) < (L.length : Int)) := by omega
      have hm : sumL (L.take j) = sumL L := by rw [List.take_of_length_le (by omega)]
      rw [hm]
      clear hm
      generalize sumL L = m at *
      go_wp2_with fail
      refine (awake10_x _).mono ?_
      rintro e w4 ⟨rfl, hb4⟩
      have B4 := below_next B3 hb4
      clear hb4 B3
      go_wp2
      go_ret
      exact ⟨rfl, B4⟩
theorem dforms_walk (n : Int) (w : World) :
    Calls Tryd.prog 3 #[.int .i64 n] w fun e w' => e = .returned (.bool true) ∧ Below w.heap.size w w' := by
  have hk : ∃ k : Nat, k < 19 ∧ (bits BinOp.and IntKind.i64 n 255).tmod 19 = (k : Int) := by
    rw [i64_and255, Int.tmod_eq_emod_of_nonneg (by omega)]
    exact ⟨(n % 256 % 19).toNat, by omega, by omega⟩
  obtain ⟨k, hk, hn⟩ := hk
  have hlt : k < rows10.length := hk
  have ho : okRow10 (rows10[k]'hlt) = true := List.all_eq_true.1 rows10_ok _ (List.getElem_mem hlt)
  generalize hr : rows10[k]'hlt = r at ho
  obtain ⟨s, m, f, x, y⟩ := r
  unfold okRow10 at ho
  simp only [Bool.and_eq_true, decide_eq_true_eq] at ho
  obtain ⟨⟨h1, h2, h3, h4, h5⟩, h6⟩ := ho
  generalize hO : outD (rowsV s) = O at h2 h3 h4 h5
  obtain ⟨L, x', y'⟩ := O
  simp only at h2 h3 h4 h5
  subst h2; subst h3; subst h4; subst h5
  exact dforms_row n k s L x' y' w hk hn (by rw [List.getElem?_eq_getElem hlt, hr]) hO h1 h6
end Go.Proofs.YtfmanmidihofgaaDoor
