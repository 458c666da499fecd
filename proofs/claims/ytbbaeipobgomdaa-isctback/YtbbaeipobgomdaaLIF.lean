/- IsctForms: whichever row of texts is asked for, the law answers true. -/
import Derived.Test.YtbbaeipobgomdaaTq
import Derived.Deep.DeepCutAuto
namespace Go.Proofs.Ytbbaeipobgomdaa
open Go.ChangeShapes Go.WideShapes Go.RowKit Go.Sort
/-- A text's bytes, where '[]byte(s)' laid them. -/
theorem bytes_conv (V : World) (l : Bs) : BytesAt (Lib.bytesWorld V 5 (baS l)) (some ⟨V.heap.size, 0, none⟩) l := fun j b hj => by
  have hlt := (List.getElem?_eq_some_iff.1 hj).1
  refine ⟨_, rfl, by rw [Lib.bytesWorld_size]; simp, ?_⟩
  have e : ((⟨V.heap.size, 0, none⟩ : Addr).add j) = ⟨V.heap.size, j, none⟩ := by
    unfold Addr.add; split <;> simp_all
  rw [e, Lib.bytesWorld_cell V _ _ j (by rw [baS_size]; exact hlt)]
  simp [baS, List.getD, hj]
theorem conv_below (V : World) (l : Bs) : Below V.heap.size V (Lib.bytesWorld V 5 (baS l)) := Joins.below_bytesWorld _ _ _ _ (Nat.le_refl _)
theorem tokens_s (l : Bs) (V : World) (hl : l.length ≤ 1000000) :
    Calls Try.prog 7 #[.slice (some ⟨V.heap.size, 0, none⟩) (baS l).size (grownCap V (baS l).size 0 5)] (Lib.bytesWorld V 5 (baS l)) fun e w' => TokensE V l e w' := by
  rw [baS_size]
  refine (tokens_x l _ _ _ (bytes_conv V l) (grownCap_ge _ _ _ _) hl).mono fun e w' h => ?_
  unfold TokensE at h ⊢
  exact ⟨h.1, below_next (conv_below V l) h.2⟩
/-- The rows, by hand: a text, how many signs it has, what is wrong, where. -/
def rows8 : List (Bs × Nat × Nat × Nat) := [([], 0, 0, 0), ([32, 9, 13, 10], 0, 0, 0), ([35, 32, 97], 0, 0, 0), ([97], 1, 0, 0), ([97, 32, 98], 2, 0, 0), ([97, 59, 98], 3, 0, 0), ([123, 125, 44, 59], 4, 0, 0), ([49, 46, 50, 46, 51, 46, 52, 47, 56, 95, 45, 58], 1, 0, 0), ([34, 34], 1, 0, 0), ([34, 97, 32, 98, 34, 99], 2, 0, 0), ([34, 92, 34, 34], 1, 0, 0), ([97, 35, 98, 10, 99], 2, 0, 0), ([61], 0, 1, 0), ([97, 61], 0, 1, 1), ([97, 32, 40], 0, 1, 2), ([34], 0, 1, 1), ([34, 97], 0, 1, 2), ([34, 97, 10, 34], 0, 1, 2), ([34, 92, 97, 34], 0, 1, 2), ([34, 92], 0, 1, 2), ([195, 169], 0, 1, 0), ([97, 195, 169], 0, 1, 1), ([34, 195, 169, 34], 0, 1, 1), ([39, 97, 39], 0, 1, 0)]
def okRow8 (p : Bs × Nat × Nat × Nat) : Bool := decide (p.1.length ≤ 20) && (match tokV p.1 with | .ok L => decide (L.length = p.2.1 ∧ p.2.2.1 = 0 ∧ p.2.2.2 = 0) | .bad k a => decide (p.2.1 = 0 ∧ p.2.2.1 = k ∧ p.2.2.2 = a))
theorem rows8_ok : rows8.all okRow8 = true := by decide +kernel
def cellsR (p : Bs × Nat × Nat × Nat) : List Value := [.string (baS p.1), .int .i64 (p.2.1 : Int), .int .i64 (p.2.2.1 : Int), .int .i64 (p.2.2.2 : Int)]
theorem cellsR_at : ∀ (l : List (Bs × Nat × Nat × Nat)) (j i : Nat) (p), l[j]? = some p → i < 4 → (l.flatMap cellsR)[j * 4 + i]? = (cellsR p)[i]?
  | [], j, i, p, h, _ => by simp at h
  | q :: r, 0, i, p, h, hi => by
    simp at h; subst h
    rw [List.flatMap_cons, List.getElem?_append_left (by simp [cellsR]; omega), Nat.zero_mul, Nat.zero_add]
  | q :: r, j + 1, i, p, h, hi => by
    rw [List.flatMap_cons, List.getElem?_append_right (by simp [cellsR]; omega), show (j + 1) * 4 + i - (cellsR q).length = j * 4 + i by simp [cellsR]; omega]
    exact cellsR_at r j i p (by simpa using h) hi
/-- A row lies in block b. -/
structure Fl (w : World) (b : Nat) (s : ByteArray) (n k a : Int) : Prop where
  c0 : w.cell? ⟨b, 0, none⟩ = some (.string s)
  c1 : w.cell? ⟨b, 1, none⟩ = some (.int .i64 n)
  c2 : w.cell? ⟨b, 2, none⟩ = some (.int .i64 k)
  c3 : w.cell? ⟨b, 3, none⟩ = some (.int .i64 a)
  lt : b < w.heap.size
theorem Fl.next {w w' : World} {b : Nat} {s : ByteArray} {n k a : Int} (h : Fl w b s n k a) (hb : Below w.heap.size w w') : Fl w' b s n k a := by
  obtain ⟨q, m⟩ := keep hb b h.lt
  exact ⟨(q 0).trans h.c0, (q 1).trans h.c1, (q 2).trans h.c2, (q 3).trans h.c3, m⟩
def cells8 : List Value := [.string ⟨#[]⟩, .int .i64 0, .int .i64 0, .int .i64 0, .string ⟨#[32, 9, 13, 10]⟩, .int .i64 0, .int .i64 0, .int .i64 0, .string ⟨#[35, 32, 97]⟩, .int .i64 0, .int .i64 0, .int .i64 0, .string ⟨#[97]⟩, .int .i64 1, .int .i64 0, .int .i64 0, .string ⟨#[97, 32, 98]⟩, .int .i64 2, .int .i64 0, .int .i64 0, .string ⟨#[97, 59, 98]⟩, .int .i64 3, .int .i64 0, .int .i64 0, .string ⟨#[123, 125, 44, 59]⟩, .int .i64 4, .int .i64 0, .int .i64 0, .string ⟨#[49, 46, 50, 46, 51, 46, 52, 47, 56, 95, 45, 58]⟩, .int .i64 1, .int .i64 0, .int .i64 0, .string ⟨#[34, 34]⟩, .int .i64 1, .int .i64 0, .int .i64 0, .string ⟨#[34, 97, 32, 98, 34, 99]⟩, .int .i64 2, .int .i64 0, .int .i64 0, .string ⟨#[34, 92, 34, 34]⟩, .int .i64 1, .int .i64 0, .int .i64 0, .string ⟨#[97, 35, 98, 10, 99]⟩, .int .i64 2, .int .i64 0, .int .i64 0, .string ⟨#[61]⟩, .int .i64 0, .int .i64 1, .int .i64 0, .string ⟨#[97, 61]⟩, .int .i64 0, .int .i64 1, .int .i64 1, .string ⟨#[97, 32, 40]⟩, .int .i64 0, .int .i64 1, .int .i64 2, .string ⟨#[34]⟩, .int .i64 0, .int .i64 1, .int .i64 1, .string ⟨#[34, 97]⟩, .int .i64 0, .int .i64 1, .int .i64 2, .string ⟨#[34, 97, 10, 34]⟩, .int .i64 0, .int .i64 1, .int .i64 2, .string ⟨#[34, 92, 97, 34]⟩, .int .i64 0, .int .i64 1, .int .i64 2, .string ⟨#[34, 92]⟩, .int .i64 0, .int .i64 1, .int .i64 2, .string ⟨#[195, 169]⟩, .int .i64 0, .int .i64 1, .int .i64 0, .string ⟨#[97, 195, 169]⟩, .int .i64 0, .int .i64 1, .int .i64 1, .string ⟨#[34, 195, 169, 34]⟩, .int .i64 0, .int .i64 1, .int .i64 1, .string ⟨#[39, 97, 39]⟩, .int .i64 0, .int .i64 1, .int .i64 0]
set_option maxRecDepth 100000 in
theorem cells8_is : cells8 = rows8.flatMap cellsR := rfl
theorem row_call {s : Bs} {n k a : Nat} (ho : okRow8 (s, n, k, a) = true) (V : World) :
    Calls Try.prog 7 #[.slice (some ⟨V.heap.size, 0, none⟩) (baS s).size (grownCap V (baS s).size 0 5)] (Lib.bytesWorld V 5 (baS s)) fun e w' => (∃ p c, e = .returned (.tuple #[.slice p n c, .agg #[.int .i64 (k : Int), .int .i64 (a : Int)]])) ∧ Below V.heap.size V w' := by
  unfold okRow8 at ho
  simp only [Bool.and_eq_true, decide_eq_true_eq] at ho
  obtain ⟨h1, h2⟩ := ho
  refine (tokens_s s V (by omega)).mono fun e w' h => ?_
  unfold TokensE at h
  cases ht : tokV s with
  | ok L =>
    rw [ht] at h h2
    simp only [decide_eq_true_eq] at h2
    obtain ⟨⟨p, c, e1, _⟩, hb⟩ := h
    obtain ⟨rfl, rfl, rfl⟩ := h2
    exact ⟨⟨p, c, e1⟩, hb⟩
  | bad x y =>
    rw [ht] at h h2
    simp only [decide_eq_true_eq] at h2
    obtain ⟨rfl, rfl, rfl⟩ := h2
    exact ⟨⟨none, 0, h.1⟩, h.2⟩
set_option maxHeartbeats 8000000 in
set_option maxRecDepth 100000 in
theorem iforms_row (n : Int) (k : Nat) (s : Bs) (m x y : Nat) (w : World) (hk : k < 24) (hn : (bits BinOp.and IntKind.i64 n 255).tmod 24 = (k : Int)) (hx : rows8[k]? = some (s, m, x, y)) (ho : okRow8 (s, m, x, y) = true) :
    Calls Try.prog 3 #[.int .i64 n] w fun e w' => e = .returned (.bool true) ∧ Below w.heap.size w w' := by
  have h0 := cellsR_at rows8 k 0 _ hx (by decide)
  have h1 := cellsR_at rows8 k 1 _ hx (by decide)
  have h2 := cellsR_at rows8 k 2 _ hx (by decide)
  have h3 := cellsR_at rows8 k 3 _ hx (by decide)
  rw [← cells8_is] at h0 h1 h2 h3
  simp only [cellsR, List.getElem?_cons_zero, List.getElem?_cons_succ, Nat.add_zero] at h0 h1 h2 h3
  unfold cells8 at h0 h1 h2 h3
  have HA := Lib.hid (row_call ho)
  have kc : ∀ (V : World) (s : ByteArray), (convert 9 29 (.string s)).run Try.prog V = .ok (.slice (some ⟨V.heap.size, 0, none⟩) s.size (grownCap V s.size 0 5)) (Lib.bytesWorld V 5 s) := fun V s =>
    Lib.run_convert_string_bytes V 9 29 5 s Try.underlying9 Try.underlying29 Try.underlying5
  clear hx ho
  dsimp only at h0 h1 h2 h3
  generalize baS s = S at *
  go_enter Try.func3, Try.ntmps3
  go_upto_region 3 with fail
  generalize hw1 : (w.alloc _).alloc _ = w1
  have B1 : Below w.heap.size w w1 := hw1 ▸ ball (ball (Below.refl _ _))
  have S1 : Fl w1 (w.heap.size + 1) S m x y := by
    subst hw1
    exact ⟨by simp [go_sem], by simp [go_sem], by simp [go_sem], by simp [go_sem], by simp [go_sem]⟩
  clear h0 h1 h2 h3 hn hk hw1
  generalize w.heap.size + 1 = X at *
  have s0 := S1.c0
  go_wp2_with fail
  clear s0
  refine (HA.out w1).mono ?_
  rintro e w2 ⟨⟨p, c, rfl⟩, hb2⟩
  have S2 := S1.next hb2
  have B2 := below_next B1 hb2
  clear S1 hb2 B1 HA kc
  go_upto_region 4 with fail
  generalize hw3 : w2.alloc _ = w3
  have B3 : Below w.heap.size w w3 := hw3 ▸ ball B2
  have S3 : Fl w3 X S m x y := hw3 ▸ S2.next (ball (Below.refl _ _))
  have E3 : ErrC w3 w2.heap.size x y := by subst hw3; exact ⟨by simp [go_sem], by simp [go_sem], by simp [go_sem]⟩
  clear hw3 B2 S2
  generalize w2.heap.size = N at *
  have s1 := S3.c1
  have s2 := S3.c2
  have s3 := S3.c3
  have e0 := E3.c0
  have e1 := E3.c1
  clear S3 E3
  go_wp2_with fail
  refine (awake8_x w3).mono ?_
  rintro e w4 ⟨rfl, hb4⟩
  have B4 := below_next B3 hb4
  clear hb4 B3
  go_wp2
  go_ret
  exact ⟨rfl, B4⟩
theorem iforms_walk (n : Int) (w : World) :
    Calls Try.prog 3 #[.int .i64 n] w fun e w' => e = .returned (.bool true) ∧ Below w.heap.size w w' := by
  have hk : ∃ k : Nat, k < 24 ∧ (bits BinOp.and IntKind.i64 n 255).tmod 24 = (k : Int) := by
    rw [i64_and255, Int.tmod_eq_emod_of_nonneg (by omega)]
    exact ⟨(n % 256 % 24).toNat, by omega, by omega⟩
  obtain ⟨k, hk, hn⟩ := hk
  have hlt : k < rows8.length := hk
  have ho : okRow8 (rows8[k]'hlt) = true := List.all_eq_true.1 rows8_ok _ (List.getElem_mem hlt)
  generalize hr : rows8[k]'hlt = r at ho
  obtain ⟨s, m, x, y⟩ := r
  exact iforms_row n k s m x y w hk hn (by rw [List.getElem?_eq_getElem hlt, hr]) ho
end Go.Proofs.Ytbbaeipobgomdaa
