/- DateForms: whichever row of days and clocks is asked for, the law answers true. -/
import Derived.Test.YtjoiedomdliadaaDoorLDBack
import Derived.Lib.QuietBelow
namespace Go.Proofs.YtjoiedomdliadaaDoor
open Go.ChangeShapes Go.WideShapes Go.RowKit Go.Sort

/-- The rows, by hand: a day, a clock, the second, the day of the week (-1: none). -/
def rows6 : List (Bs × Bs × Nat × Int) := [([49, 57, 55, 48, 47, 48, 49, 47, 48, 49], [48, 48, 58, 48, 48, 58, 48, 48], 0, 4), ([49, 57, 55, 48, 47, 49, 50, 47, 51, 49], [50, 51, 58, 53, 57, 58, 53, 57], 31535999, 4), ([49, 57, 55, 50, 47, 48, 50, 47, 50, 57], [48, 48, 58, 48, 48, 58, 48, 48], 68169600, 2), ([49, 57, 57, 57, 47, 49, 50, 47, 51, 49], [50, 51, 58, 53, 57, 58, 53, 57], 946684799, 5), ([50, 48, 48, 48, 47, 48, 49, 47, 48, 49], [48, 48, 58, 48, 48, 58, 48, 48], 946684800, 6), ([50, 48, 48, 48, 47, 48, 50, 47, 50, 57], [49, 50, 58, 48, 48, 58, 48, 48], 951825600, 2), ([50, 48, 48, 49, 47, 48, 57, 47, 48, 57], [48, 49, 58, 52, 54, 58, 52, 48], 1000000000, 0), ([50, 48, 51, 56, 47, 48, 49, 47, 49, 57], [48, 51, 58, 49, 52, 58, 48, 56], 2147483648, 2), ([50, 49, 48, 48, 47, 48, 51, 47, 48, 49], [48, 48, 58, 48, 48, 58, 48, 48], 4107542400, 1), ([57, 57, 57, 57, 47, 49, 50, 47, 51, 49], [50, 51, 58, 53, 57, 58, 53, 57], 253402300799, 5), ([49, 57, 54, 57, 47, 49, 50, 47, 51, 49], [50, 51, 58, 53, 57, 58, 53, 57], 0, (-1)), ([50, 49, 48, 48, 47, 48, 50, 47, 50, 57], [48, 48, 58, 48, 48, 58, 48, 48], 0, (-1)), ([50, 48, 48, 49, 47, 48, 50, 47, 50, 57], [48, 48, 58, 48, 48, 58, 48, 48], 0, (-1)), ([50, 48, 48, 49, 47, 48, 48, 47, 48, 49], [48, 48, 58, 48, 48, 58, 48, 48], 0, (-1)), ([50, 48, 48, 49, 47, 49, 51, 47, 48, 49], [48, 48, 58, 48, 48, 58, 48, 48], 0, (-1)), ([50, 48, 48, 49, 47, 48, 52, 47, 51, 49], [48, 48, 58, 48, 48, 58, 48, 48], 0, (-1)), ([50, 48, 48, 49, 47, 48, 49, 47, 48, 48], [48, 48, 58, 48, 48, 58, 48, 48], 0, (-1)), ([50, 48, 48, 49, 47, 48, 49, 47, 48, 49], [50, 52, 58, 48, 48, 58, 48, 48], 0, (-1)), ([50, 48, 48, 49, 47, 48, 49, 47, 48, 49], [48, 48, 58, 54, 48, 58, 48, 48], 0, (-1)), ([50, 48, 48, 49, 47, 48, 49, 47, 48, 49], [48, 48, 58, 48, 48, 58, 54, 48], 0, (-1)), ([50, 48, 48, 49, 45, 48, 49, 45, 48, 49], [48, 48, 58, 48, 48, 58, 48, 48], 0, (-1)), ([50, 48, 48, 49, 47, 49, 47, 48, 49], [48, 48, 58, 48, 48, 58, 48, 48], 0, (-1)), ([50, 48, 48, 49, 47, 48, 49, 47, 48, 49], [48, 58, 48, 48, 58, 48, 48], 0, (-1)), ([], [], 0, (-1))]
def okYes6 (a b : Bs) (c : Nat) (d : Int) : Bool := decide (dateQ a b = some c) && decide (c ≤ 253402300799) && decide (((weekN c : Nat) : Int) = d) && (match formV dayF a 0 0 0 0 with
  | some (y, m, e) => decide (1970 ≤ y) && decide (y ≤ 9999) && decide (1 ≤ m) && decide (m ≤ 12) && decide (1 ≤ e) && decide (e ≤ monL y m) && decide (dayQ y m e = c / 86400) && decide (dayT y m e = a) && decide (clockT (c % 86400) = b)
  | none => false)
def okRow6 (p : Bs × Bs × Nat × Int) : Bool := if 0 ≤ p.2.2.2 then okYes6 p.1 p.2.1 p.2.2.1 p.2.2.2 else decide (dateQ p.1 p.2.1 = none) && decide (p.2.2.1 = 0)
theorem rows6_ok : rows6.all okRow6 = true := by decide +kernel
def cells6 : List Value := [.string ⟨#[49, 57, 55, 48, 47, 48, 49, 47, 48, 49]⟩, .string ⟨#[48, 48, 58, 48, 48, 58, 48, 48]⟩, .int .u64 0, .int .i64 4, .string ⟨#[49, 57, 55, 48, 47, 49, 50, 47, 51, 49]⟩, .string ⟨#[50, 51, 58, 53, 57, 58, 53, 57]⟩, .int .u64 31535999, .int .i64 4, .string ⟨#[49, 57, 55, 50, 47, 48, 50, 47, 50, 57]⟩, .string ⟨#[48, 48, 58, 48, 48, 58, 48, 48]⟩, .int .u64 68169600, .int .i64 2, .string ⟨#[49, 57, 57, 57, 47, 49, 50, 47, 51, 49]⟩, .string ⟨#[50, 51, 58, 53, 57, 58, 53, 57]⟩, .int .u64 946684799, .int .i64 5, .string ⟨#[50, 48, 48, 48, 47, 48, 49, 47, 48, 49]⟩, .string ⟨#[48, 48, 58, 48, 48, 58, 48, 48]⟩, .int .u64 946684800, .int .i64 6, .string ⟨#[50, 48, 48, 48, 47, 48, 50, 47, 50, 57]⟩, .string ⟨#[49, 50, 58, 48, 48, 58, 48, 48]⟩, .int .u64 951825600, .int .i64 2, .string ⟨#[50, 48, 48, 49, 47, 48, 57, 47, 48, 57]⟩, .string ⟨#[48, 49, 58, 52, 54, 58, 52, 48]⟩, .int .u64 1000000000, .int .i64 0, .string ⟨#[50, 48, 51, 56, 47, 48, 49, 47, 49, 57]⟩, .string ⟨#[48, 51, 58, 49, 52, 58, 48, 56]⟩, .int .u64 2147483648, .int .i64 2, .string ⟨#[50, 49, 48, 48, 47, 48, 51, 47, 48, 49]⟩, .string ⟨#[48, 48, 58, 48, 48, 58, 48, 48]⟩, .int .u64 4107542400, .int .i64 1, .string ⟨#[57, 57, 57, 57, 47, 49, 50, 47, 51, 49]⟩, .string ⟨#[50, 51, 58, 53, 57, 58, 53, 57]⟩, .int .u64 253402300799, .int .i64 5, .string ⟨#[49, 57, 54, 57, 47, 49, 50, 47, 51, 49]⟩, .string ⟨#[50, 51, 58, 53, 57, 58, 53, 57]⟩, .int .u64 0, .int .i64 (-1), .string ⟨#[50, 49, 48, 48, 47, 48, 50, 47, 50, 57]⟩, .string ⟨#[48, 48, 58, 48, 48, 58, 48, 48]⟩, .int .u64 0, .int .i64 (-1), .string ⟨#[50, 48, 48, 49, 47, 48, 50, 47, 50, 57]⟩, .string ⟨#[48, 48, 58, 48, 48, 58, 48, 48]⟩, .int .u64 0, .int .i64 (-1), .string ⟨#[50, 48, 48, 49, 47, 48, 48, 47, 48, 49]⟩, .string ⟨#[48, 48, 58, 48, 48, 58, 48, 48]⟩, .int .u64 0, .int .i64 (-1), .string ⟨#[50, 48, 48, 49, 47, 49, 51, 47, 48, 49]⟩, .string ⟨#[48, 48, 58, 48, 48, 58, 48, 48]⟩, .int .u64 0, .int .i64 (-1), .string ⟨#[50, 48, 48, 49, 47, 48, 52, 47, 51, 49]⟩, .string ⟨#[48, 48, 58, 48, 48, 58, 48, 48]⟩, .int .u64 0, .int .i64 (-1), .string ⟨#[50, 48, 48, 49, 47, 48, 49, 47, 48, 48]⟩, .string ⟨#[48, 48, 58, 48, 48, 58, 48, 48]⟩, .int .u64 0, .int .i64 (-1), .string ⟨#[50, 48, 48, 49, 47, 48, 49, 47, 48, 49]⟩, .string ⟨#[50, 52, 58, 48, 48, 58, 48, 48]⟩, .int .u64 0, .int .i64 (-1), .string ⟨#[50, 48, 48, 49, 47, 48, 49, 47, 48, 49]⟩, .string ⟨#[48, 48, 58, 54, 48, 58, 48, 48]⟩, .int .u64 0, .int .i64 (-1), .string ⟨#[50, 48, 48, 49, 47, 48, 49, 47, 48, 49]⟩, .string ⟨#[48, 48, 58, 48, 48, 58, 54, 48]⟩, .int .u64 0, .int .i64 (-1), .string ⟨#[50, 48, 48, 49, 45, 48, 49, 45, 48, 49]⟩, .string ⟨#[48, 48, 58, 48, 48, 58, 48, 48]⟩, .int .u64 0, .int .i64 (-1), .string ⟨#[50, 48, 48, 49, 47, 49, 47, 48, 49]⟩, .string ⟨#[48, 48, 58, 48, 48, 58, 48, 48]⟩, .int .u64 0, .int .i64 (-1), .string ⟨#[50, 48, 48, 49, 47, 48, 49, 47, 48, 49]⟩, .string ⟨#[48, 58, 48, 48, 58, 48, 48]⟩, .int .u64 0, .int .i64 (-1), .string ⟨#[]⟩, .string ⟨#[]⟩, .int .u64 0, .int .i64 (-1)]
theorem cells6_at : ∀ k, k < 24 → cells6[k * 4]? = some (.string (baS (rows6.getD k ([], [], 0, 0)).1)) ∧ cells6[k * 4 + 1]? = some (.string (baS (rows6.getD k ([], [], 0, 0)).2.1)) ∧ cells6[k * 4 + 2]? = some (.int .u64 ((rows6.getD k ([], [], 0, 0)).2.2.1 : Nat)) ∧ cells6[k * 4 + 3]? = some (.int .i64 (rows6.getD k ([], [], 0, 0)).2.2.2) := by
  intro k hk
  rcases (show k = 0 ∨ k = 1 ∨ k = 2 ∨ k = 3 ∨ k = 4 ∨ k = 5 ∨ k = 6 ∨ k = 7 ∨ k = 8 ∨ k = 9 ∨ k = 10 ∨ k = 11 ∨ k = 12 ∨ k = 13 ∨ k = 14 ∨ k = 15 ∨ k = 16 ∨ k = 17 ∨ k = 18 ∨ k = 19 ∨ k = 20 ∨ k = 21 ∨ k = 22 ∨ k = 23 by omega) with rfl | rfl | rfl | rfl | rfl | rfl | rfl | rfl | rfl | rfl | rfl | rfl | rfl | rfl | rfl | rfl | rfl | rfl | rfl | rfl | rfl | rfl | rfl | rfl <;> exact ⟨rfl, rfl, rfl, rfl⟩
/-- A row lies in block b. -/
structure Fl (w : World) (b : Nat) (s t : ByteArray) (n d : Int) : Prop where
  c0 : w.cell? ⟨b, 0, none⟩ = some (.string s)
  c1 : w.cell? ⟨b, 1, none⟩ = some (.string t)
  c2 : w.cell? ⟨b, 2, none⟩ = some (.int .u64 n)
  c3 : w.cell? ⟨b, 3, none⟩ = some (.int .i64 d)
  lt : b < w.heap.size
theorem Fl.next {w w' : World} {b : Nat} {s t : ByteArray} {n d : Int} (h : Fl w b s t n d) (hb : Below w.heap.size w w') : Fl w' b s t n d := by
  obtain ⟨k, l⟩ := keep hb b h.lt
  exact ⟨(k 0).trans h.c0, (k 1).trans h.c1, (k 2).trans h.c2, (k 3).trans h.c3, l⟩
theorem yes6 {a b : Bs} {c : Nat} {d : Int} (h : okYes6 a b c d = true) : dateQ a b = some c ∧ c ≤ 253402300799 ∧ ((weekN c : Nat) : Int) = d ∧ ∃ y m e, (1970 ≤ y ∧ y ≤ 9999 ∧ 1 ≤ m ∧ m ≤ 12 ∧ 1 ≤ e ∧ e ≤ monL y m) ∧ dayQ y m e = c / 86400 ∧ dayT y m e = a ∧ clockT (c % 86400) = b := by
  unfold okYes6 at h
  rw [Bool.and_eq_true, Bool.and_eq_true, Bool.and_eq_true] at h
  obtain ⟨⟨⟨h1, h2⟩, h3⟩, h4⟩ := h
  refine ⟨of_decide_eq_true h1, of_decide_eq_true h2, of_decide_eq_true h3, ?_⟩
  split at h4
  · rename_i y m e _
    simp only [Bool.and_eq_true, decide_eq_true_eq] at h4
    obtain ⟨⟨⟨⟨⟨⟨⟨⟨a1, a2⟩, a3⟩, a4⟩, a5⟩, a6⟩, a7⟩, a8⟩, a9⟩ := h4
    exact ⟨y, m, e, ⟨a1, a2, a3, a4, a5, a6⟩, a7, a8, a9⟩
  · cases h4
set_option maxHeartbeats 8000000 in
set_option maxRecDepth 100000 in
theorem dforms_yes (n : Int) (k : Nat) (a b : Bs) (c : Nat) (d : Int) (w : World) (hg : Gl w) (hk : k < 24) (hn : (bits BinOp.and IntKind.i64 n 255).tmod 24 = (k : Int)) (h1 : cells6[k * 4]? = some (.string (baS a))) (h2 : cells6[k * 4 + 1]? = some (.string (baS b))) (h3 : cells6[k * 4 + 2]? = some (.int .u64 (c : Nat))) (h4 : cells6[k * 4 + 3]? = some (.int .i64 d)) (hd : 0 ≤ d) (ho : okYes6 a b c d = true) :
    Calls Tryd.prog 3 #[.int .i64 n] w fun e w' => e = .returned (.bool true) ∧ Below w.heap.size w w' := by
  unfold cells6 at h1 h2 h3 h4
  have HG := Lib.hid hg
  have hk0 : (0 : Int) ≤ k := by omega
  have hk1 : (k : Int) < 24 := by omega
  obtain ⟨q1, q2, q3, y, m, e, q4, q5, q6, q7⟩ := yes6 ho
  have HP : Hid (∀ w, Gl w → Calls Tryd.prog 7 #[.string (baS a), .string (baS b)] w fun e w' => e = .returned (.tuple #[.int .u64 (c : Nat), .bool true]) ∧ Below w.heap.size w w') := fun w hg => parseD_is (baS a) (baS b) (some c) w hg q1
  have HT : Hid (∀ w, Gl w → Calls Tryd.prog 9 #[.int .u64 (c : Nat)] w fun e w' => e = .returned (.tuple #[.string (baS a), .string (baS b), .bool true]) ∧ Below w.heap.size w w') := fun w hg => printD_is c y m e a b w hg q2 q4 q5 q6 q7
  have HW : Hid (∀ w, Calls Tryd.prog 10 #[.int .u64 (c : Nat)] w fun e w' => e = .returned (.int .i64 d) ∧ Below w.heap.size w w') := fun w => by
    have := weekD_x c w (by omega)
    rw [q3] at this
    exact this.mono fun _ _ ⟨a, b⟩ => ⟨a, b ▸ Below.refl _ _⟩
  clear hg q1 q2 q3 q4 q5 q6 q7 ho
  go_enter Tryd.func3, Tryd.ntmps3
  go_wp2_with fail
  clear h1 h2 h3 h4 hn hk0 hk1 hk
  refine (HP.out _ ((HG.out.alloc _).alloc _)).mono ?_
  rintro e w1 ⟨rfl, hb1⟩
  have S1 : Fl w1 (w.heap.size + 1) (baS a) (baS b) c d := by
    obtain ⟨k1, l1⟩ := keep hb1 (w.heap.size + 1) (by simp)
    exact ⟨by rw [k1]; simp [go_sem], by rw [k1]; simp [go_sem], by rw [k1]; simp [go_sem], by rw [k1]; simp [go_sem], l1⟩
  have B1 := below_next (ball (ball (Below.refl _ _))) hb1
  clear hb1
  have s2 := S1.c2; have s3 := S1.c3
  go_wp2_with fail
  clear s2 s3
  refine (HT.out _ (HG.out.below B1)).mono ?_
  rintro e w2 ⟨rfl, hb2⟩
  have S2 := S1.next hb2
  have B2 := below_next B1 hb2
  clear S1 hb2 B1
  have GV := Lib.hid (HG.out.below B2)
  go_wp2_with fail
  have s0 := cell_regrown S2.c0; have s1 := cell_regrown S2.c1; have s2 := cell_regrown S2.c2; have s3 := cell_regrown S2.c3
  refine wp_region_quiet_below (by kernel_rfl) (by kernel_rfl) ?_
  repeat (go_big_quiet_step (fail))
  go_big_quiet_step ((go_at_call 10; exact Calls.regrown_of (HW.out _)))
  repeat (go_big_quiet_step (fail))
  go_big_quiet_step ((go_at_call 8; exact Calls.regrown_of (awake6_x _ (GV.out.below (below_regrown w2 _ _)))))
  repeat (go_big_quiet_step (fail))
  refine wpQuiet_nil ?_
  intro _ hw'
  obtain ⟨⟨dq, osq⟩, hw''⟩ := hw'
  subst hw''
  go_wp2
  go_ret
  exact ⟨rfl, below_next B2 (below_regrown w2 dq osq)⟩
set_option maxHeartbeats 8000000 in
set_option maxRecDepth 100000 in
theorem dforms_no (n : Int) (k : Nat) (a b : Bs) (d : Int) (w : World) (hg : Gl w) (hk : k < 24) (hn : (bits BinOp.and IntKind.i64 n 255).tmod 24 = (k : Int)) (h1 : cells6[k * 4]? = some (.string (baS a))) (h2 : cells6[k * 4 + 1]? = some (.string (baS b))) (h3 : cells6[k * 4 + 2]? = some (.int .u64 0)) (h4 : cells6[k * 4 + 3]? = some (.int .i64 d)) (hd : ¬ 0 ≤ d) (ho : dateQ a b = none) :
    Calls Tryd.prog 3 #[.int .i64 n] w fun e w' => e = .returned (.bool true) ∧ Below w.heap.size w w' := by
  unfold cells6 at h1 h2 h3 h4
  have HG := Lib.hid hg
  have hk0 : (0 : Int) ≤ k := by omega
  have hk1 : (k : Int) < 24 := by omega
  have HP : Hid (∀ w, Gl w → Calls Tryd.prog 7 #[.string (baS a), .string (baS b)] w fun e w' => e = .returned (.tuple #[.int .u64 0, .bool false]) ∧ Below w.heap.size w w') := fun w hg => parseD_is (baS a) (baS b) none w hg ho
  clear hg ho
  go_enter Tryd.func3, Tryd.ntmps3
  go_wp2_with fail
  clear h1 h2 h3 h4 hn hk0 hk1 hk
  refine (HP.out _ ((HG.out.alloc _).alloc _)).mono ?_
  rintro e w1 ⟨rfl, hb1⟩
  have S1 : Fl w1 (w.heap.size + 1) (baS a) (baS b) 0 d := by
    obtain ⟨k1, l1⟩ := keep hb1 (w.heap.size + 1) (by simp)
    exact ⟨by rw [k1]; simp [go_sem], by rw [k1]; simp [go_sem], by rw [k1]; simp [go_sem], by rw [k1]; simp [go_sem], l1⟩
  have B1 := below_next (ball (ball (Below.refl _ _))) hb1
  clear hb1
  have s2 := S1.c2; have s3 := S1.c3
  go_wp2_with fail
  refine (awake6_x _ (HG.out.below B1)).mono ?_
  rintro e w2 ⟨rfl, hb2⟩
  go_wp2
  go_ret
  exact ⟨rfl, below_next B1 hb2⟩
theorem dforms_walk (n : Int) (w : World) (hg : Gl w) :
    Calls Tryd.prog 3 #[.int .i64 n] w fun e w' => e = .returned (.bool true) ∧ Below w.heap.size w w' := by
  have h : ∃ k : Nat, k < 24 ∧ (bits BinOp.and IntKind.i64 n 255).tmod 24 = (k : Int) := by
    rw [i64_and255, Int.tmod_eq_emod_of_nonneg (by omega)]
    exact ⟨(n % 256 % 24).toNat, by omega, by omega⟩
  obtain ⟨k, hk, e⟩ := h
  obtain ⟨a, b, c, d⟩ := cells6_at k hk
  have hlen : rows6.length = 24 := rfl
  have hm := List.all_eq_true.1 rows6_ok (rows6[k]'(by omega)) (List.getElem_mem _)
  rw [show rows6.getD k ([], [], 0, 0) = rows6[k]'(by omega) by simp [List.getD, List.getElem?_eq_getElem (show k < rows6.length by omega)]] at a b c d
  unfold okRow6 at hm
  by_cases h0 : 0 ≤ (rows6[k]'(by omega)).2.2.2
  · rw [if_pos h0] at hm
    exact dforms_yes n k _ _ _ _ w hg hk e a b c d h0 hm
  · rw [if_neg h0, Bool.and_eq_true] at hm
    rw [of_decide_eq_true hm.2] at c
    exact dforms_no n k _ _ _ w hg hk e a b c d h0 (of_decide_eq_true hm.1)
end Go.Proofs.YtjoiedomdliadaaDoor
