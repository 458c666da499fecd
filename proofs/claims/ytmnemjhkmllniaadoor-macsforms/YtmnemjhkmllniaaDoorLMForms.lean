/- MacsForms: whichever row of texts is asked for, the law answers true. -/
import Derived.Test.YtmnemjhkmllniaaDoorMs
namespace Go.Proofs.YtmnemjhkmllniaaDoor
open Go.ChangeShapes Go.WideShapes Go.RowKit Go.Sort

/-- The rows, by hand: a text; the number, whether it is a hardware address, whether it is a name. -/
def rows5 : List (Bs × Nat × Bool × Bool) := [([48, 48, 58, 48, 48, 58, 48, 48, 58, 48, 48, 58, 48, 48, 58, 48, 48], 0, true, false), ([102, 102, 58, 70, 70, 58, 102, 102, 58, 70, 102, 58, 102, 70, 58, 102, 102], 281474976710655, true, false), ([48, 48, 58, 48, 48, 58, 48, 48, 58, 48, 48, 58, 48, 48, 58, 48, 103], 0, false, false), ([48, 58, 48, 48, 58, 48, 48, 58, 48, 48, 58, 48, 48, 58, 48, 48], 0, false, false), ([48, 48, 45, 48, 48, 45, 48, 48, 45, 48, 48, 45, 48, 48, 45, 48, 48], 0, false, true), ([48, 48, 48, 48, 48, 48, 48, 48, 48, 48, 48, 48], 0, false, true), ([48, 48, 58, 48, 48, 58, 48, 48, 58, 48, 48, 58, 48, 48, 58, 48, 48, 58, 48, 48], 0, false, false), ([48, 48, 58, 48, 48, 58, 48, 48, 58, 48, 48, 58, 48, 48, 58, 48, 48, 58], 0, false, false), ([], 0, false, false), ([97], 0, false, true), ([45], 0, false, true), ([97, 95, 98], 0, false, false), ([65], 0, false, false), ([97, 98, 99, 100, 101, 102, 103, 104, 105, 106, 107, 108, 109, 110, 111, 112, 113, 114, 115, 116, 117, 118, 119, 120, 121, 122, 48, 49, 50, 51, 52, 53], 0, false, true), ([97, 98, 99, 100, 101, 102, 103, 104, 105, 106, 107, 108, 109, 110, 111, 112, 113, 114, 115, 116, 117, 118, 119, 120, 121, 122, 48, 49, 50, 51, 52, 53, 54], 0, false, false), ([195, 169], 0, false, false), ([48, 49, 58, 48, 50, 58, 48, 51, 58, 48, 52, 58, 48, 53, 58, 48, 54], 1108152157446, true, false)]
def okRow5 (p : Bs × Nat × Bool × Bool) : Bool := decide (p.1.length < 100) && decide (macV p.1 = if p.2.2.1 = true then some p.2.1 else none) && (p.2.2.1 || decide (p.2.1 = 0)) && decide (nameV p.1 = p.2.2.2)
theorem rows5_ok : rows5.all okRow5 = true := by decide +kernel
def cells5 : List Value := [.string ⟨#[48, 48, 58, 48, 48, 58, 48, 48, 58, 48, 48, 58, 48, 48, 58, 48, 48]⟩, .int .u64 0, .bool true, .bool false, .string ⟨#[102, 102, 58, 70, 70, 58, 102, 102, 58, 70, 102, 58, 102, 70, 58, 102, 102]⟩, .int .u64 281474976710655, .bool true, .bool false, .string ⟨#[48, 48, 58, 48, 48, 58, 48, 48, 58, 48, 48, 58, 48, 48, 58, 48, 103]⟩, .int .u64 0, .bool false, .bool false, .string ⟨#[48, 58, 48, 48, 58, 48, 48, 58, 48, 48, 58, 48, 48, 58, 48, 48]⟩, .int .u64 0, .bool false, .bool false, .string ⟨#[48, 48, 45, 48, 48, 45, 48, 48, 45, 48, 48, 45, 48, 48, 45, 48, 48]⟩, .int .u64 0, .bool false, .bool true, .string ⟨#[48, 48, 48, 48, 48, 48, 48, 48, 48, 48, 48, 48]⟩, .int .u64 0, .bool false, .bool true, .string ⟨#[48, 48, 58, 48, 48, 58, 48, 48, 58, 48, 48, 58, 48, 48, 58, 48, 48, 58, 48, 48]⟩, .int .u64 0, .bool false, .bool false, .string ⟨#[48, 48, 58, 48, 48, 58, 48, 48, 58, 48, 48, 58, 48, 48, 58, 48, 48, 58]⟩, .int .u64 0, .bool false, .bool false, .string ⟨#[]⟩, .int .u64 0, .bool false, .bool false, .string ⟨#[97]⟩, .int .u64 0, .bool false, .bool true, .string ⟨#[45]⟩, .int .u64 0, .bool false, .bool true, .string ⟨#[97, 95, 98]⟩, .int .u64 0, .bool false, .bool false, .string ⟨#[65]⟩, .int .u64 0, .bool false, .bool false, .string ⟨#[97, 98, 99, 100, 101, 102, 103, 104, 105, 106, 107, 108, 109, 110, 111, 112, 113, 114, 115, 116, 117, 118, 119, 120, 121, 122, 48, 49, 50, 51, 52, 53]⟩, .int .u64 0, .bool false, .bool true, .string ⟨#[97, 98, 99, 100, 101, 102, 103, 104, 105, 106, 107, 108, 109, 110, 111, 112, 113, 114, 115, 116, 117, 118, 119, 120, 121, 122, 48, 49, 50, 51, 52, 53, 54]⟩, .int .u64 0, .bool false, .bool false, .string ⟨#[195, 169]⟩, .int .u64 0, .bool false, .bool false, .string ⟨#[48, 49, 58, 48, 50, 58, 48, 51, 58, 48, 52, 58, 48, 53, 58, 48, 54]⟩, .int .u64 1108152157446, .bool true, .bool false]
theorem cells5_at : ∀ k, k < 17 → cells5[k * 4]? = some (.string (baS (rows5.getD k ([], 0, false, false)).1)) ∧ cells5[k * 4 + 1]? = some (.int .u64 ((rows5.getD k ([], 0, false, false)).2.1 : Nat)) ∧ cells5[k * 4 + 2]? = some (.bool (rows5.getD k ([], 0, false, false)).2.2.1) ∧ cells5[k * 4 + 3]? = some (.bool (rows5.getD k ([], 0, false, false)).2.2.2) := by
  intro k hk
  rcases (show k = 0 ∨ k = 1 ∨ k = 2 ∨ k = 3 ∨ k = 4 ∨ k = 5 ∨ k = 6 ∨ k = 7 ∨ k = 8 ∨ k = 9 ∨ k = 10 ∨ k = 11 ∨ k = 12 ∨ k = 13 ∨ k = 14 ∨ k = 15 ∨ k = 16 by omega) with rfl | rfl | rfl | rfl | rfl | rfl | rfl | rfl | rfl | rfl | rfl | rfl | rfl | rfl | rfl | rfl | rfl <;> exact ⟨rfl, rfl, rfl, rfl⟩
/-- A row lies in block b. -/
structure Ml (w : World) (b : Nat) (s : ByteArray) (n : Int) (p q : Bool) : Prop where
  c0 : w.cell? ⟨b, 0, none⟩ = some (.string s)
  c1 : w.cell? ⟨b, 1, none⟩ = some (.int .u64 n)
  c2 : w.cell? ⟨b, 2, none⟩ = some (.bool p)
  c3 : w.cell? ⟨b, 3, none⟩ = some (.bool q)
  lt : b < w.heap.size
theorem macR_of (n : Nat) (p : Bool) (h : (p || decide (n = 0)) = true) : macR (if p = true then some n else none) = .tuple #[.int .u64 (n : Int), .bool p] := by
  cases p
  · simp at h; subst h; rfl
  · rfl
set_option maxHeartbeats 8000000 in
set_option maxRecDepth 100000 in
theorem mforms_k (n : Int) (k : Nat) (s : Bs) (m : Nat) (b1 b2 : Bool) (w : World) (hg : Gl w) (hk : k < 17) (hn : (bits BinOp.and IntKind.i64 n 255).tmod 17 = (k : Int)) (h1 : cells5[k * 4]? = some (.string (baS s))) (h2 : cells5[k * 4 + 1]? = some (.int .u64 (m : Nat))) (h3 : cells5[k * 4 + 2]? = some (.bool b1)) (h4 : cells5[k * 4 + 3]? = some (.bool b2)) (ho : okRow5 (s, m, b1, b2) = true) :
    Calls Tryd.prog 3 #[.int .i64 n] w fun e w' => e = .returned (.bool true) ∧ Below w.heap.size w w' := by
  unfold cells5 at h1 h2 h3 h4
  have HG := Lib.hid hg
  have hk0 : (0 : Int) ≤ k := by omega
  have hk1 : (k : Int) < 17 := by omega
  simp only [okRow5, Bool.and_eq_true, decide_eq_true_eq] at ho
  obtain ⟨⟨⟨hs, hp⟩, hz⟩, hnm⟩ := ho
  have HP : Hid (∀ w, Gl w → Calls Tryd.prog 6 #[.string (baS s)] w fun e w' => e = .returned (.tuple #[.int .u64 (m : Nat), .bool b1]) ∧ Below w.heap.size w w') := fun w hg => by
    have := parseM_is (baS s) _ w hg (show s.length < _ by omega) hp
    rw [macR_of m b1 hz] at this
    exact this
  have HM : Hid (∀ w, Calls Tryd.prog 7 #[.string (baS s)] w fun e w' => e = .returned (.bool b2) ∧ Below w.heap.size w w') := fun w => nameM_is (baS s) b2 w (show s.length < _ by omega) hnm
  clear hg hs hp hz hnm
  go_enter Tryd.func3, Tryd.ntmps3
  go_wp2_with fail
  clear h1 h2 h3 h4 hn hk0 hk1 hk
  refine (HP.out _ ((HG.out.alloc _).alloc _)).mono ?_
  rintro e w1 ⟨rfl, hb1⟩
  have S1 : Ml w1 (w.heap.size + 1) (baS s) m b1 b2 := by
    obtain ⟨k1, l1⟩ := keep hb1 (w.heap.size + 1) (by simp)
    exact ⟨by rw [k1]; simp [go_sem], by rw [k1]; simp [go_sem], by rw [k1]; simp [go_sem], by rw [k1]; simp [go_sem], l1⟩
  have B1 := below_next (ball (ball (Below.refl _ _))) hb1
  have GV := Lib.hid (HG.out.below B1)
  clear hb1
  go_wp2_with fail
  have s0 := cell_regrown S1.c0; have s1 := cell_regrown S1.c1; have s2 := cell_regrown S1.c2; have s3 := cell_regrown S1.c3
  refine wp_region_quiet_below (by kernel_rfl) (by kernel_rfl) ?_
  repeat (go_big_quiet_step (fail))
  go_big_quiet_step ((go_at_call 7; exact Calls.regrown_of (HM.out _)))
  repeat (go_big_quiet_step (fail))
  go_big_quiet_step ((go_at_call 8; exact Calls.regrown_of (awake5_x _ (GV.out.below (below_regrown w1 _ _)))))
  repeat (go_big_quiet_step (fail))
  refine wpQuiet_nil ?_
  intro _ hw'
  obtain ⟨⟨dq, osq⟩, hw''⟩ := hw'
  subst hw''
  go_wp2
  go_ret
  exact ⟨rfl, below_next B1 (below_regrown w1 dq osq)⟩
theorem mforms_walk (n : Int) (w : World) (hg : Gl w) :
    Calls Tryd.prog 3 #[.int .i64 n] w fun e w' => e = .returned (.bool true) ∧ Below w.heap.size w w' := by
  have h : ∃ k : Nat, k < 17 ∧ (bits BinOp.and IntKind.i64 n 255).tmod 17 = (k : Int) := by
    rw [i64_and255, Int.tmod_eq_emod_of_nonneg (by omega)]
    exact ⟨(n % 256 % 17).toNat, by omega, by omega⟩
  obtain ⟨k, hk, e⟩ := h
  obtain ⟨a, b, c, d⟩ := cells5_at k hk
  have hlen : rows5.length = 17 := rfl
  refine mforms_k n k _ _ _ _ w hg hk e a b c d ?_
  have hm := List.all_eq_true.1 rows5_ok (rows5[k]'(by omega)) (List.getElem_mem _)
  rw [show rows5.getD k ([], 0, false, false) = rows5[k]'(by omega) by simp [List.getD, List.getElem?_eq_getElem (show k < rows5.length by omega)]]
  exact hm
end Go.Proofs.YtmnemjhkmllniaaDoor
