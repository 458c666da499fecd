/- PrefForms: whichever row of texts is asked for, the law answers true. -/
import Derived.Test.YtehhhjkajabliaaDoorXp
import Derived.Test.YtehhhjkajabliaaDoorAw3
namespace Go.Proofs.YtehhhjkajabliaaDoor
open Go.ChangeShapes Go.WideShapes Go.RowKit Go.Sort

/-- The rows, by hand: a text; how its first and its last address, and its netmask, are told (nothing, where there is none). -/
def rows3 : List (Bs × Bs × Bs × Bs) := [([48, 46, 48, 46, 48, 46, 48, 47, 48], [48, 46, 48, 46, 48, 46, 48], [50, 53, 53, 46, 50, 53, 53, 46, 50, 53, 53, 46, 50, 53, 53], [48, 46, 48, 46, 48, 46, 48]), ([49, 48, 46, 48, 46, 48, 46, 48, 47, 56], [49, 48, 46, 48, 46, 48, 46, 48], [49, 48, 46, 50, 53, 53, 46, 50, 53, 53, 46, 50, 53, 53], [50, 53, 53, 46, 48, 46, 48, 46, 48]), ([49, 48, 46, 48, 46, 48, 46, 52, 47, 51, 48], [49, 48, 46, 48, 46, 48, 46, 52], [49, 48, 46, 48, 46, 48, 46, 55], [50, 53, 53, 46, 50, 53, 53, 46, 50, 53, 53, 46, 50, 53, 50]), ([49, 46, 50, 46, 51, 46, 52, 47, 51, 50], [49, 46, 50, 46, 51, 46, 52], [49, 46, 50, 46, 51, 46, 52], [50, 53, 53, 46, 50, 53, 53, 46, 50, 53, 53, 46, 50, 53, 53]), ([58, 58, 47, 48], [58, 58], [102, 102, 102, 102, 58, 102, 102, 102, 102, 58, 102, 102, 102, 102, 58, 102, 102, 102, 102, 58, 102, 102, 102, 102, 58, 102, 102, 102, 102, 58, 102, 102, 102, 102, 58, 102, 102, 102, 102], []), ([50, 48, 48, 49, 58, 100, 98, 56, 58, 58, 47, 54, 51], [50, 48, 48, 49, 58, 100, 98, 56, 58, 58], [50, 48, 48, 49, 58, 100, 98, 56, 58, 48, 58, 49, 58, 102, 102, 102, 102, 58, 102, 102, 102, 102, 58, 102, 102, 102, 102, 58, 102, 102, 102, 102], []), ([58, 58, 49, 47, 49, 50, 56], [58, 58, 49], [58, 58, 49], []), ([49, 48, 46, 48, 46, 48, 46, 53, 47, 51, 48], [], [], []), ([49, 48, 46, 48, 46, 48, 46, 48, 47, 51, 51], [], [], []), ([58, 58, 47, 49, 50, 57], [], [], []), ([49, 48, 46, 48, 46, 48, 46, 48, 47, 48, 56], [], [], []), ([49, 48, 46, 48, 46, 48, 46, 48, 47], [], [], []), ([49, 48, 46, 48, 46, 48, 46, 48], [], [], []), ([47, 56], [], [], []), ([49, 48, 46, 48, 46, 48, 46, 48, 47, 56, 47, 56], [], [], []), ([49, 48, 46, 48, 46, 48, 46, 48, 47, 45, 49], [], [], []), ([49, 48, 46, 48, 46, 48, 46, 48, 32, 47, 56], [], [], [])]
def okRow3 (p : Bs × Bs × Bs × Bs) : Bool := decide (p.1.length < 100) && match prefV p.1 with
  | some (v, x, n) => decide (okP v x n = true) && decide (tellV v x = p.2.1) && decide (p.2.1 ≠ []) && decide (tellV v (lastX v x n) = p.2.2.1) && decide (tellP v x n = p.1) && (if v = 4 then decide (tellV 4 (nmX n) = p.2.2.2) && decide (p.2.2.2 ≠ []) else decide (v = 6) && decide (p.2.2.2 = []))
  | none => decide (p.2.1 = []) && decide (p.2.2.1 = []) && decide (p.2.2.2 = [])
theorem rows3_ok : rows3.all okRow3 = true := by decide +kernel
def cells3 : List Value := [.string ⟨#[48, 46, 48, 46, 48, 46, 48, 47, 48]⟩, .string ⟨#[48, 46, 48, 46, 48, 46, 48]⟩, .string ⟨#[50, 53, 53, 46, 50, 53, 53, 46, 50, 53, 53, 46, 50, 53, 53]⟩, .string ⟨#[48, 46, 48, 46, 48, 46, 48]⟩, .string ⟨#[49, 48, 46, 48, 46, 48, 46, 48, 47, 56]⟩, .string ⟨#[49, 48, 46, 48, 46, 48, 46, 48]⟩, .string ⟨#[49, 48, 46, 50, 53, 53, 46, 50, 53, 53, 46, 50, 53, 53]⟩, .string ⟨#[50, 53, 53, 46, 48, 46, 48, 46, 48]⟩, .string ⟨#[49, 48, 46, 48, 46, 48, 46, 52, 47, 51, 48]⟩, .string ⟨#[49, 48, 46, 48, 46, 48, 46, 52]⟩, .string ⟨#[49, 48, 46, 48, 46, 48, 46, 55]⟩, .string ⟨#[50, 53, 53, 46, 50, 53, 53, 46, 50, 53, 53, 46, 50, 53, 50]⟩, .string ⟨#[49, 46, 50, 46, 51, 46, 52, 47, 51, 50]⟩, .string ⟨#[49, 46, 50, 46, 51, 46, 52]⟩, .string ⟨#[49, 46, 50, 46, 51, 46, 52]⟩, .string ⟨#[50, 53, 53, 46, 50, 53, 53, 46, 50, 53, 53, 46, 50, 53, 53]⟩, .string ⟨#[58, 58, 47, 48]⟩, .string ⟨#[58, 58]⟩, .string ⟨#[102, 102, 102, 102, 58, 102, 102, 102, 102, 58, 102, 102, 102, 102, 58, 102, 102, 102, 102, 58, 102, 102, 102, 102, 58, 102, 102, 102, 102, 58, 102, 102, 102, 102, 58, 102, 102, 102, 102]⟩, .string ⟨#[]⟩, .string ⟨#[50, 48, 48, 49, 58, 100, 98, 56, 58, 58, 47, 54, 51]⟩, .string ⟨#[50, 48, 48, 49, 58, 100, 98, 56, 58, 58]⟩, .string ⟨#[50, 48, 48, 49, 58, 100, 98, 56, 58, 48, 58, 49, 58, 102, 102, 102, 102, 58, 102, 102, 102, 102, 58, 102, 102, 102, 102, 58, 102, 102, 102, 102]⟩, .string ⟨#[]⟩, .string ⟨#[58, 58, 49, 47, 49, 50, 56]⟩, .string ⟨#[58, 58, 49]⟩, .string ⟨#[58, 58, 49]⟩, .string ⟨#[]⟩, .string ⟨#[49, 48, 46, 48, 46, 48, 46, 53, 47, 51, 48]⟩, .string ⟨#[]⟩, .string ⟨#[]⟩, .string ⟨#[]⟩, .string ⟨#[49, 48, 46, 48, 46, 48, 46, 48, 47, 51, 51]⟩, .string ⟨#[]⟩, .string ⟨#[]⟩, .string ⟨#[]⟩, .string ⟨#[58, 58, 47, 49, 50, 57]⟩, .string ⟨#[]⟩, .string ⟨#[]⟩, .string ⟨#[]⟩, .string ⟨#[49, 48, 46, 48, 46, 48, 46, 48, 47, 48, 56]⟩, .string ⟨#[]⟩, .string ⟨#[]⟩, .string ⟨#[]⟩, .string ⟨#[49, 48, 46, 48, 46, 48, 46, 48, 47]⟩, .string ⟨#[]⟩, .string ⟨#[]⟩, .string ⟨#[]⟩, .string ⟨#[49, 48, 46, 48, 46, 48, 46, 48]⟩, .string ⟨#[]⟩, .string ⟨#[]⟩, .string ⟨#[]⟩, .string ⟨#[47, 56]⟩, .string ⟨#[]⟩, .string ⟨#[]⟩, .string ⟨#[]⟩, .string ⟨#[49, 48, 46, 48, 46, 48, 46, 48, 47, 56, 47, 56]⟩, .string ⟨#[]⟩, .string ⟨#[]⟩, .string ⟨#[]⟩, .string ⟨#[49, 48, 46, 48, 46, 48, 46, 48, 47, 45, 49]⟩, .string ⟨#[]⟩, .string ⟨#[]⟩, .string ⟨#[]⟩, .string ⟨#[49, 48, 46, 48, 46, 48, 46, 48, 32, 47, 56]⟩, .string ⟨#[]⟩, .string ⟨#[]⟩, .string ⟨#[]⟩]
theorem cells3_at : ∀ k, k < 17 → cells3[k * 4]? = some (.string (baS (rows3.getD k ([], [], [], [])).1)) ∧ cells3[k * 4 + 1]? = some (.string (baS (rows3.getD k ([], [], [], [])).2.1)) ∧ cells3[k * 4 + 2]? = some (.string (baS (rows3.getD k ([], [], [], [])).2.2.1)) ∧ cells3[k * 4 + 3]? = some (.string (baS (rows3.getD k ([], [], [], [])).2.2.2)) := by
  intro k hk
  rcases (show k = 0 ∨ k = 1 ∨ k = 2 ∨ k = 3 ∨ k = 4 ∨ k = 5 ∨ k = 6 ∨ k = 7 ∨ k = 8 ∨ k = 9 ∨ k = 10 ∨ k = 11 ∨ k = 12 ∨ k = 13 ∨ k = 14 ∨ k = 15 ∨ k = 16 by omega) with rfl | rfl | rfl | rfl | rfl | rfl | rfl | rfl | rfl | rfl | rfl | rfl | rfl | rfl | rfl | rfl | rfl <;> exact ⟨rfl, rfl, rfl, rfl⟩
theorem parseP_4 (s : ByteArray) (x n : Nat) (w : World) (hg : Gl w) (hs : s.size < 4294967281) (h : prefV s.data.toList = some (4, x, n)) :
    Calls Tryd.prog 6 #[.string s] w fun e w' => e = .returned (.tuple #[.agg #[.int .i64 4, .int .u64 (hiQ x), .int .u64 (loQ x), .int .i64 n], .bool true]) ∧ Below w.heap.size w w' := parseP_some s 4 x n w hg hs h
theorem parseP_6 (s : ByteArray) (x n : Nat) (w : World) (hg : Gl w) (hs : s.size < 4294967281) (h : prefV s.data.toList = some (6, x, n)) :
    Calls Tryd.prog 6 #[.string s] w fun e w' => e = .returned (.tuple #[.agg #[.int .i64 6, .int .u64 (hiQ x), .int .u64 (loQ x), .int .i64 n], .bool true]) ∧ Below w.heap.size w w' := parseP_some s 6 x n w hg hs h
theorem first_yes (v : Int) (x : Nat) (n : Int) (w : World) (hx : x < 340282366920938463463374607431768211456) (h : okP v x n = true) :
    Calls Tryd.prog 9 #[.agg #[.int .i64 v, .int .u64 (hiQ x), .int .u64 (loQ x), .int .i64 n]] w fun e w' => e = .returned (.agg #[.int .i64 v, .int .u64 (hiQ x), .int .u64 (loQ x)]) ∧ Below w.heap.size w w' := by
  have := first_x v x n w hx
  rw [show firstV v x n = v by simp [firstV, h], show firstX v x n = x by simp [firstX, h]] at this
  exact this
theorem last_yes (v : Int) (x : Nat) (n : Int) (y : Nat) (w : World) (hx : x < 340282366920938463463374607431768211456) (h : okP v x n = true) (hy : lastX v x n = y) :
    Calls Tryd.prog 10 #[.agg #[.int .i64 v, .int .u64 (hiQ x), .int .u64 (loQ x), .int .i64 n]] w fun e w' => e = .returned (.agg #[.int .i64 v, .int .u64 (hiQ y), .int .u64 (loQ y)]) ∧ Below w.heap.size w w' := by
  have := last_x v x n w hx
  rw [show firstV v x n = v by simp [firstV, h], hy] at this
  exact this
theorem first_zero (w : World) : Calls Tryd.prog 9 #[.agg #[.int .i64 0, .int .u64 0, .int .u64 0, .int .i64 0]] w fun e w' => e = .returned (.agg #[.int .i64 0, .int .u64 0, .int .u64 0]) ∧ Below w.heap.size w w' :=
  first_x 0 0 0 w (by decide)
theorem last_zero (w : World) : Calls Tryd.prog 10 #[.agg #[.int .i64 0, .int .u64 0, .int .u64 0, .int .i64 0]] w fun e w' => e = .returned (.agg #[.int .i64 0, .int .u64 0, .int .u64 0]) ∧ Below w.heap.size w w' :=
  last_x 0 0 0 w (by decide)
theorem nm_zero (w : World) : Calls Tryd.prog 7 #[.agg #[.int .i64 0, .int .u64 0, .int .u64 0, .int .i64 0]] w fun e w' => e = .returned (.tuple #[.agg #[.int .i64 0, .int .u64 0, .int .u64 0], .bool false]) ∧ Below w.heap.size w w' :=
  nm_no 0 0 0 w (by decide) (by decide +kernel)
theorem printE_zero (w : World) : Calls Tryd.prog 8 #[.agg #[.int .i64 0, .int .u64 0, .int .u64 0]] w fun e w' => e = .returned (.string ⟨#[]⟩) ∧ Below w.heap.size w w' :=
  printE_x 0 0 w (by decide)
/-- Four strings lie in block b. -/
structure Sl (w : World) (b : Nat) (s f l m : ByteArray) : Prop where
  c0 : w.cell? ⟨b, 0, none⟩ = some (.string s)
  c1 : w.cell? ⟨b, 1, none⟩ = some (.string f)
  c2 : w.cell? ⟨b, 2, none⟩ = some (.string l)
  c3 : w.cell? ⟨b, 3, none⟩ = some (.string m)
  lt : b < w.heap.size
theorem Sl.below {w w' : World} {b : Nat} {s f l m : ByteArray} (c : Sl w b s f l m) (hb : Below w.heap.size w w') : Sl w' b s f l m := by
  obtain ⟨k, h⟩ := keep hb b c.lt
  exact ⟨(k 0).trans c.c0, (k 1).trans c.c1, (k 2).trans c.c2, (k 3).trans c.c3, h⟩
theorem Sl.alloc {w : World} {b : Nat} {s f l m : ByteArray} (c : Sl w b s f l m) (o : Obj) : Sl (w.alloc o) b s f l m := c.below ((Below.refl _ _).alloc (Nat.le_refl _) _)
set_option maxHeartbeats 8000000 in
set_option maxRecDepth 100000 in
theorem pforms_k (n : Int) (k : Nat) (s f l m : Bs) (w : World) (hg : Gl w) (hk : k < 17) (hn : (bits BinOp.and IntKind.i64 n 255).tmod 17 = (k : Int)) (h1 : cells3[k * 4]? = some (.string (baS s))) (h2 : cells3[k * 4 + 1]? = some (.string (baS f))) (h3 : cells3[k * 4 + 2]? = some (.string (baS l))) (h4 : cells3[k * 4 + 3]? = some (.string (baS m))) (ho : okRow3 (s, f, l, m) = true) :
    Calls Tryd.prog 3 #[.int .i64 n] w fun e w' => e = .returned (.bool true) ∧ Below w.heap.size w w' := by
  unfold cells3 at h1 h2 h3 h4
  have HG := Lib.hid hg
  have hk0 : (0 : Int) ≤ k := by omega
  have hk1 : (k : Int) < 17 := by omega
  simp only [okRow3, Bool.and_eq_true, decide_eq_true_eq] at ho
  obtain ⟨hs, ho⟩ := ho
  have HS : Hid ((baS s).size < 4294967281) := by show s.length < _; omega
  have HO := Lib.hid ho
  clear hg hs ho
  go_enter Tryd.func3, Tryd.ntmps3
  go_wp2_with fail
  clear h1 h2 h3 h4 hn hk0 hk1 hk
  have ho := HO.out
  clear HO
  cases hp : prefV s with
  | none =>
    rw [hp] at ho
    simp only [Bool.and_eq_true, decide_eq_true_eq] at ho
    obtain ⟨⟨rfl, rfl⟩, rfl⟩ := ho
    have HP := Lib.hid hp
    have hb0 : baS [] = ⟨#[]⟩ := rfl
    clear hp
    rw [hb0]
    refine (parseP_none (baS s) _ ((HG.out.alloc _).alloc _) HS.out HP.out).mono ?_
    rintro e w1 ⟨rfl, hb1⟩
    have S1 : Sl w1 (w.heap.size + 1) (baS s) ⟨#[]⟩ ⟨#[]⟩ ⟨#[]⟩ := by
      obtain ⟨k1, l1⟩ := keep hb1 (w.heap.size + 1) (by simp)
      exact ⟨by rw [k1]; simp [go_sem], by rw [k1]; simp [go_sem], by rw [k1]; simp [go_sem], by rw [k1]; simp [go_sem], l1⟩
    have B1 := below_next (ball (ball (Below.refl _ _))) hb1
    clear hb1 hb0
    go_wp2_with fail
    refine (nm_zero _).mono ?_
    rintro e w2 ⟨rfl, hb2⟩
    have S2 := ((S1.alloc (.cells #[.int .i64 0, .int .u64 0, .int .u64 0, .int .i64 0] 30)).below hb2).alloc (.cells #[.int .i64 0, .int .u64 0, .int .u64 0] 28)
    have P2 := ((pl_new w1 0 0 0 0).below hb2).alloc (.cells #[.int .i64 0, .int .u64 0, .int .u64 0] 28)
    have M2 := cl_new w2 0 0 0
    have BW := ball (o := .cells #[.int .i64 0, .int .u64 0, .int .u64 0] 28) (below_next (ball B1) hb2)
    clear S1 B1 hb2
    obtain ⟨W, hW⟩ : ∃ W, W = w2.alloc (.cells #[.int .i64 0, .int .u64 0, .int .u64 0] 28) := ⟨_, rfl⟩
    go_wp2_with fail
    rw [← hW] at S2 P2 M2 BW ⊢
    clear hW
    have s0 := cell_regrown S2.c0; have s1 := cell_regrown S2.c1; have s2 := cell_regrown S2.c2; have s3 := cell_regrown S2.c3
    refine wp_region_quiet_below (by kernel_rfl) (by kernel_rfl) ?_
    repeat (go_big_quiet_step (fail))
    refine wpQuiet_nil ?_
    intro _ hw'
    obtain ⟨⟨dq, osq⟩, hw''⟩ := hw'
    subst hw''
    have S3 := S2.below (below_regrown W dq osq)
    have P3 := P2.below (below_regrown W dq osq)
    have B3 := below_next BW (below_regrown W dq osq)
    generalize grow (redrawn W dq) osq = V at S3 P3 B3
    have GV := Lib.hid (HG.out.below B3)
    clear s0 s1 s2 s3 S2 P2 M2 BW
    have s0 := cell_regrown S3.c0; have s1 := cell_regrown S3.c1; have s2 := cell_regrown S3.c2
    have p0 := cell_regrown P3.c0; have p1 := cell_regrown P3.c1; have p2 := cell_regrown P3.c2; have p3 := cell_regrown P3.c3
    go_wp2_with fail
    refine wp_region_quiet_below (by kernel_rfl) (by kernel_rfl) ?_
    repeat (go_big_quiet_step (fail))
    go_big_quiet_step ((go_at_call 9; exact Calls.regrown_of (first_zero _)))
    repeat (go_big_quiet_step (fail))
    go_big_quiet_step ((go_at_call 8; exact Calls.regrown_of (printE_zero _)))
    repeat (go_big_quiet_step (fail))
    go_big_quiet_step ((go_at_call 10; exact Calls.regrown_of (last_zero _)))
    repeat (go_big_quiet_step (fail))
    go_big_quiet_step ((go_at_call 8; exact Calls.regrown_of (printE_zero _)))
    repeat (go_big_quiet_step (fail))
    go_big_quiet_step ((go_at_call 12; exact Calls.regrown_of (awake3_x _ (GV.out.below (below_regrown V _ _)))))
    repeat (go_big_quiet_step (fail))
    refine wpQuiet_nil ?_
    intro _ hw'
    obtain ⟨⟨dq, osq⟩, hw''⟩ := hw'
    subst hw''
    go_wp2
    go_ret
    exact ⟨rfl, below_next B3 (below_regrown V dq osq)⟩
  | some r =>
    obtain ⟨v, x, i⟩ := r
    rw [hp] at ho
    simp only [Bool.and_eq_true, decide_eq_true_eq] at ho
    obtain ⟨⟨⟨⟨⟨hok, hf⟩, hfne⟩, hl⟩, hs⟩, hm⟩ := ho
    have hx := (prefV_ok hp).2
    by_cases hv : v = 4
    · subst hv
      rw [if_pos rfl] at hm
      simp only [Bool.and_eq_true, decide_eq_true_eq] at hm
      have hnf := ne_listS hfne
      have hnm := ne_listS hm.2
      obtain ⟨y, hy⟩ : ∃ y, lastX 4 x i = y := ⟨_, rfl⟩
      have hy128 : y < 340282366920938463463374607431768211456 := hy ▸ lastX_lt _ _ _ hx
      replace hl : tellV 4 y = l := by rw [← hy]; exact hl
      have K1 := Lib.hid (fun w => nm_yes x i w hx hok)
      have K2 := Lib.hid (fun w => printE_is 4 (nmX i) w (by have := nmX_lt i; omega) (baS m) (by rw [hm.1]))
      have K3 := Lib.hid (fun w => first_yes 4 x i w hx hok)
      have K4 := Lib.hid (fun w => printE_is 4 x w hx (baS f) (by rw [← hf]; rfl))
      have K5 := Lib.hid (fun w => last_yes 4 x i y w hx hok hy)
      have K6 := Lib.hid (fun w => printE_is 4 y w hy128 (baS l) (by rw [hl]))
      have K7 := Lib.hid (fun w hg => printP_is 4 x i w hg hx (baS s) (by rw [← hs]; rfl))
      have HP := Lib.hid hp
      generalize nmX i = M at *
      clear hp hok hf hfne hl hs hm hx hy hy128
      refine (parseP_4 (baS s) x i _ ((HG.out.alloc _).alloc _) HS.out HP.out).mono ?_
      rintro e w1 ⟨rfl, hb1⟩
      have S1 : Sl w1 (w.heap.size + 1) (baS s) (baS f) (baS l) (baS m) := by
        obtain ⟨k1, l1⟩ := keep hb1 (w.heap.size + 1) (by simp)
        exact ⟨by rw [k1]; simp [go_sem], by rw [k1]; simp [go_sem], by rw [k1]; simp [go_sem], by rw [k1]; simp [go_sem], l1⟩
      have B1 := below_next (ball (ball (Below.refl _ _))) hb1
      clear hb1
      go_wp2_with fail
      refine (K1.out _).mono ?_
      rintro e w2 ⟨rfl, hb2⟩
      have S2 := ((S1.alloc (.cells #[.int .i64 4, .int .u64 (hiQ x), .int .u64 (loQ x), .int .i64 i] 30)).below hb2).alloc (.cells #[.int .i64 4, .int .u64 (hiQ M), .int .u64 (loQ M)] 28)
      have P2 := ((pl_new w1 4 (hiQ x) (loQ x) i).below hb2).alloc (.cells #[.int .i64 4, .int .u64 (hiQ M), .int .u64 (loQ M)] 28)
      have M2 := cl_new w2 4 (hiQ M) (loQ M)
      have BW := ball (o := .cells #[.int .i64 4, .int .u64 (hiQ M), .int .u64 (loQ M)] 28) (below_next (ball B1) hb2)
      clear S1 B1 hb2
      obtain ⟨W, hW⟩ : ∃ W, W = w2.alloc (.cells #[.int .i64 4, .int .u64 (hiQ M), .int .u64 (loQ M)] 28) := ⟨_, rfl⟩
      go_wp2_with fail
      rw [← hW] at S2 P2 M2 BW ⊢
      clear hW
      have s0 := cell_regrown S2.c0; have s1 := cell_regrown S2.c1; have s2 := cell_regrown S2.c2; have s3 := cell_regrown S2.c3
      have m0 := cell_regrown M2.c0; have m1 := cell_regrown M2.c1; have m2 := cell_regrown M2.c2
      refine wp_region_quiet_below (by kernel_rfl) (by kernel_rfl) ?_
      repeat (go_big_quiet_step (fail))
      go_big_quiet_step ((go_at_call 8; exact Calls.regrown_of (K2.out _)))
      repeat (go_big_quiet_step (fail))
      refine wpQuiet_nil ?_
      intro _ hw'
      obtain ⟨⟨dq, osq⟩, hw''⟩ := hw'
      subst hw''
      have S3 := S2.below (below_regrown W dq osq)
      have P3 := P2.below (below_regrown W dq osq)
      have B3 := below_next BW (below_regrown W dq osq)
      generalize grow (redrawn W dq) osq = V at S3 P3 B3
      have GV := Lib.hid (HG.out.below B3)
      clear s0 s1 s2 s3 S2 P2 M2 BW m0 m1 m2
      have s0 := cell_regrown S3.c0; have s1 := cell_regrown S3.c1; have s2 := cell_regrown S3.c2
      have p0 := cell_regrown P3.c0; have p1 := cell_regrown P3.c1; have p2 := cell_regrown P3.c2; have p3 := cell_regrown P3.c3
      go_wp2_with fail
      refine wp_region_quiet_below (by kernel_rfl) (by kernel_rfl) ?_
      repeat (go_big_quiet_step (fail))
      go_big_quiet_step ((go_at_call 9; exact Calls.regrown_of (K3.out _)))
      repeat (go_big_quiet_step (fail))
      go_big_quiet_step ((go_at_call 8; exact Calls.regrown_of (K4.out _)))
      repeat (go_big_quiet_step (fail))
      go_big_quiet_step ((go_at_call 10; exact Calls.regrown_of (K5.out _)))
      repeat (go_big_quiet_step (fail))
      go_big_quiet_step ((go_at_call 8; exact Calls.regrown_of (K6.out _)))
      repeat (go_big_quiet_step (fail))
      go_big_quiet_step ((go_at_call 11; exact Calls.regrown_of (K7.out _ (GV.out.below (below_regrown V _ _)))))
      repeat (go_big_quiet_step (fail))
      go_big_quiet_step ((go_at_call 12; exact Calls.regrown_of (awake3_x _ (GV.out.below (below_regrown V _ _)))))
      repeat (go_big_quiet_step (fail))
      refine wpQuiet_nil ?_
      intro _ hw'
      obtain ⟨⟨dq, osq⟩, hw''⟩ := hw'
      subst hw''
      go_wp2
      go_ret
      exact ⟨rfl, below_next B3 (below_regrown V dq osq)⟩
    · rw [if_neg hv] at hm
      simp only [Bool.and_eq_true, decide_eq_true_eq] at hm
      obtain ⟨rfl, rfl⟩ := hm
      have hb0 : baS [] = ⟨#[]⟩ := rfl
      rw [hb0]
      have hnf := ne_listS hfne
      obtain ⟨y, hy⟩ : ∃ y, lastX 6 x i = y := ⟨_, rfl⟩
      have hy128 : y < 340282366920938463463374607431768211456 := hy ▸ lastX_lt _ _ _ hx
      replace hl : tellV 6 y = l := by rw [← hy]; exact hl
      have K1 := Lib.hid (fun w => nm_no 6 x i w hx (by simp [nmB]))
      have K3 := Lib.hid (fun w => first_yes 6 x i w hx hok)
      have K4 := Lib.hid (fun w => printE_is 6 x w hx (baS f) (by rw [← hf]; rfl))
      have K5 := Lib.hid (fun w => last_yes 6 x i y w hx hok hy)
      have K6 := Lib.hid (fun w => printE_is 6 y w hy128 (baS l) (by rw [hl]))
      have K7 := Lib.hid (fun w hg => printP_is 6 x i w hg hx (baS s) (by rw [← hs]; rfl))
      have HP := Lib.hid hp
      clear hp hok hf hfne hl hs hx hy hy128 hv hb0
      refine (parseP_6 (baS s) x i _ ((HG.out.alloc _).alloc _) HS.out HP.out).mono ?_
      rintro e w1 ⟨rfl, hb1⟩
      have S1 : Sl w1 (w.heap.size + 1) (baS s) (baS f) (baS l) ⟨#[]⟩ := by
        obtain ⟨k1, l1⟩ := keep hb1 (w.heap.size + 1) (by simp)
        exact ⟨by rw [k1]; simp [go_sem], by rw [k1]; simp [go_sem], by rw [k1]; simp [go_sem], by rw [k1]; simp [go_sem], l1⟩
      have B1 := below_next (ball (ball (Below.refl _ _))) hb1
      clear hb1
      go_wp2_with fail
      refine (K1.out _).mono ?_
      rintro e w2 ⟨rfl, hb2⟩
      have S2 := ((S1.alloc (.cells #[.int .i64 6, .int .u64 (hiQ x), .int .u64 (loQ x), .int .i64 i] 30)).below hb2).alloc (.cells #[.int .i64 0, .int .u64 0, .int .u64 0] 28)
      have P2 := ((pl_new w1 6 (hiQ x) (loQ x) i).below hb2).alloc (.cells #[.int .i64 0, .int .u64 0, .int .u64 0] 28)
      have M2 := cl_new w2 0 0 0
      have BW := ball (o := .cells #[.int .i64 0, .int .u64 0, .int .u64 0] 28) (below_next (ball B1) hb2)
      clear S1 B1 hb2
      obtain ⟨W, hW⟩ : ∃ W, W = w2.alloc (.cells #[.int .i64 0, .int .u64 0, .int .u64 0] 28) := ⟨_, rfl⟩
      go_wp2_with fail
      rw [← hW] at S2 P2 M2 BW ⊢
      clear hW
      have s0 := cell_regrown S2.c0; have s1 := cell_regrown S2.c1; have s2 := cell_regrown S2.c2; have s3 := cell_regrown S2.c3
      have m0 := cell_regrown M2.c0; have m1 := cell_regrown M2.c1; have m2 := cell_regrown M2.c2
      refine wp_region_quiet_below (by kernel_rfl) (by kernel_rfl) ?_
      repeat (go_big_quiet_step (fail))
      refine wpQuiet_nil ?_
      intro _ hw'
      obtain ⟨⟨dq, osq⟩, hw''⟩ := hw'
      subst hw''
      have S3 := S2.below (below_regrown W dq osq)
      have P3 := P2.below (below_regrown W dq osq)
      have B3 := below_next BW (below_regrown W dq osq)
      generalize grow (redrawn W dq) osq = V at S3 P3 B3
      have GV := Lib.hid (HG.out.below B3)
      clear s0 s1 s2 s3 S2 P2 M2 BW m0 m1 m2
      have s0 := cell_regrown S3.c0; have s1 := cell_regrown S3.c1; have s2 := cell_regrown S3.c2
      have p0 := cell_regrown P3.c0; have p1 := cell_regrown P3.c1; have p2 := cell_regrown P3.c2; have p3 := cell_regrown P3.c3
      go_wp2_with fail
      refine wp_region_quiet_below (by kernel_rfl) (by kernel_rfl) ?_
      repeat (go_big_quiet_step (fail))
      go_big_quiet_step ((go_at_call 9; exact Calls.regrown_of (K3.out _)))
      repeat (go_big_quiet_step (fail))
      go_big_quiet_step ((go_at_call 8; exact Calls.regrown_of (K4.out _)))
      repeat (go_big_quiet_step (fail))
      go_big_quiet_step ((go_at_call 10; exact Calls.regrown_of (K5.out _)))
      repeat (go_big_quiet_step (fail))
      go_big_quiet_step ((go_at_call 8; exact Calls.regrown_of (K6.out _)))
      repeat (go_big_quiet_step (fail))
      go_big_quiet_step ((go_at_call 11; exact Calls.regrown_of (K7.out _ (GV.out.below (below_regrown V _ _)))))
      repeat (go_big_quiet_step (fail))
      go_big_quiet_step ((go_at_call 12; exact Calls.regrown_of (awake3_x _ (GV.out.below (below_regrown V _ _)))))
      repeat (go_big_quiet_step (fail))
      refine wpQuiet_nil ?_
      intro _ hw'
      obtain ⟨⟨dq, osq⟩, hw''⟩ := hw'
      subst hw''
      go_wp2
      go_ret
      exact ⟨rfl, below_next B3 (below_regrown V dq osq)⟩
theorem pforms_walk (n : Int) (w : World) (hg : Gl w) :
    Calls Tryd.prog 3 #[.int .i64 n] w fun e w' => e = .returned (.bool true) ∧ Below w.heap.size w w' := by
  have h : ∃ k : Nat, k < 17 ∧ (bits BinOp.and IntKind.i64 n 255).tmod 17 = (k : Int) := by
    rw [i64_and255, Int.tmod_eq_emod_of_nonneg (by omega)]
    exact ⟨(n % 256 % 17).toNat, by omega, by omega⟩
  obtain ⟨k, hk, e⟩ := h
  obtain ⟨a, b, c, d⟩ := cells3_at k hk
  have hlen : rows3.length = 17 := rfl
  refine pforms_k n k (rows3.getD k ([], [], [], [])).1 (rows3.getD k ([], [], [], [])).2.1 (rows3.getD k ([], [], [], [])).2.2.1 (rows3.getD k ([], [], [], [])).2.2.2 w hg hk e a b c d ?_
  have hm := List.all_eq_true.1 rows3_ok (rows3[k]'(by omega)) (List.getElem_mem _)
  rw [show rows3.getD k ([], [], [], []) = rows3[k]'(by omega) by simp [List.getD, List.getElem?_eq_getElem (show k < rows3.length by omega)]]
  exact hm
end Go.Proofs.YtehhhjkajabliaaDoor
