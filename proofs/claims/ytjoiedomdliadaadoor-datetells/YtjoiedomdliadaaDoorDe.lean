/- What is read and told at texts and seconds that are written out; the laws' own small check 'awake' of stage 6. -/
import Derived.Test.YtjoiedomdliadaaDoorDd
namespace Go.Proofs.YtjoiedomdliadaaDoor
open Go.ChangeShapes Go.WideShapes Go.RowKit Go.Sort

/-- The number of a day, reckoned at once. -/
def dayQ (y m d : Nat) : Nat := 365 * (y - 1970) + (y - 1) / 4 + (y - 1) / 400 - (y - 1) / 100 - 477 + aheadD y m + (d - 1)
theorem dayQ_is (y m d : Nat) (h : 1970 ≤ y) : dayN y m d = dayQ y m d := by
  unfold dayN dayQ
  have := yearD_is y h
  omega
def dateQ (a b : Bt) : Option Nat := match formV dayF a 0 0 0 0, formV clockF b 0 0 0 0 with
  | some (y, m, d), some (h, i, s) => if dayOk y m d = true ∧ clockOk h i s = true then some (dayQ y m d * 86400 + (h * 3600 + i * 60 + s)) else none
  | _, _ => none
theorem dateQ_is (a b : Bt) : dateV a b = dateQ a b := by
  unfold dateV dateQ dayV clockV
  cases ha : formV dayF a 0 0 0 0 with
  | none => rfl
  | some r =>
    obtain ⟨y, m, d⟩ := r
    cases hb : formV clockF b 0 0 0 0 with
    | none => cases hk : dayOk y m d <;> simp [hk]
    | some q =>
      obtain ⟨h, i, s⟩ := q
      cases hk : dayOk y m d with
      | false => simp [hk]
      | true =>
        have hy : 1970 ≤ y := by simp [dayOk] at hk; omega
        cases hc : clockOk h i s with
        | false => simp [hk, hc]
        | true => simp [dayQ_is y m d hy, hk, hc]
theorem parseD_is (a b : ByteArray) (r : Option Nat) (w : World) (hg : Gl w) (h : dateQ a.data.toList b.data.toList = r) :
    Calls Tryd.prog 7 #[.string a, .string b] w fun e w' => e = .returned (numR r) ∧ Below w.heap.size w w' := by
  have := parseD_x a.data.toList b.data.toList w hg
  rw [dateQ_is, h] at this
  exact this
theorem printD_is (s y m d : Nat) (a b : Bs) (w : World) (hg : Gl w) (hs : s ≤ 253402300799) (hk : 1970 ≤ y ∧ y ≤ 9999 ∧ 1 ≤ m ∧ m ≤ 12 ∧ 1 ≤ d ∧ d ≤ monL y m) (he : dayQ y m d = s / 86400) (ha : dayT y m d = a) (hb : clockT (s % 86400) = b) :
    Calls Tryd.prog 9 #[.int .u64 s] w fun e w' => e = .returned (.tuple #[.string (baS a), .string (baS b), .bool true]) ∧ Below w.heap.size w w' := by
  have := printD_yes s y m d w hg hs hk (by rw [dayQ_is y m d hk.1]; exact he)
  rw [ha, hb] at this
  exact this
theorem numD_is (s : ByteArray) (M : Nat) (r : Option Nat) (w : World) (hg : Gl w) (hs : s.size < 4294967281) (hM : M < 18446744073709551616) (h : numU M s.data.toList = r) :
    Calls Tryd.prog 12 #[.string s, .int .u64 M] w fun e w' => e = .returned (numR r) ∧ Below w.heap.size w w' := by
  have := numD_x s.data.toList M w hg (by rw [Array.length_toList]; exact hs) hM
  rw [h] at this
  exact this
theorem weekD_is (s r : Nat) (w : World) (h : s < 18446744073709551616) (hr : weekN s = r) :
    Calls Tryd.prog 10 #[.int .u64 s] w fun e w' => e = .returned (.int .i64 (r : Nat)) ∧ w' = w := hr ▸ weekD_x s w h
theorem aw6_a (w : World) (hg : Gl w) : Calls Tryd.prog 7 #[.string ⟨#[49, 57, 55, 48, 47, 48, 49, 47, 48, 50]⟩, .string ⟨#[48, 48, 58, 48, 48, 58, 48, 49]⟩] w fun e w' => e = .returned (.tuple #[.int .u64 86401, .bool true]) ∧ Below w.heap.size w w' :=
  parseD_is _ _ (some 86401) w hg (by decide +kernel)
theorem aw6_b (w : World) (hg : Gl w) : Calls Tryd.prog 7 #[.string ⟨#[50, 48, 50, 52, 47, 48, 50, 47, 50, 57]⟩, .string ⟨#[50, 51, 58, 53, 57, 58, 53, 57]⟩] w fun e w' => e = .returned (.tuple #[.int .u64 1709251199, .bool true]) ∧ Below w.heap.size w w' :=
  parseD_is _ _ (some 1709251199) w hg (by decide +kernel)
theorem aw6_c (w : World) (hg : Gl w) : Calls Tryd.prog 7 #[.string ⟨#[50, 48, 50, 51, 47, 48, 50, 47, 50, 57]⟩, .string ⟨#[48, 48, 58, 48, 48, 58, 48, 48]⟩] w fun e w' => e = .returned (.tuple #[.int .u64 0, .bool false]) ∧ Below w.heap.size w w' :=
  parseD_is _ _ (none) w hg (by decide +kernel)
theorem aw6_d (w : World) (hg : Gl w) : Calls Tryd.prog 9 #[.int .u64 1709251199] w fun e w' => e = .returned (.tuple #[.string ⟨#[50, 48, 50, 52, 47, 48, 50, 47, 50, 57]⟩, .string ⟨#[50, 51, 58, 53, 57, 58, 53, 57]⟩, .bool true]) ∧ Below w.heap.size w w' :=
  printD_is 1709251199 2024 2 29 [50, 48, 50, 52, 47, 48, 50, 47, 50, 57] [50, 51, 58, 53, 57, 58, 53, 57] w hg (by decide) (by decide +kernel) (by decide +kernel) (by decide +kernel) (by decide +kernel)
theorem aw6_e (w : World) (hg : Gl w) : Calls Tryd.prog 12 #[.string ⟨#[49, 56, 52, 52, 54, 55, 52, 52, 48, 55, 51, 55, 48, 57, 53, 53, 49, 54, 49, 53]⟩, .int .u64 18446744073709551615] w fun e w' => e = .returned (.tuple #[.int .u64 18446744073709551615, .bool true]) ∧ Below w.heap.size w w' :=
  numD_is _ 18446744073709551615 (some 18446744073709551615) w hg (by decide) (by decide) (by decide +kernel)
theorem aw6_f (w : World) (hg : Gl w) : Calls Tryd.prog 12 #[.string ⟨#[48, 48, 55]⟩, .int .u64 9] w fun e w' => e = .returned (.tuple #[.int .u64 0, .bool false]) ∧ Below w.heap.size w w' :=
  numD_is _ 9 none w hg (by decide) (by decide) (by decide +kernel)
theorem aw6_g (w : World) : Calls Tryd.prog 10 #[.int .u64 0] w fun e w' => e = .returned (.int .i64 4) ∧ w' = w := weekD_is 0 4 w (by decide) (by decide +kernel)
theorem aw6_h (w : World) : Calls Tryd.prog 10 #[.int .u64 1709251199] w fun e w' => e = .returned (.int .i64 4) ∧ w' = w := weekD_is 1709251199 4 w (by decide) (by decide +kernel)
theorem aw6_i (w : World) (hg : Gl w) : Calls Tryd.prog 11 #[.int .u64 0] w fun e w' => e = .returned (.string ⟨#[48]⟩) ∧ Below w.heap.size w w' := by
  have := textD_x 0 w hg (by decide)
  rw [digs_one (by decide)] at this
  exact this
set_option maxHeartbeats 2000000 in
set_option maxRecDepth 100000 in
theorem awake6_x (w : World) (hg : Gl w) : Calls Tryd.prog 8 #[] w fun e w' => e = .returned (.bool true) ∧ Below w.heap.size w w' := by
  have HG := Lib.hid hg
  clear hg
  go_enter Tryd.func8, Tryd.ntmps8
  go_wp2_with fail
  refine (aw6_a _ HG.out).mono ?_
  rintro e w1 ⟨rfl, B1⟩
  go_wp2_with fail
  refine (aw6_b _ (HG.out.below B1)).mono ?_
  rintro e w2 ⟨rfl, hb2⟩
  have B2 := below_next B1 hb2
  go_wp2_with fail
  refine (aw6_c _ (HG.out.below B2)).mono ?_
  rintro e w3 ⟨rfl, hb3⟩
  have B3 := below_next B2 hb3
  go_wp2_with fail
  refine (aw6_d _ (HG.out.below B3)).mono ?_
  rintro e w4 ⟨rfl, hb4⟩
  have B4 := below_next B3 hb4
  go_wp2_with fail
  refine (aw6_e _ (HG.out.below B4)).mono ?_
  rintro e w5 ⟨rfl, hb5⟩
  have B5 := below_next B4 hb5
  go_wp2_with fail
  refine (aw6_f _ (HG.out.below B5)).mono ?_
  rintro e w6 ⟨rfl, hb6⟩
  have B6 := below_next B5 hb6
  go_wp2_with fail
  refine (aw6_g _).mono ?_
  rintro e w6x ⟨rfl, rfl⟩
  go_wp2_with fail
  refine (aw6_h _).mono ?_
  rintro e w6x ⟨rfl, rfl⟩
  go_wp2_with fail
  refine (aw6_i _ (HG.out.below B6)).mono ?_
  rintro e w7 ⟨rfl, hb7⟩
  go_wp2
  go_ret
  exact ⟨rfl, below_next B6 hb7⟩
end Go.Proofs.YtjoiedomdliadaaDoor
