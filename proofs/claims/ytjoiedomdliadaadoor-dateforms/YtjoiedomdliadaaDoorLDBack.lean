/- DateBack: for any second the law answers true. -/
import Derived.Test.YtjoiedomdliadaaDoorDe
import Derived.Test.YtjoiedomdliadaaDoorDo
import Derived.Laws.Cover1
namespace Go.Proofs.YtjoiedomdliadaaDoor
open Go.ChangeShapes Go.WideShapes Go.RowKit Go.Sort

theorem baS_toList (l : Bs) : (baS l).toList = l := by rw [ByteArray.toList_eq]; rfl
/-- The second behind a second, with what the law asks of both. -/
theorem next_second (s : Nat) (h : s < 253402300799) : ∃ y m d y' m' d', OkD y m d ∧ OkD y' m' d' ∧ dayN y m d = s / 86400 ∧ dayN y' m' d' = (s + 1) / 86400 ∧
    Op.bytesLess (dayT y' m' d') (dayT y m d) = false ∧ ((dayT y' m' d' ≠ dayT y m d) ∨ (dayT y' m' d' = dayT y m d ∧ Op.bytesLess (clockT ((s + 1) % 86400)) (clockT (s % 86400)) = false ∧ clockT ((s + 1) % 86400) ≠ clockT (s % 86400))) := by
  obtain ⟨y, m, d, ho, he⟩ := dayN_onto (s / 86400) (by omega)
  by_cases ht : s % 86400 < 86399
  · refine ⟨y, m, d, y, m, d, ho, ho, he, by omega, day_after ho ho (Nat.le_refl _), Or.inr ⟨rfl, ?_⟩⟩
    exact clock_after (by omega) (by omega)
  · obtain ⟨y', m', d', ho', he'⟩ := dayN_onto ((s + 1) / 86400) (by omega)
    exact ⟨y, m, d, y', m', d', ho, ho', he, he', day_after ho ho' (by omega), Or.inl (dayT_ne ho' ho (by omega))⟩
theorem date_back {y m d s : Nat} (h : OkD y m d) (he : dayN y m d = s / 86400) : dateV (dayT y m d) (clockT (s % 86400)) = some s := by
  have ht : s % 86400 < 86400 := Nat.mod_lt _ (by decide)
  have hs : s / 86400 * 86400 + s % 86400 = s := Nat.div_add_mod' s 86400
  have a := day_back h
  have b := clock_back ht
  unfold dateV
  rw [a, b, he]
  exact congrArg some hs
set_option maxHeartbeats 4000000 in
set_option maxRecDepth 100000 in
theorem dback_walk (s0 : Int) (w : World) (hg : Gl w) (hs : 0 ≤ s0 ∧ s0 < 18446744073709551616) :
    Calls Tryd.prog 6 #[.int .u64 s0] w fun e w' => e = .returned (.bool true) ∧ Below w.heap.size w w' := by
  obtain ⟨a, rfl⟩ := Int.eq_ofNat_of_zero_le hs.1
  have HG := Lib.hid hg
  have hmod : (a : Int) % 253402300799 = ((a % 253402300799 : Nat) : Int) := by omega
  have hlt : a % 253402300799 < 253402300799 := Nat.mod_lt _ (by decide)
  generalize a % 253402300799 = s at *
  clear hs hg
  obtain ⟨y, m, d, y', m', d', ho, ho', he, he', hless, hor⟩ := next_second s hlt
  have P1 := Lib.hid (fun w hg => printD_yes s y m d w hg (by omega) ho he)
  have P2 : Hid (∀ w, Gl w → Calls Tryd.prog 9 #[.int .u64 ((s : Int) + 1)] w fun e w' => e = .returned (.tuple #[.string (baS (dayT y' m' d')), .string (baS (clockT ((s + 1) % 86400))), .bool true]) ∧ Below w.heap.size w w') := fun w hg =>
    printD_yes (s + 1) y' m' d' w hg (by omega) ho' he'
  have Q1 : Hid (∀ w, Gl w → Calls Tryd.prog 7 #[.string (baS (dayT y m d)), .string (baS (clockT (s % 86400)))] w fun e w' => e = .returned (.tuple #[.int .u64 s, .bool true]) ∧ Below w.heap.size w w') := fun w hg => by
    have := parseD_x (dayT y m d) (clockT (s % 86400)) w hg
    rw [date_back ho he] at this
    exact this
  have Q2 : Hid (∀ w, Gl w → Calls Tryd.prog 7 #[.string (baS (dayT y' m' d')), .string (baS (clockT ((s + 1) % 86400)))] w fun e w' => e = .returned (.tuple #[.int .u64 ((s : Int) + 1), .bool true]) ∧ Below w.heap.size w w') := fun w hg => by
    have := parseD_x (dayT y' m' d') (clockT ((s + 1) % 86400)) w hg
    rw [date_back ho' he'] at this
    exact this
  have T1 := Lib.hid (fun w hg => textD_x s w hg (by omega))
  have T2 : Hid (∀ w, Gl w → Calls Tryd.prog 11 #[.int .u64 ((s : Int) + 1)] w fun e w' => e = .returned (.string (baS (Lib.decDigits (s + 1)))) ∧ Below w.heap.size w w') := fun w hg => textD_x (s + 1) w hg (by omega)
  have N1 : Hid (∀ w, Gl w → Calls Tryd.prog 12 #[.string (baS (Lib.decDigits s)), .int .u64 s] w fun e w' => e = .returned (.tuple #[.int .u64 s, .bool true]) ∧ Below w.heap.size w w') := fun w hg => by
    have := numD_x (Lib.decDigits s) s w hg (by have := digs_len s (by omega); omega) (by omega)
    rw [num_back, if_pos (Nat.le_refl _)] at this
    exact this
  have N2 : Hid (∀ w, Gl w → Calls Tryd.prog 12 #[.string (baS (Lib.decDigits (s + 1))), .int .u64 s] w fun e w' => e = .returned (.tuple #[.int .u64 0, .bool false]) ∧ Below w.heap.size w w') := fun w hg => by
    have := numD_x (Lib.decDigits (s + 1)) s w hg (by have := digs_len (s + 1) (by omega); omega) (by omega)
    rw [num_back, if_neg (by omega)] at this
    exact this
  have W1 := Lib.hid (fun w => weekD_x s w (by omega))
  have W2 : Hid (∀ w, Calls Tryd.prog 10 #[.int .u64 ((s : Int) + 86400)] w fun e w' => e = .returned (.int .i64 (weekN (s + 86400) : Nat)) ∧ w' = w) := fun w => weekD_x (s + 86400) w (by omega)
  have hwk : (((weekN s : Nat) : Int) + 1).tmod 7 = ((weekN (s + 86400) : Nat) : Int) := by rw [Int.tmod_eq_emod_of_nonneg (by omega)]; unfold weekN; omega
  have hwb : weekN s < 7 := by unfold weekN; omega
  have hww : IntKind.i64.wrap (((weekN s : Nat) : Int) + 1) = ((weekN s : Nat) : Int) + 1 := by rw [IntKind.wrap_i64]; omega
  have hw1 : IntKind.u64.wrap ((s : Int) + 1) = (s : Int) + 1 := by rw [IntKind.wrap_u64]; omega
  have hw2 : IntKind.u64.wrap ((s : Int) + 86400) = (s : Int) + 86400 := by rw [IntKind.wrap_u64]; omega
  clear ho ho' he he' hwb
  rw [← baS_toList (dayT y' m' d'), ← baS_toList (dayT y m d)] at hless
  rw [← baS_toList (clockT ((s + 1) % 86400)), ← baS_toList (clockT (s % 86400))] at hor
  rw [baS_toList (clockT ((s + 1) % 86400)), baS_toList (clockT (s % 86400))] at hor
  have HOR : Hid ((¬ (baS (dayT y' m' d')).toList = (baS (dayT y m d)).toList) ∨ (dayT y' m' d' = dayT y m d ∧ Op.bytesLess (baS (clockT ((s + 1) % 86400))).toList (baS (clockT (s % 86400))).toList = false ∧ ¬ (baS (clockT ((s + 1) % 86400))).toList = (baS (clockT (s % 86400))).toList)) := by
    rw [baS_toList, baS_toList, baS_toList, baS_toList]; exact hor
  clear hor
  generalize dayT y m d = D at *
  generalize dayT y' m' d' = E at *
  generalize clockT (s % 86400) = C at *
  generalize clockT ((s + 1) % 86400) = F at *
  generalize weekN s = A at *
  generalize weekN (s + 86400) = B at *
  generalize Lib.decDigits s = S at *
  generalize Lib.decDigits (s + 1) = S1 at *
  go_enter Tryd.func6, Tryd.ntmps6
  go_wp2_with fail
  refine (P1.out _ HG.out).mono ?_
  rintro e w1 ⟨rfl, B1⟩
  go_wp2_with fail
  refine (Q1.out _ (HG.out.below B1)).mono ?_
  rintro e w2 ⟨rfl, hb2⟩
  have B2 := below_next B1 hb2
  go_wp2_with fail
  refine (P2.out _ (HG.out.below B2)).mono ?_
  rintro e w3 ⟨rfl, hb3⟩
  have B3 := below_next B2 hb3
  go_wp2_with fail
  refine (Q2.out _ (HG.out.below B3)).mono ?_
  rintro e w4 ⟨rfl, hb4⟩
  have B4 := below_next B3 hb4
  rcases HOR.out with hne | ⟨rfl, hl2, hne⟩
  · have hne' : ((baS E).toList == (baS D).toList) = false := by rw [beq_eq_false_iff_ne]; exact hne
    go_wp2_with fail
    refine (T1.out _ (HG.out.below B4)).mono ?_
    rintro e w5 ⟨rfl, hb5⟩
    have B5 := below_next B4 hb5
    go_wp2_with fail
    refine (N1.out _ (HG.out.below B5)).mono ?_
    rintro e w6 ⟨rfl, hb6⟩
    have B6 := below_next B5 hb6
    go_wp2_with fail
    refine (T2.out _ (HG.out.below B6)).mono ?_
    rintro e w7 ⟨rfl, hb7⟩
    have B7 := below_next B6 hb7
    go_wp2_with fail
    refine (N2.out _ (HG.out.below B7)).mono ?_
    rintro e w8 ⟨rfl, hb8⟩
    have B8 := below_next B7 hb8
    go_wp2_with fail
    refine (W1.out _).mono ?_
    rintro e w9 ⟨rfl, rfl⟩
    go_wp2_with fail
    refine (W2.out _).mono ?_
    rintro e w9 ⟨rfl, rfl⟩
    go_wp2_with fail
    refine (awake6_x _ (HG.out.below B8)).mono ?_
    rintro e w10 ⟨rfl, hb10⟩
    go_wp2
    go_ret
    exact ⟨rfl, below_next B8 hb10⟩
  · have hne' : ((baS F).toList == (baS C).toList) = false := by rw [beq_eq_false_iff_ne]; exact hne
    go_wp2_with fail
    refine (T1.out _ (HG.out.below B4)).mono ?_
    rintro e w5 ⟨rfl, hb5⟩
    have B5 := below_next B4 hb5
    go_wp2_with fail
    refine (N1.out _ (HG.out.below B5)).mono ?_
    rintro e w6 ⟨rfl, hb6⟩
    have B6 := below_next B5 hb6
    go_wp2_with fail
    refine (T2.out _ (HG.out.below B6)).mono ?_
    rintro e w7 ⟨rfl, hb7⟩
    have B7 := below_next B6 hb7
    go_wp2_with fail
    refine (N2.out _ (HG.out.below B7)).mono ?_
    rintro e w8 ⟨rfl, hb8⟩
    have B8 := below_next B7 hb8
    go_wp2_with fail
    refine (W1.out _).mono ?_
    rintro e w9 ⟨rfl, rfl⟩
    go_wp2_with fail
    refine (W2.out _).mono ?_
    rintro e w9 ⟨rfl, rfl⟩
    go_wp2_with fail
    refine (awake6_x _ (HG.out.below B8)).mono ?_
    rintro e w10 ⟨rfl, hb10⟩
    go_wp2
    go_ret
    exact ⟨rfl, below_next B8 hb10⟩
end Go.Proofs.YtjoiedomdliadaaDoor
