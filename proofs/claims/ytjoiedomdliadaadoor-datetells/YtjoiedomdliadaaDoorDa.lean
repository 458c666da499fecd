/- date.Text, Num, Week, isDigit, isLeap, leapsBefore, yearStart, monthDays. -/
import Derived.Test.YtjoiedomdliadaaDoorBas
namespace Go.Proofs.YtjoiedomdliadaaDoor
open Go.ChangeShapes Go.WideShapes Go.RowKit Go.Sort

def numR (r : Option Nat) : Value := match r with
  | some n => .tuple #[.int .u64 n, .bool true]
  | none => .tuple #[.int .u64 0, .bool false]
set_option maxHeartbeats 1000000 in
theorem textD_x (u : Nat) (w : World) (hg : Gl w) (hu : u < 18446744073709551616) :
    Calls Tryd.prog 11 #[.int .u64 u] w fun e w' => e = .returned (.string (baS (Lib.decDigits u))) ∧ Below w.heap.size w w' := by
  have HI := Lib.hid (fmt10 u w hg hu)
  clear hg hu
  go_enter Tryd.func11, Tryd.ntmps11
  go_wp2_with fail
  refine HI.out.mono ?_
  rintro e w1 ⟨rfl, hb⟩
  go_wp2
  go_ret
  exact ⟨rfl, hb⟩
theorem textD_is (v : Int) (u : Nat) (w : World) (hg : Gl w) (hu : u < 18446744073709551616) (hv : v = u) :
    Calls Tryd.prog 11 #[.int .u64 v] w fun e w' => e = .returned (.string (baS (Lib.decDigits u))) ∧ Below w.heap.size w w' := hv ▸ textD_x u w hg hu
set_option maxHeartbeats 2000000 in
set_option maxRecDepth 100000 in
theorem numD_x (l : Bs) (M : Nat) (w : World) (hg : Gl w) (hl : l.length < 4294967281) (hM : M < 18446744073709551616) :
    Calls Tryd.prog 12 #[.string (baS l), .int .u64 M] w fun e w' => e = .returned (numR (numU M l)) ∧ Below w.heap.size w w' := by
  have hsz : (baS l).size = l.length := baS_len l
  by_cases h20 : 20 < l.length
  · have a1 : (20 : Int) < l.length := by omega
    have HR := Lib.hid (numU_long hM h20)
    generalize l.length = N at *
    clear hM hg
    go_enter Tryd.func12, Tryd.ntmps12
    go_wp2
    go_ret2
    exact ⟨by rw [HR.out]; rfl, Below.refl _ _⟩
  · have a1 : ¬ (20 : Int) < l.length := by omega
    by_cases hz : 1 < l.length ∧ l.head? = some 48
    · have HR : Hid (numU M l = none) := by show _ = _; unfold numU; rw [if_pos (Or.inr hz)]
      have h0l : 0 < l.length := by omega
      have hat0 : ∀ h, (baS l)[0]'h = 48 := fun h => by
        rw [baS_at l 0 h0l]
        have := hz.2
        rw [List.head?_eq_getElem?, List.getElem?_eq_getElem h0l] at this
        exact Option.some.inj this
      have a2 : (1 : Int) < l.length := by omega
      have a3 : 0 < (baS l).size := by omega
      have a4 : (0 : Int) < l.length := by omega
      clear hz h0l
      generalize l.length = N at *
      clear hM hg
      go_enter Tryd.func12, Tryd.ntmps12
      go_wp2
      go_ret2
      exact ⟨by rw [HR.out]; rfl, Below.refl _ _⟩
    · have HG := Lib.hid hg
      have HS : Hid ((baS l).size < 4294967281) := by show _ < _; omega
      have HB : Hid ((1 < l.length ∧ ∀ h, ∃ b : UInt8, (baS l)[0]'h = b ∧ ((b.toNat : Int) == 48) = false) ∨ ¬ (1 : Int) < l.length) := by
        by_cases h1 : 1 < l.length
        · left
          refine ⟨h1, fun h => ⟨_, rfl, ?_⟩⟩
          have h0l : 0 < l.length := by omega
          rw [baS_at l 0 h0l]
          rw [beq_eq_false_iff_ne]; intro e
          apply hz
          refine ⟨h1, ?_⟩
          rw [List.head?_eq_getElem?, List.getElem?_eq_getElem h0l]
          exact congrArg some (UInt8.toNat_inj.1 (by simpa using Int.ofNat_inj.1 e))
        · right; omega
      cases hp : (match Lib.parseUintB 64 l with | .ok u => some u | _ => none) with
      | some u =>
        have hok : Lib.parseUintB 64 l = .ok u := by
          split at hp
          · rename_i x hx; cases hp; exact hx
          · cases hp
        have HR := Lib.hid (numU_ok hM hz hok)
        have HK : Hid (∀ w, Calls Tryd.prog 23 #[.string (baS l), .int .i64 10, .int .i64 64] w fun e w' => e = .returned (.tuple #[.int .u64 u, .nilIface]) ∧ Below w.heap.size w w') := fun w => pu10_ok (baS l) u w HS.out hok
        clear hp hok hz hg hM
        rcases HB.out with ⟨h1, hb⟩ | h1
        · have a2 : (1 : Int) < l.length := by omega
          have a3 : 0 < (baS l).size := by omega
          have a4 : (0 : Int) < l.length := by omega
          obtain ⟨b, hb1, hb2⟩ := hb (by omega)
          have hb1' : ∀ h, (baS l)[0]'h = b := fun h => hb1
          clear hb hb1 HB h1
          generalize l.length = N at *
          by_cases hu : u ≤ M
          · have hu' : ¬ (M : Int) < u := by omega
            go_enter Tryd.func12, Tryd.ntmps12
            go_wp2_with fail
            refine (HK.out _).mono ?_
            rintro e w1 ⟨rfl, hb⟩
            go_wp2
            go_ret2
            exact ⟨by rw [HR.out, if_pos hu]; rfl, hb⟩
          · have hu' : (M : Int) < u := by omega
            go_enter Tryd.func12, Tryd.ntmps12
            go_wp2_with fail
            refine (HK.out _).mono ?_
            rintro e w1 ⟨rfl, hb⟩
            go_wp2
            go_ret2
            exact ⟨by rw [HR.out, if_neg hu]; rfl, hb⟩
        · clear HB
          generalize l.length = N at *
          by_cases hu : u ≤ M
          · have hu' : ¬ (M : Int) < u := by omega
            go_enter Tryd.func12, Tryd.ntmps12
            go_wp2_with fail
            refine (HK.out _).mono ?_
            rintro e w1 ⟨rfl, hb⟩
            go_wp2
            go_ret2
            exact ⟨by rw [HR.out, if_pos hu]; rfl, hb⟩
          · have hu' : (M : Int) < u := by omega
            go_enter Tryd.func12, Tryd.ntmps12
            go_wp2_with fail
            refine (HK.out _).mono ?_
            rintro e w1 ⟨rfl, hb⟩
            go_wp2
            go_ret2
            exact ⟨by rw [HR.out, if_neg hu]; rfl, hb⟩
      | none =>
        have hno : ∀ u, Lib.parseUintB 64 l ≠ .ok u := fun u hu => by rw [hu] at hp; cases hp
        have HR := Lib.hid (numU_no hM hz hno)
        have HK : Hid (∀ w, Gl w → Calls Tryd.prog 23 #[.string (baS l), .int .i64 10, .int .i64 64] w fun e w' => (∃ u N, e = .returned (.tuple #[.int .u64 u, .iface 68 (.pointer (some ⟨N, 0, none⟩))])) ∧ Below w.heap.size w w') := fun w hg => pu10_no (baS l) w hg HS.out hno
        clear hp hno hz hg hM
        rcases HB.out with ⟨h1, hb⟩ | h1
        · have a2 : (1 : Int) < l.length := by omega
          have a3 : 0 < (baS l).size := by omega
          have a4 : (0 : Int) < l.length := by omega
          obtain ⟨b, hb1, hb2⟩ := hb (by omega)
          have hb1' : ∀ h, (baS l)[0]'h = b := fun h => hb1
          clear hb hb1 HB h1
          generalize l.length = N at *
          go_enter Tryd.func12, Tryd.ntmps12
          go_wp2_with fail
          refine (HK.out _ HG.out).mono ?_
          rintro e w1 ⟨⟨u, N', rfl⟩, hb⟩
          go_wp2
          go_ret2
          exact ⟨by rw [HR.out]; rfl, hb⟩
        · clear HB
          generalize l.length = N at *
          go_enter Tryd.func12, Tryd.ntmps12
          go_wp2_with fail
          refine (HK.out _ HG.out).mono ?_
          rintro e w1 ⟨⟨u, N', rfl⟩, hb⟩
          go_wp2
          go_ret2
          exact ⟨by rw [HR.out]; rfl, hb⟩
def weekN (s : Nat) : Nat := (s / 86400 + 4) % 7
set_option maxHeartbeats 1000000 in
theorem weekD_x (s : Nat) (w : World) (h : s < 18446744073709551616) :
    Calls Tryd.prog 10 #[.int .u64 s] w fun e w' => e = .returned (.int .i64 (weekN s : Nat)) ∧ w' = w := by
  have h1 : IntKind.u64.wrap ((s : Int) / 86400) = ((s / 86400 : Nat) : Int) := by rw [IntKind.wrap_u64]; omega
  have h2 : IntKind.u64.wrap (((s / 86400 : Nat) : Int) + 4) = ((s / 86400 + 4 : Nat) : Int) := by rw [IntKind.wrap_u64]; omega
  have h3 : (((s / 86400 + 4 : Nat) : Int)).tmod 7 = ((weekN s : Nat) : Int) := by unfold weekN; rw [Int.tmod_eq_emod_of_nonneg (by omega)]; omega
  have h4 : wrap64 ((weekN s : Nat) : Int) = ((weekN s : Nat) : Int) := by unfold wrap64 weekN; omega
  have HS : Hid (wrap64 ((IntKind.u64.wrap (IntKind.u64.wrap ((s : Int) / 86400) + 4)).tmod 7) = ((weekN s : Nat) : Int)) := by show _ = _; rw [h1, h2, h3, h4]
  clear h h1 h2 h3 h4
  go_enter Tryd.func10, Tryd.ntmps10
  go_wp2
  go_ret
  exact ⟨by rw [← HS.out]; rfl, rfl⟩
set_option maxHeartbeats 1000000 in
theorem isDigit_x (c : UInt8) (w : World) :
    Calls Tryd.prog 37 #[.int .u8 c.toNat] w fun e w' => e = .returned (.bool (isD c)) ∧ w' = w := by
  have hc : c.toNat < 256 := c.toNat_lt
  unfold isD
  generalize c.toNat = n at *
  by_cases h1 : 48 ≤ n
  · have a1 : (48 : Int) ≤ n := by omega
    by_cases h2 : n ≤ 57
    · have a2 : (n : Int) ≤ 57 := by omega
      go_enter Tryd.func37, Tryd.ntmps37
      go_wp2
      go_ret
      exact ⟨by simp [h1, h2], rfl⟩
    · have a2 : ¬ (n : Int) ≤ 57 := by omega
      go_enter Tryd.func37, Tryd.ntmps37
      go_wp2
      go_ret
      exact ⟨by simp, rfl⟩
  · have a1 : ¬ (48 : Int) ≤ n := by omega
    go_enter Tryd.func37, Tryd.ntmps37
    go_wp2
    go_ret
    exact ⟨by simp, rfl⟩
theorem rem_beq (y m : Nat) : (((y : Int) % (m : Int)) == 0) = (y % m == 0) := by
  rw [Bool.eq_iff_iff]
  simp only [beq_iff_eq]
  omega
set_option maxHeartbeats 1000000 in
theorem isLeap_x (y : Nat) (w : World) :
    Calls Tryd.prog 38 #[.int .u64 y] w fun e w' => e = .returned (.bool (leapY y)) ∧ w' = w := by
  by_cases h4 : y % 4 = 0
  · have a4 : (((y : Int) % 4) == 0) = true := by rw [beq_iff_eq]; omega
    by_cases h100 : y % 100 = 0
    · have a100 : (((y : Int) % 100) != 0) = false := by rw [bne_eq_false_iff_eq]; omega
      by_cases h400 : y % 400 = 0
      · have a400 : (((y : Int) % 400) == 0) = true := by rw [beq_iff_eq]; omega
        have HR : Hid (leapY y = true) := by show _ = _; simp [leapY, h400]
        clear h4 h100 h400
        go_enter Tryd.func38, Tryd.ntmps38
        go_wp2
        go_ret
        exact ⟨by rw [HR.out]; rfl, rfl⟩
      · have a400 : (((y : Int) % 400) == 0) = false := by rw [beq_eq_false_iff_ne]; omega
        have HR : Hid (leapY y = false) := by show _ = _; simp [leapY, h100, h400]
        clear h4 h100 h400
        go_enter Tryd.func38, Tryd.ntmps38
        go_wp2
        go_ret
        exact ⟨by rw [HR.out]; rfl, rfl⟩
    · have a100 : (((y : Int) % 100) != 0) = true := by rw [bne_iff_ne]; omega
      have HR : Hid (leapY y = true) := by show _ = _; simp [leapY, h4, h100]
      clear h4 h100
      go_enter Tryd.func38, Tryd.ntmps38
      go_wp2
      go_ret
      exact ⟨by rw [HR.out]; rfl, rfl⟩
  · have a4 : (((y : Int) % 4) == 0) = false := by rw [beq_eq_false_iff_ne]; omega
    have HR : Hid (leapY y = false) := by show _ = _; simp [leapY, h4]; omega
    clear h4
    go_enter Tryd.func38, Tryd.ntmps38
    go_wp2
    go_ret
    exact ⟨by rw [HR.out]; rfl, rfl⟩
def leapsN (y : Nat) : Nat := (y - 1) / 4 - (y - 1) / 100 + (y - 1) / 400
set_option maxHeartbeats 1000000 in
theorem leaps_x (v : Int) (y : Nat) (w : World) (h : 1 ≤ y) (h' : y ≤ 100000) (hv : v = y) :
    Calls Tryd.prog 39 #[.int .u64 v] w fun e w' => e = .returned (.int .u64 (leapsN y : Nat)) ∧ w' = w := by
  subst hv
  have h1 : IntKind.u64.wrap ((y : Int) - 1) = (y : Int) - 1 := by rw [IntKind.wrap_u64]; omega
  have t : ∀ d : Int, 0 < d → IntKind.u64.wrap (((y : Int) - 1).tdiv d) = ((y : Int) - 1) / d := fun d hd => by
    rw [Int.tdiv_eq_ediv_of_nonneg (by omega), IntKind.wrap_u64]
    have a : 0 ≤ ((y : Int) - 1) / d := Int.ediv_nonneg (by omega) (by omega)
    have b : ((y : Int) - 1) / d ≤ (y : Int) - 1 := Int.ediv_le_self _ (by omega)
    omega
  have h2 : IntKind.u64.wrap (((y : Int) - 1) / 4 - ((y : Int) - 1) / 100) = ((y : Int) - 1) / 4 - ((y : Int) - 1) / 100 := by rw [IntKind.wrap_u64]; omega
  have h3 : IntKind.u64.wrap (((y : Int) - 1) / 4 - ((y : Int) - 1) / 100 + ((y : Int) - 1) / 400) = ((y : Int) - 1) / 4 - ((y : Int) - 1) / 100 + ((y : Int) - 1) / 400 := by rw [IntKind.wrap_u64]; omega
  have HW : Hid (IntKind.u64.wrap (IntKind.u64.wrap (IntKind.u64.wrap (((y : Int) - 1).tdiv 4) - IntKind.u64.wrap (((y : Int) - 1).tdiv 100)) + IntKind.u64.wrap (((y : Int) - 1).tdiv 400)) = ((leapsN y : Nat) : Int)) := by
    show _ = _
    rw [t 4 (by omega), t 100 (by omega), t 400 (by omega), h2, h3]
    unfold leapsN; omega
  clear h h' t h2 h3
  go_enter Tryd.func39, Tryd.ntmps39
  go_wp2
  go_ret
  exact ⟨by rw [← HW.out]; rfl, rfl⟩
theorem year_leaps (y : Nat) (h : 1970 ≤ y) : (yearD y : Int) = ((y : Int) - 1970) * 365 + (leapsN y : Nat) - 477 := by
  rw [yearD_is y h]
  unfold leapsN
  have : (y - 1) / 100 ≤ (y - 1) / 4 := by omega
  omega
set_option maxHeartbeats 1000000 in
theorem yearStart_x (v : Int) (y : Nat) (w : World) (h : 1970 ≤ y) (h' : y ≤ 100000) (hv : v = y) :
    Calls Tryd.prog 30 #[.int .u64 v] w fun e w' => e = .returned (.int .u64 (yearD y : Nat)) ∧ w' = w := by
  subst hv
  have HL := Lib.hid (fun w => leaps_x (y : Int) y w (by omega) h' rfl)
  have HC : Hid (∀ w, Calls Tryd.prog 39 #[.int .u64 1970] w fun e w' => e = .returned (.int .u64 477) ∧ w' = w) := fun w => leaps_x 1970 1970 w (by omega) (by omega) rfl
  have hb : leapsN y ≤ 200000 := by unfold leapsN; omega
  have hy := year_leaps y h
  generalize leapsN y = L at *
  generalize yearD y = Y at *
  have h1 : IntKind.u64.wrap ((y : Int) - 1970) = (y : Int) - 1970 := by rw [IntKind.wrap_u64]; omega
  have h2 : IntKind.u64.wrap (((y : Int) - 1970) * 365) = ((y : Int) - 1970) * 365 := by rw [IntKind.wrap_u64]; omega
  have h3 : IntKind.u64.wrap (((y : Int) - 1970) * 365 + L) = ((y : Int) - 1970) * 365 + L := by rw [IntKind.wrap_u64]; omega
  have h4 : IntKind.u64.wrap (((y : Int) - 1970) * 365 + L - 477) = ((y : Int) - 1970) * 365 + L - 477 := by rw [IntKind.wrap_u64]; omega
  have HY := Lib.hid hy
  clear hy hb h h'
  go_enter Tryd.func30, Tryd.ntmps30
  go_wp2_with fail
  refine (HL.out _).mono ?_
  rintro e w1 ⟨rfl, rfl⟩
  go_wp2_with fail
  refine (HC.out _).mono ?_
  rintro e w1 ⟨rfl, rfl⟩
  go_wp2
  go_ret
  exact ⟨by rw [HY.out]; rfl, rfl⟩
theorem monTab_is (y m : Nat) (h : 1 ≤ m) (h' : m ≤ 12) (hf : ¬ (m = 2 ∧ leapY y = true)) : monTab.getD (m - 1) 0 = ((monL y m : Nat) : Int) := by
  rcases (show m = 1 ∨ m = 2 ∨ m = 3 ∨ m = 4 ∨ m = 5 ∨ m = 6 ∨ m = 7 ∨ m = 8 ∨ m = 9 ∨ m = 10 ∨ m = 11 ∨ m = 12 by omega) with rfl | rfl | rfl | rfl | rfl | rfl | rfl | rfl | rfl | rfl | rfl | rfl
  case inr.inl => simp [monTab, monL, lpY] at hf ⊢; simp [hf]
  all_goals rfl
set_option maxHeartbeats 1000000 in
theorem monthDays_x (v u : Int) (y m : Nat) (w : World) (hg : Gl w) (h : 1 ≤ m) (h' : m ≤ 12) (hv : v = y) (hu : u = m) :
    Calls Tryd.prog 29 #[.int .u64 v, .int .u64 u] w fun e w' => e = .returned (.int .u64 (monL y m : Nat)) ∧ w' = w := by
  subst hv hu
  have HL := Lib.hid (fun w => isLeap_x y w)
  have hw1 : IntKind.u64.wrap ((m : Int) - 1) = ((m - 1 : Nat) : Int) := by rw [IntKind.wrap_u64]; omega
  have hw2 : (m : Int) - 1 = ((m - 1 : Nat) : Int) := by omega
  by_cases hf : m = 2 ∧ leapY y = true
  · obtain ⟨rfl, hy⟩ := hf
    rw [hy] at HL
    have HM : Hid (monL y 2 = 29) := by show _ = _; simp [monL, lpY, hy]
    clear hy hw1 hw2 h h' hg
    go_enter Tryd.func29, Tryd.ntmps29
    go_wp2_with fail
    refine (HL.out _).mono ?_
    rintro e w1 ⟨rfl, rfl⟩
    go_wp2
    go_ret
    exact ⟨by rw [HM.out]; rfl, rfl⟩
  · have hc := hg.month (m - 1) (by omega)
    rw [monTab_is y m h h' hf] at hc
    generalize monL y m = L at *
    by_cases h2 : m = 2
    · subst h2
      have hy : leapY y = false := by
        cases hy : leapY y
        · rfl
        · exact absurd ⟨rfl, hy⟩ hf
      rw [hy] at HL
      have hc' : w.cell? ⟨0, 1, none⟩ = some (.int .u64 (L : Nat)) := hc
      clear hf hy hw1 hw2 h h' hg hc
      go_enter Tryd.func29, Tryd.ntmps29
      go_wp2_with fail
      refine (HL.out _).mono ?_
      rintro e w1 ⟨rfl, rfl⟩
      go_wp2
      go_ret
      exact ⟨rfl, rfl⟩
    · have h2' : ((m : Int) == 2) = false := by rw [beq_eq_false_iff_ne]; omega
      obtain ⟨j, hj⟩ : ∃ j, m - 1 = j := ⟨_, rfl⟩
      rw [hj] at hc hw1 hw2
      have hj12 : j < 12 := by omega
      have hj12' : (j : Int) < 12 := by omega
      clear hf hg h2 hj h h'
      go_enter Tryd.func29, Tryd.ntmps29
      go_wp2
      go_ret
      exact ⟨rfl, rfl⟩
end Go.Proofs.YtjoiedomdliadaaDoor
