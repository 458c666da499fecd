/- date.yearOf, pair, printClock, printDay, Print: every second up to the end of 9999 is told in its one form. -/
import Derived.Test.YtjoiedomdliadaaDoorDa
namespace Go.Proofs.YtjoiedomdliadaaDoor
open Go.ChangeShapes Go.WideShapes Go.RowKit Go.Sort

theorem yearK_ge (k : Nat) : 365 * k ≤ yearK k ∧ yearK k ≤ 366 * k := by
  induction k with
  | zero => simp [yearK]
  | succ k ih => unfold yearK; have := lpY_le (k + 1970); omega
theorem yearD_guess (n : Nat) : n < yearD (1970 + n / 365 + 1) := by
  unfold yearD
  have := (yearK_ge (n / 365 + 1)).1
  rw [show 1970 + n / 365 + 1 - 1970 = n / 365 + 1 by omega]
  omega
theorem yearD_first : yearD 1970 = 0 := rfl
set_option maxHeartbeats 2000000 in
set_option maxRecDepth 100000 in
theorem yearOf_x (y n : Nat) (w : World) (hy : 1970 ≤ y) (h1 : yearD y ≤ n) (h2 : n < yearD (y + 1)) (hn : n < 3000000) :
    Calls Tryd.prog 31 #[.int .u64 n] w fun e w' => e = .returned (.int .u64 y) ∧ w' = w := by
  have HY := Lib.hid (And.intro hy (And.intro h1 h2))
  have HG := Lib.hid (yearD_guess n)
  have hd : n / 365 ≤ 10000 := by omega
  have hw1 : IntKind.u64.wrap ((n : Int) / 365) = ((n / 365 : Nat) : Int) := by rw [IntKind.wrap_u64]; omega
  have hw0 : (n : Int) / 365 = ((n / 365 : Nat) : Int) := by omega
  generalize n / 365 = q at *
  clear h1 h2 hy
  go_enter Tryd.func31, Tryd.ntmps31
  go_wp2
  go_loop [3] (fun v => ∃ (z : Nat), v = .int .u64 z ∧ 1970 ≤ z ∧ z ≤ 20000 ∧ Hid (n < yearD (z + 1)))
    (fun v => (intOf v).toNat)
  case atStart => exact ⟨1970 + q, by first | rfl | (congr 1; omega), by omega, by omega, HG⟩
  case round =>
    obtain ⟨z, rfl, hz, hz', hh⟩ := hrel
    have HS := Lib.hid (fun w => yearStart_x (z : Int) z w hz (by omega) rfl)
    by_cases hc : yearD z ≤ n
    · have hc' : ¬ (n : Int) < (yearD z : Nat) := by omega
      have HE : Hid (z = y) := year_one hz HY.out.1 hc hh.out HY.out.2.1 HY.out.2.2
      generalize yearD z = Z at *
      clear hh hc
      go_wp2_with fail
      refine (HS.out _).mono ?_
      rintro e w1 ⟨rfl, rfl⟩
      go_wp2
      go_ret
      exact ⟨by rw [← HE.out]; rfl, rfl⟩
    · have hc' : (n : Int) < (yearD z : Nat) := by omega
      have hz1 : 1970 < z := by
        rcases Nat.lt_or_ge 1970 z with h | h
        · exact h
        · exfalso; apply hc; rw [show z = 1970 by omega, yearD_first]; omega
      have HN : Hid (n < yearD (z - 1 + 1)) := by show _ < _; rw [show z - 1 + 1 = z by omega]; omega
      generalize yearD z = Z at *
      clear hh hc
      go_wp2_with fail
      refine (HS.out _).mono ?_
      rintro e w1 ⟨rfl, rfl⟩
      go_wp2
      refine ⟨⟨z - 1, (by first | rfl | (congr 1; omega)), by omega, by omega, HN⟩, by simp [intOf]; omega⟩
set_option maxHeartbeats 1000000 in
theorem pairD_x (v : Int) (n : Nat) (w : World) (hg : Gl w) (hn : n < 100) (hv : v = n) :
    Calls Tryd.prog 32 #[.int .u64 v] w fun e w' => e = .returned (.string (baS (pairT n))) ∧ Below w.heap.size w w' := by
  subst hv
  have h1 : Hid ((n : Int) / 10 = ((n / 10 : Nat) : Int)) := by show _ = _; omega
  have h2 : Hid ((n : Int) % 10 = ((n % 10 : Nat) : Int)) := by show _ = _; omega
  have hadd : ∀ V, (Op.stringOp .add (baS [dC (n / 10)]) (baS [dC (n % 10)])).run Tryd.prog V = .ok (.string (baS (pairT n))) V := addS [dC (n / 10)] [dC (n % 10)] (by simp) (by simp)
  have HT : Hid (∀ (u : Nat) (v : Int) (w : World), u < 10 → v = (u : Int) → Gl w → Calls Tryd.prog 11 #[.int .u64 v] w fun e w' => e = .returned (.string (baS [dC u])) ∧ Below w.heap.size w w') := fun u v w hu hv hg => by
    have := textD_is v u w hg (by omega) hv
    rw [digs_one hu] at this
    exact this
  have HG := Lib.hid hg
  have HU : Hid (n / 10 < 10 ∧ n % 10 < 10) := ⟨by omega, by omega⟩
  clear hg
  go_enter Tryd.func32, Tryd.ntmps32
  go_wp2_with fail
  refine (HT.out (n / 10) _ _ HU.out.1 h1.out HG.out).mono ?_
  rintro e w1 ⟨rfl, hb1⟩
  go_wp2_with fail
  refine (HT.out (n % 10) _ _ HU.out.2 h2.out (HG.out.below hb1)).mono ?_
  rintro e w2 ⟨rfl, hb2⟩
  go_wp2
  go_ret
  exact ⟨rfl, below_next hb1 hb2⟩
set_option maxHeartbeats 1000000 in
theorem printClock_x (v : Int) (t : Nat) (w : World) (hg : Gl w) (ht : t < 86400) (hv : v = t) :
    Calls Tryd.prog 21 #[.int .u64 v] w fun e w' => e = .returned (.string (baS (clockT t))) ∧ Below w.heap.size w w' := by
  subst hv
  have h1 : Hid ((t : Int) / 3600 = ((t / 3600 : Nat) : Int)) := by show _ = _; omega
  have h2 : Hid ((t : Int) % 3600 / 60 = ((t % 3600 / 60 : Nat) : Int)) := by show _ = _; omega
  have h3 : Hid ((t : Int) % 60 = ((t % 60 : Nat) : Int)) := by show _ = _; omega
  have HU : Hid (t / 3600 < 100 ∧ t % 3600 / 60 < 100 ∧ t % 60 < 100) := ⟨by omega, by omega, by omega⟩
  have HC : Hid (baS (clockT t) = baS (((pairT (t / 3600) ++ [58]) ++ pairT (t % 3600 / 60)) ++ [58] ++ pairT (t % 60))) := by show _ = _; rfl
  have HG := Lib.hid hg
  have ha1 : ∀ V, (Op.stringOp .add (baS (pairT (t / 3600))) ⟨#[58]⟩).run Tryd.prog V = .ok (.string (baS (pairT (t / 3600) ++ [58]))) V := addS _ [58] (by simp [pairT]) (by simp)
  have ha2 : ∀ V, (Op.stringOp .add (baS (pairT (t / 3600) ++ [58])) (baS (pairT (t % 3600 / 60)))).run Tryd.prog V = .ok (.string (baS (pairT (t / 3600) ++ [58] ++ pairT (t % 3600 / 60)))) V := addS _ _ (by simp [pairT]) (by simp [pairT])
  have ha3 : ∀ V, (Op.stringOp .add (baS (pairT (t / 3600) ++ [58] ++ pairT (t % 3600 / 60))) ⟨#[58]⟩).run Tryd.prog V = .ok (.string (baS (pairT (t / 3600) ++ [58] ++ pairT (t % 3600 / 60) ++ [58]))) V := addS _ [58] (by simp [pairT]) (by simp)
  have ha4 : ∀ V, (Op.stringOp .add (baS (pairT (t / 3600) ++ [58] ++ pairT (t % 3600 / 60) ++ [58])) (baS (pairT (t % 60)))).run Tryd.prog V = .ok (.string (baS (pairT (t / 3600) ++ [58] ++ pairT (t % 3600 / 60) ++ [58] ++ pairT (t % 60)))) V := addS _ _ (by simp [pairT]) (by simp [pairT])
  have K1 := Lib.hid (fun v w hg hv => pairD_x v (t / 3600) w hg HU.out.1 hv)
  have K2 := Lib.hid (fun v w hg hv => pairD_x v (t % 3600 / 60) w hg HU.out.2.1 hv)
  have K3 := Lib.hid (fun v w hg hv => pairD_x v (t % 60) w hg HU.out.2.2 hv)
  generalize pairT (t / 3600) = a at *
  generalize pairT (t % 3600 / 60) = b at *
  generalize pairT (t % 60) = c at *
  generalize a ++ [58] = d at *
  generalize d ++ b = f at *
  generalize f ++ [58] = g at *
  generalize g ++ c = k at *
  clear hg HU
  go_enter Tryd.func21, Tryd.ntmps21
  go_wp2_with fail
  refine (K1.out _ _ HG.out h1.out).mono ?_
  rintro e w1 ⟨rfl, hb1⟩
  go_wp2_with fail
  refine (K2.out _ _ (HG.out.below hb1) h2.out).mono ?_
  rintro e w2 ⟨rfl, hb2⟩
  have B2 := below_next hb1 hb2
  go_wp2_with fail
  refine (K3.out _ _ (HG.out.below B2) h3.out).mono ?_
  rintro e w3 ⟨rfl, hb3⟩
  go_wp2
  go_ret
  exact ⟨by rw [HC.out]; rfl, below_next B2 hb3⟩
set_option maxHeartbeats 4000000 in
set_option maxRecDepth 100000 in
theorem printDay_x (v : Int) (y m d : Nat) (w : World) (hg : Gl w) (ho : OkD y m d) (hv : v = (dayN y m d : Nat)) :
    Calls Tryd.prog 20 #[.int .u64 v] w fun e w' => e = .returned (.string (baS (dayT y m d))) ∧ Below w.heap.size w w' := by
  subst hv
  have HO := Lib.hid ho
  have hN := dayN_lt ho
  have h1 := (dayN_year ho).1
  have HY : Hid (∀ w, Calls Tryd.prog 31 #[.int .u64 (dayN y m d : Nat)] w fun e w' => e = .returned (.int .u64 y) ∧ w' = w) := fun w => yearOf_x y _ w ho.1 (dayN_year ho).1 (dayN_year ho).2 (by omega)
  have HS : Hid (∀ w, Calls Tryd.prog 30 #[.int .u64 y] w fun e w' => e = .returned (.int .u64 (yearD y : Nat)) ∧ w' = w) := fun w => yearStart_x _ y w ho.1 (by have := ho.2.1; omega) rfl
  have hm12 : m ≤ 12 := ho.2.2.2.1
  have hm1 : 1 ≤ m := ho.2.2.1
  have hw1 : IntKind.u64.wrap ((dayN y m d : Nat) - (yearD y : Nat) : Int) = ((dayN y m d - yearD y : Nat) : Int) := by rw [IntKind.wrap_u64]; omega
  have hw0 : (((dayN y m d : Nat) : Int) - (yearD y : Nat)) = ((dayN y m d - yearD y : Nat) : Int) := by omega
  have HL : Hid (dayN y m d - yearD y = aheadD y m + (d - 1) ∧ d - 1 < monL y m ∧ d < 100 ∧ 1 ≤ d) := by
    refine ⟨by unfold dayN; omega, ?_, ?_, ho.2.2.2.2.1⟩
    · have := ho.2.2.2.2; omega
    · have := ho.2.2.2.2.2; have := (monL_pos y m).2; omega
  have hlt : dayN y m d - yearD y < 3000000 := by omega
  generalize dayN y m d = n at *
  generalize hq : n - yearD y = q at *
  have HG := Lib.hid hg
  have hyb : y ≤ 9999 := ho.2.1
  have hyb0 : 1970 ≤ y := ho.1
  clear ho hq hg
  generalize yearD y = Z at *
  go_enter Tryd.func20, Tryd.ntmps20
  go_wp2_with fail
  refine (HY.out _).mono ?_
  rintro e w1 ⟨rfl, rfl⟩
  go_wp2_with fail
  refine (HS.out _).mono ?_
  rintro e w1 ⟨rfl, rfl⟩
  go_wp2
  clear hw0 hw1 HY HS h1 hN
  go_loop [4, 5] (fun lv mv => ∃ (l k : Nat), lv = .int .u64 l ∧ mv = .int .u64 k ∧ 1 ≤ k ∧ k ≤ m ∧ l < 3000000 ∧ Hid (l + aheadD y k = aheadD y m + (d - 1)))
    (fun _ mv => 13 - (intOf mv).toNat)
  case atStart => exact ⟨q, 1, rfl, rfl, by omega, hm1, hlt, by show _ = _; rw [(aheadD_is y).1]; exact HL.out.1⟩
  case round =>
    obtain ⟨l, k, rfl, rfl, hk, hkm, hl, hh⟩ := hrel
    have HM := Lib.hid (fun w hg => monthDays_x (y : Int) (k : Int) y k w hg hk (by omega) rfl rfl)
    have hnext := aheadD_next y k hk
    by_cases hc : k < m
    · have hge : monL y k ≤ l := by
        have := aheadD_le (y := y) (show 1 ≤ k + 1 by omega) (show k + 1 ≤ m by omega)
        have := hh.out
        omega
      have hge' : ((monL y k : Nat) : Int) ≤ l := by omega
      have HN : Hid (l - monL y k + aheadD y (k + 1) = aheadD y m + (d - 1)) := by have := hh.out; show _ = _; omega
      have hw2 : IntKind.u64.wrap ((l : Int) - (monL y k : Nat)) = ((l - monL y k : Nat) : Int) := by rw [IntKind.wrap_u64]; omega
      have hw3 : (l : Int) - (monL y k : Nat) = ((l - monL y k : Nat) : Int) := by omega
      clear hnext hh
      generalize monL y k = L at *
      go_wp2_with fail
      refine (HM.out _ HG.out).mono ?_
      rintro e w1 ⟨rfl, rfl⟩
      go_wp2_with fail
      refine (HM.out _ HG.out).mono ?_
      rintro e w1 ⟨rfl, rfl⟩
      go_wp2
      refine ⟨⟨l - L, k + 1, (by first | rfl | (congr 1; omega)), (by first | rfl | (congr 1; omega)), by omega, by omega, by omega, HN⟩, by simp [intOf]; omega⟩
    · obtain rfl : k = m := by omega
      have hld : l = d - 1 := by have := hh.out; omega
      have hlt2 : ¬ ((monL y k : Nat) : Int) ≤ l := by have := HL.out.2.1; omega
      have hd : Hid ((l : Int) + 1 = d ∧ d < 100) := ⟨by have := HL.out.2.2.2; omega, HL.out.2.2.1⟩
      have HT : Hid (∀ w, Gl w → Calls Tryd.prog 11 #[.int .u64 y] w fun e w' => e = .returned (.string (baS (yearT y))) ∧ Below w.heap.size w w') := fun w hg => by
        have := textD_x y w hg (by omega)
        rw [digs_year (by omega) hyb] at this
        exact this
      have K1 := Lib.hid (fun w hg => pairD_x (k : Int) k w hg (by omega) rfl)
      have K2 := Lib.hid (fun v w hg hv => pairD_x v d w hg hd.out.2 hv)
      have HC : Hid (baS (dayT y k d) = baS (((yearT y ++ [47]) ++ pairT k) ++ [47] ++ pairT d)) := by show _ = _; rfl
      have ha1 : ∀ V, (Op.stringOp .add (baS (yearT y)) ⟨#[47]⟩).run Tryd.prog V = .ok (.string (baS (yearT y ++ [47]))) V := addS _ [47] (by simp [yearT]) (by simp)
      have ha2 : ∀ V, (Op.stringOp .add (baS (yearT y ++ [47])) (baS (pairT k))).run Tryd.prog V = .ok (.string (baS (yearT y ++ [47] ++ pairT k))) V := addS _ _ (by simp [yearT]) (by simp [pairT])
      have ha3 : ∀ V, (Op.stringOp .add (baS (yearT y ++ [47] ++ pairT k)) ⟨#[47]⟩).run Tryd.prog V = .ok (.string (baS (yearT y ++ [47] ++ pairT k ++ [47]))) V := addS _ [47] (by simp [yearT, pairT]) (by simp)
      have ha4 : ∀ V, (Op.stringOp .add (baS (yearT y ++ [47] ++ pairT k ++ [47])) (baS (pairT d))).run Tryd.prog V = .ok (.string (baS (yearT y ++ [47] ++ pairT k ++ [47] ++ pairT d))) V := addS _ _ (by simp [yearT, pairT]) (by simp [pairT])
      clear hnext hh hld
      generalize monL y k = L at *
      generalize yearT y = a at *
      generalize pairT k = b at *
      generalize pairT d = c at *
      generalize a ++ [47] = p at *
      generalize p ++ b = f at *
      generalize f ++ [47] = g at *
      generalize g ++ c = r at *
      go_wp2_with fail
      refine (HM.out _ HG.out).mono ?_
      rintro e w1 ⟨rfl, rfl⟩
      go_wp2_with fail
      refine (HT.out _ HG.out).mono ?_
      rintro e w1 ⟨rfl, hb1⟩
      go_wp2_with fail
      refine (K1.out _ (HG.out.below hb1)).mono ?_
      rintro e w2 ⟨rfl, hb2⟩
      have B2 := below_next hb1 hb2
      go_wp2_with fail
      refine (K2.out _ _ (HG.out.below B2) hd.out.1).mono ?_
      rintro e w3 ⟨rfl, hb3⟩
      go_wp2
      go_ret
      exact ⟨by rw [HC.out]; rfl, below_next B2 hb3⟩
theorem day_lt {s : Nat} (h : s ≤ 253402300799) : s / 86400 < 2932897 := by omega
set_option maxHeartbeats 1000000 in
theorem printD_yes (s y m d : Nat) (w : World) (hg : Gl w) (hs : s ≤ 253402300799) (ho : OkD y m d) (he : dayN y m d = s / 86400) :
    Calls Tryd.prog 9 #[.int .u64 s] w fun e w' => e = .returned (.tuple #[.string (baS (dayT y m d)), .string (baS (clockT (s % 86400))), .bool true]) ∧ Below w.heap.size w w' := by
  have h0 : ¬ (253402300799 : Int) < s := by omega
  have h1 : Hid ((s : Int) / 86400 = ((dayN y m d : Nat) : Int)) := by show _ = _; omega
  have h2 : Hid ((s : Int) % 86400 = ((s % 86400 : Nat) : Int) ∧ s % 86400 < 86400) := ⟨by omega, by omega⟩
  have K1 := Lib.hid (fun v w hg hv => printDay_x v y m d w hg ho hv)
  have K2 := Lib.hid (fun v w hg hv => printClock_x v (s % 86400) w hg h2.out.2 hv)
  generalize dayT y m d = a at *
  generalize clockT (s % 86400) = b at *
  have HG := Lib.hid hg
  clear hg he ho
  go_enter Tryd.func9, Tryd.ntmps9
  go_wp2_with fail
  refine (K1.out _ _ HG.out h1.out).mono ?_
  rintro e w1 ⟨rfl, hb1⟩
  go_wp2_with fail
  refine (K2.out _ _ (HG.out.below hb1) h2.out.1).mono ?_
  rintro e w2 ⟨rfl, hb2⟩
  go_wp2
  go_ret3
  exact ⟨rfl, below_next hb1 hb2⟩
set_option maxHeartbeats 1000000 in
theorem printD_no (s : Nat) (w : World) (hs : 253402300799 < s) :
    Calls Tryd.prog 9 #[.int .u64 s] w fun e w' => e = .returned (.tuple #[.string ⟨#[]⟩, .string ⟨#[]⟩, .bool false]) ∧ Below w.heap.size w w' := by
  have h0 : (253402300799 : Int) < s := by omega
  clear hs
  go_enter Tryd.func9, Tryd.ntmps9
  go_wp2
  go_ret3
  exact ⟨rfl, Below.refl _ _⟩
end Go.Proofs.YtjoiedomdliadaaDoor
