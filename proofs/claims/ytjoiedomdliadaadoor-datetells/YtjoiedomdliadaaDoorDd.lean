/- date.parseClock, parseDay, Parse. -/
import Derived.Test.YtjoiedomdliadaaDoorDc
namespace Go.Proofs.YtjoiedomdliadaaDoor
open Go.ChangeShapes Go.WideShapes Go.RowKit Go.Sort

theorem form_clock_x (s : Bs) (w : World) : Calls Tryd.prog 28 #[.string (baS s), .string ⟨#[100, 100, 58, 100, 100, 58, 100, 100]⟩] w fun e w' => e = .returned (formR (formV clockF s 0 0 0 0)) ∧ Below w.heap.size w w' :=
  readForm_x s clockF w (by decide) (by decide)
theorem form_day_x (s : Bs) (w : World) : Calls Tryd.prog 28 #[.string (baS s), .string ⟨#[100, 100, 100, 100, 47, 100, 100, 47, 100, 100]⟩] w fun e w' => e = .returned (formR (formV dayF s 0 0 0 0)) ∧ Below w.heap.size w w' :=
  readForm_x s dayF w (by decide) (by decide)
set_option maxHeartbeats 2000000 in
set_option maxRecDepth 100000 in
theorem parseClock_x (s : Bs) (w : World) :
    Calls Tryd.prog 19 #[.string (baS s)] w fun e w' => e = .returned (numR (clockV s)) ∧ Below w.heap.size w w' := by
  have HR := Lib.hid (fun w => form_clock_x s w)
  have HC : Hid (clockV s = match formV clockF s 0 0 0 0 with | some (h, m, s) => if clockOk h m s = true then some (h * 3600 + m * 60 + s) else none | none => none) := by show _ = _; rfl
  cases hf : formV clockF s 0 0 0 0 with
  | none =>
    rw [hf] at HR HC
    have HR : Hid (∀ w, Calls Tryd.prog 28 #[.string (baS s), .string ⟨#[100, 100, 58, 100, 100, 58, 100, 100]⟩] w fun e w' => e = .returned (.tuple #[.agg #[.int .u64 0, .int .u64 0, .int .u64 0], .bool false]) ∧ Below w.heap.size w w') := HR
    clear hf
    go_enter Tryd.func19, Tryd.ntmps19
    go_wp2_with fail
    refine (HR.out _).mono ?_
    rintro e w1 ⟨rfl, hb⟩
    go_wp2
    go_quiet (fail)
    go_wp2
    go_ret2
    exact ⟨by rw [HC.out]; rfl, bdrew (ball hb) _⟩
  | some r =>
    obtain ⟨h, m, x⟩ := r
    have hlt := form_clock_lt hf
    rw [hf] at HR HC
    have HR : Hid (∀ w, Calls Tryd.prog 28 #[.string (baS s), .string ⟨#[100, 100, 58, 100, 100, 58, 100, 100]⟩] w fun e w' => e = .returned (.tuple #[.agg #[.int .u64 h, .int .u64 m, .int .u64 x], .bool true]) ∧ Below w.heap.size w w') := HR
    have HC : Hid (clockV s = if clockOk h m x = true then some (h * 3600 + m * 60 + x) else none) := HC
    clear hf
    obtain ⟨b1, b2, b3⟩ := hlt
    by_cases h1 : h ≤ 23
    · have a1 : ¬ (23 : Int) < h := by omega
      by_cases h2 : m ≤ 59
      · have a2 : ¬ (59 : Int) < m := by omega
        by_cases h3 : x ≤ 59
        · have a3 : ¬ (59 : Int) < x := by omega
          have HF : Hid (clockV s = some (h * 3600 + m * 60 + x)) := by show _ = _; rw [HC.out, if_pos (by simp [clockOk, h1, h2, h3])]
          go_enter Tryd.func19, Tryd.ntmps19
          go_wp2_with fail
          refine (HR.out _).mono ?_
          rintro e w1 ⟨rfl, hb⟩
          go_wp2
          go_quiet (fail)
          go_wp2
          go_ret2
          exact ⟨by rw [HF.out]; first | rfl | (simp [numR]), bdrew (ball hb) _⟩
        · have a3 : (59 : Int) < x := by omega
          have HF : Hid (clockV s = none) := by show _ = _; rw [HC.out, if_neg (by simp [clockOk, h3])]
          go_enter Tryd.func19, Tryd.ntmps19
          go_wp2_with fail
          refine (HR.out _).mono ?_
          rintro e w1 ⟨rfl, hb⟩
          go_wp2
          go_quiet (fail)
          go_wp2
          go_ret2
          exact ⟨by rw [HF.out]; rfl, bdrew (ball hb) _⟩
      · have a2 : (59 : Int) < m := by omega
        have HF : Hid (clockV s = none) := by show _ = _; rw [HC.out, if_neg (by simp [clockOk, h2])]
        go_enter Tryd.func19, Tryd.ntmps19
        go_wp2_with fail
        refine (HR.out _).mono ?_
        rintro e w1 ⟨rfl, hb⟩
        go_wp2
        go_quiet (fail)
        go_wp2
        go_ret2
        exact ⟨by rw [HF.out]; rfl, bdrew (ball hb) _⟩
    · have a1 : (23 : Int) < h := by omega
      have HF : Hid (clockV s = none) := by show _ = _; rw [HC.out, if_neg (by simp [clockOk, h1])]
      go_enter Tryd.func19, Tryd.ntmps19
      go_wp2_with fail
      refine (HR.out _).mono ?_
      rintro e w1 ⟨rfl, hb⟩
      go_wp2
      go_quiet (fail)
      go_wp2
      go_ret2
      exact ⟨by rw [HF.out]; rfl, bdrew (ball hb) _⟩
set_option maxHeartbeats 4000000 in
set_option maxRecDepth 100000 in
theorem parseDay_x (s : Bs) (w : World) (hg : Gl w) :
    Calls Tryd.prog 18 #[.string (baS s)] w fun e w' => e = .returned (numR (dayV s)) ∧ Below w.heap.size w w' := by
  have HR := Lib.hid (fun w => form_day_x s w)
  have HG := Lib.hid hg
  have HC : Hid (dayV s = match formV dayF s 0 0 0 0 with | some (y, m, d) => if dayOk y m d = true then some (dayN y m d) else none | none => none) := by show _ = _; rfl
  clear hg
  cases hf : formV dayF s 0 0 0 0 with
  | none =>
    rw [hf] at HR HC
    have HR : Hid (∀ w, Calls Tryd.prog 28 #[.string (baS s), .string ⟨#[100, 100, 100, 100, 47, 100, 100, 47, 100, 100]⟩] w fun e w' => e = .returned (.tuple #[.agg #[.int .u64 0, .int .u64 0, .int .u64 0], .bool false]) ∧ Below w.heap.size w w') := HR
    have HF : Hid (dayV s = none) := HC
    clear hf
    go_enter Tryd.func18, Tryd.ntmps18
    go_wp2_with fail
    refine (HR.out _).mono ?_
    rintro e w1 ⟨rfl, hb⟩
    go_wp2
    go_quiet (fail)
    go_wp2
    go_ret2
    exact ⟨by rw [HF.out]; rfl, bdrew (ball hb) _⟩
  | some r =>
    obtain ⟨y, m, d⟩ := r
    have hlt := form_day_lt hf
    rw [hf] at HR HC
    have HR : Hid (∀ w, Calls Tryd.prog 28 #[.string (baS s), .string ⟨#[100, 100, 100, 100, 47, 100, 100, 47, 100, 100]⟩] w fun e w' => e = .returned (.tuple #[.agg #[.int .u64 y, .int .u64 m, .int .u64 d], .bool true]) ∧ Below w.heap.size w w') := HR
    have HC : Hid (dayV s = if dayOk y m d = true then some (dayN y m d) else none) := HC
    clear hf
    obtain ⟨b1, b2, b3⟩ := hlt
    by_cases h1 : 1970 ≤ y
    · have a1 : ¬ (y : Int) < 1970 := by omega
      by_cases h2 : 1 ≤ m
      · have a2 : ¬ (m : Int) < 1 := by omega
        by_cases h3 : m ≤ 12
        · have a3 : ¬ (12 : Int) < m := by omega
          by_cases h4 : 1 ≤ d
          · have a4 : ¬ (d : Int) < 1 := by omega
            have HM := Lib.hid (fun w hg => monthDays_x (y : Int) (m : Int) y m w hg h2 h3 rfl rfl)
            by_cases h5 : d ≤ monL y m
            · have a5 : ¬ ((monL y m : Nat) : Int) < d := by omega
              have HF : Hid (dayV s = some (dayN y m d)) := by show _ = _; rw [HC.out, if_pos (by simp [dayOk, h1, h2, h3, h4, h5])]
              have HS := Lib.hid (fun w => yearStart_x (y : Int) y w h1 (by omega) rfl)
              have hY := yearD_top (y := y) h1 (by omega)
              have HL := Lib.hid (show ∀ k, 1 ≤ k → k ≤ 12 → aheadD y k ≤ 1000 from fun k hk hk' => by
                have := aheadD_le (y := y) hk (show k ≤ 13 by omega)
                have := (aheadD_is y).2.2.2.2.2.2.2.2.2.2.2.2
                have := lpY_le y
                omega)
              have HD : Hid (dayN y m d = yearD y + aheadD y m + (d - 1)) := by show _ = _; rfl
              have HA : Hid (aheadD y 1 = 0) := (aheadD_is y).1
              have hw1 : IntKind.u64.wrap (((yearD y : Nat) : Int) + d) = ((yearD y : Nat) : Int) + d := by rw [IntKind.wrap_u64]; omega
              have hw2 : IntKind.u64.wrap (((yearD y : Nat) : Int) + d - 1) = ((yearD y + (d - 1) : Nat) : Int) := by rw [IntKind.wrap_u64]; omega
              have hw3 : ((yearD y : Nat) : Int) + d - 1 = ((yearD y + (d - 1) : Nat) : Int) := by omega
              have hq : yearD y + (d - 1) ≤ 3000000 := by omega
              have HM2 := Lib.hid (fun (k : Nat) (h : 1 ≤ k ∧ k ≤ 12) w hg => monthDays_x (y : Int) (k : Int) y k w hg h.1 h.2 rfl rfl)
              have HML := Lib.hid (fun k => (monL_pos y k).2)
              clear HC h5
              generalize monL y m = L at *
              generalize hQ : yearD y + (d - 1) = Q at *
              have HQ := Lib.hid hQ
              generalize yearD y = Z at *
              clear hQ hY
              go_enter Tryd.func18, Tryd.ntmps18
              go_wp2_with fail
              refine (HR.out _).mono ?_
              rintro e w1 ⟨rfl, hb⟩
              go_wp2
              go_quiet (fail)
              go_wp2_with fail
              refine (HM.out _ (HG.out.below (bdrew (ball hb) _))).mono ?_
              rintro e w2 ⟨rfl, rfl⟩
              go_wp2_with fail
              refine (HS.out _).mono ?_
              rintro e w2 ⟨rfl, rfl⟩
              go_wp2
              go_loop [9, 10] (fun dv mv => ∃ (n k : Nat), dv = .int .u64 n ∧ mv = .int .u64 k ∧ 1 ≤ k ∧ k ≤ m ∧ n ≤ 4000000 ∧ Hid (n = Q + aheadD y k))
                (fun _ mv => m - (intOf mv).toNat)
              case atStart => exact ⟨Q, 1, rfl, rfl, by omega, h2, by omega, by show _ = _; rw [HA.out]; rfl⟩
              case round =>
                obtain ⟨n, k, rfl, rfl, hk, hkm, hn, hh⟩ := hrel
                by_cases hc : k < m
                · have hc' : (k : Int) < m := by omega
                  have HN : Hid (n + monL y k = Q + aheadD y (k + 1)) := by show _ = _; rw [aheadD_next y k hk, hh.out]; omega
                  have hbn : n + monL y k ≤ 4000000 := by rw [HN.out]; have := HL.out (k + 1) (by omega) (by omega); omega
                  have K1 := Lib.hid (HM2.out k ⟨hk, by omega⟩)
                  have hw4 : IntKind.u64.wrap ((n : Int) + (monL y k : Nat)) = ((n + monL y k : Nat) : Int) := by rw [IntKind.wrap_u64]; omega
                  generalize monL y k = L2 at *
                  clear hh
                  go_wp2_with fail
                  refine (K1.out _ (HG.out.below (bdrew (ball hb) _))).mono ?_
                  rintro e w2 ⟨rfl, rfl⟩
                  go_wp2
                  refine ⟨⟨n + L2, k + 1, (by first | rfl | (congr 1; omega)), (by first | rfl | (congr 1; omega)), by omega, by omega, hbn, HN⟩, by simp [intOf]; omega⟩
                · obtain rfl : k = m := by omega
                  have HE : Hid (dayV s = some n) := by show _ = _; rw [HF.out, HD.out, hh.out, ← HQ.out]; congr 1; omega
                  clear hh
                  go_wp2
                  go_ret2
                  exact ⟨by rw [HE.out]; rfl, bdrew (ball hb) _⟩
            · have a5 : ((monL y m : Nat) : Int) < d := by omega
              have HF : Hid (dayV s = none) := by show _ = _; rw [HC.out, if_neg (by simp [dayOk, h5])]
              clear HC h5
              generalize monL y m = L at *
              go_enter Tryd.func18, Tryd.ntmps18
              go_wp2_with fail
              refine (HR.out _).mono ?_
              rintro e w1 ⟨rfl, hb⟩
              go_wp2
              go_quiet (fail)
              go_wp2_with fail
              refine (HM.out _ (HG.out.below (bdrew (ball hb) _))).mono ?_
              rintro e w2 ⟨rfl, rfl⟩
              go_wp2
              go_ret2
              exact ⟨by rw [HF.out]; rfl, bdrew (ball hb) _⟩
          · have a4 : (d : Int) < 1 := by omega
            have HF : Hid (dayV s = none) := by show _ = _; rw [HC.out, if_neg (by simp [dayOk, h4])]
            go_enter Tryd.func18, Tryd.ntmps18
            go_wp2_with fail
            refine (HR.out _).mono ?_
            rintro e w1 ⟨rfl, hb⟩
            go_wp2
            go_quiet (fail)
            go_wp2
            go_ret2
            exact ⟨by rw [HF.out]; rfl, bdrew (ball hb) _⟩
        · have a3 : (12 : Int) < m := by omega
          have HF : Hid (dayV s = none) := by show _ = _; rw [HC.out, if_neg (by simp [dayOk, h3])]
          go_enter Tryd.func18, Tryd.ntmps18
          go_wp2_with fail
          refine (HR.out _).mono ?_
          rintro e w1 ⟨rfl, hb⟩
          go_wp2
          go_quiet (fail)
          go_wp2
          go_ret2
          exact ⟨by rw [HF.out]; rfl, bdrew (ball hb) _⟩
      · have a2 : (m : Int) < 1 := by omega
        have HF : Hid (dayV s = none) := by show _ = _; rw [HC.out, if_neg (by simp [dayOk, h2])]
        go_enter Tryd.func18, Tryd.ntmps18
        go_wp2_with fail
        refine (HR.out _).mono ?_
        rintro e w1 ⟨rfl, hb⟩
        go_wp2
        go_quiet (fail)
        go_wp2
        go_ret2
        exact ⟨by rw [HF.out]; rfl, bdrew (ball hb) _⟩
    · have a1 : (y : Int) < 1970 := by omega
      have HF : Hid (dayV s = none) := by show _ = _; rw [HC.out, if_neg (by simp [dayOk, h1])]
      go_enter Tryd.func18, Tryd.ntmps18
      go_wp2_with fail
      refine (HR.out _).mono ?_
      rintro e w1 ⟨rfl, hb⟩
      go_wp2
      go_quiet (fail)
      go_wp2
      go_ret2
      exact ⟨by rw [HF.out]; rfl, bdrew (ball hb) _⟩
theorem dayV_lt {s : Bs} {n : Nat} (h : dayV s = some n) : n < 2932897 := by
  unfold dayV at h
  cases hf : formV dayF s 0 0 0 0 with
  | none => rw [hf] at h; cases h
  | some r =>
    obtain ⟨y, m, d⟩ := r
    have hlt := form_day_lt hf
    rw [hf] at h
    simp only at h
    split at h
    · rename_i hok
      cases h
      simp [dayOk] at hok
      exact dayN_lt ⟨by omega, by omega, by omega, by omega, by omega, by omega⟩
    · cases h
theorem clockV_lt {s : Bs} {n : Nat} (h : clockV s = some n) : n < 86400 := by
  unfold clockV at h
  cases hf : formV clockF s 0 0 0 0 with
  | none => rw [hf] at h; cases h
  | some r =>
    obtain ⟨y, m, d⟩ := r
    rw [hf] at h
    simp only at h
    split at h
    · rename_i hok
      cases h
      simp [clockOk] at hok
      omega
    · cases h
set_option maxHeartbeats 2000000 in
theorem parseD_x (a b : Bs) (w : World) (hg : Gl w) :
    Calls Tryd.prog 7 #[.string (baS a), .string (baS b)] w fun e w' => e = .returned (numR (dateV a b)) ∧ Below w.heap.size w w' := by
  have K1 := Lib.hid (fun w hg => parseDay_x a w hg)
  have K2 := Lib.hid (fun w => parseClock_x b w)
  have HG := Lib.hid hg
  have HD : Hid (dateV a b = match dayV a, clockV b with | some d, some t => some (d * 86400 + t) | _, _ => none) := by show _ = _; rfl
  clear hg
  cases hd : dayV a with
  | none =>
    rw [hd] at K1 HD
    have K1 : Hid (∀ w, Gl w → Calls Tryd.prog 18 #[.string (baS a)] w fun e w' => e = .returned (.tuple #[.int .u64 0, .bool false]) ∧ Below w.heap.size w w') := K1
    have HF : Hid (dateV a b = none) := HD
    clear hd HD
    cases hc : clockV b with
    | none =>
      rw [hc] at K2
      have K2 : Hid (∀ w, Calls Tryd.prog 19 #[.string (baS b)] w fun e w' => e = .returned (.tuple #[.int .u64 0, .bool false]) ∧ Below w.heap.size w w') := K2
      clear hc
      go_enter Tryd.func7, Tryd.ntmps7
      go_wp2_with fail
      refine (K1.out _ HG.out).mono ?_
      rintro e w1 ⟨rfl, hb1⟩
      go_wp2_with fail
      refine (K2.out _).mono ?_
      rintro e w2 ⟨rfl, hb2⟩
      go_wp2
      go_ret2
      exact ⟨by rw [HF.out]; rfl, below_next hb1 hb2⟩
    | some t =>
      rw [hc] at K2
      have K2 : Hid (∀ w, Calls Tryd.prog 19 #[.string (baS b)] w fun e w' => e = .returned (.tuple #[.int .u64 t, .bool true]) ∧ Below w.heap.size w w') := K2
      clear hc
      go_enter Tryd.func7, Tryd.ntmps7
      go_wp2_with fail
      refine (K1.out _ HG.out).mono ?_
      rintro e w1 ⟨rfl, hb1⟩
      go_wp2_with fail
      refine (K2.out _).mono ?_
      rintro e w2 ⟨rfl, hb2⟩
      go_wp2
      go_ret2
      exact ⟨by rw [HF.out]; rfl, below_next hb1 hb2⟩
  | some n =>
    have hn := dayV_lt hd
    rw [hd] at K1 HD
    have K1 : Hid (∀ w, Gl w → Calls Tryd.prog 18 #[.string (baS a)] w fun e w' => e = .returned (.tuple #[.int .u64 n, .bool true]) ∧ Below w.heap.size w w') := K1
    clear hd
    cases hc : clockV b with
    | none =>
      rw [hc] at K2 HD
      have K2 : Hid (∀ w, Calls Tryd.prog 19 #[.string (baS b)] w fun e w' => e = .returned (.tuple #[.int .u64 0, .bool false]) ∧ Below w.heap.size w w') := K2
      have HF : Hid (dateV a b = none) := HD
      clear hc HD hn
      go_enter Tryd.func7, Tryd.ntmps7
      go_wp2_with fail
      refine (K1.out _ HG.out).mono ?_
      rintro e w1 ⟨rfl, hb1⟩
      go_wp2_with fail
      refine (K2.out _).mono ?_
      rintro e w2 ⟨rfl, hb2⟩
      go_wp2
      go_ret2
      exact ⟨by rw [HF.out]; rfl, below_next hb1 hb2⟩
    | some t =>
      have ht := clockV_lt hc
      rw [hc] at K2 HD
      have K2 : Hid (∀ w, Calls Tryd.prog 19 #[.string (baS b)] w fun e w' => e = .returned (.tuple #[.int .u64 t, .bool true]) ∧ Below w.heap.size w w') := K2
      have HF : Hid (dateV a b = some (n * 86400 + t)) := HD
      have hw1 : IntKind.u64.wrap ((n : Int) * 86400) = (n : Int) * 86400 := by rw [IntKind.wrap_u64]; omega
      have hw2 : IntKind.u64.wrap ((n : Int) * 86400 + t) = ((n * 86400 + t : Nat) : Int) := by rw [IntKind.wrap_u64]; omega
      clear hc HD hn ht
      go_enter Tryd.func7, Tryd.ntmps7
      go_wp2_with fail
      refine (K1.out _ HG.out).mono ?_
      rintro e w1 ⟨rfl, hb1⟩
      go_wp2_with fail
      refine (K2.out _).mono ?_
      rintro e w2 ⟨rfl, hb2⟩
      go_wp2
      go_ret2
      exact ⟨by rw [HF.out]; rfl, below_next hb1 hb2⟩
end Go.Proofs.YtjoiedomdliadaaDoor
