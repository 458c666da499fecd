/- macs.Parse, macs.Print and macs.Name. -/
import Derived.Test.YtmnemjhkmllniaaDoorPh8
namespace Go.Proofs.YtmnemjhkmllniaaDoor
open Go.ChangeShapes Go.WideShapes Go.RowKit Go.Sort

def macR (r : Option Nat) : Value := match r with
  | some n => .tuple #[.int .u64 n, .bool true]
  | none => .tuple #[.int .u64 0, .bool false]
set_option maxHeartbeats 4000000 in
set_option maxRecDepth 100000 in
theorem parseM_x (s : ByteArray) (w : World) (hg : Gl w) (hs : s.size < 4294967281) :
    Calls Tryd.prog 6 #[.string s] w fun e w' => e = .returned (macR (macV s.data.toList)) ∧ Below w.heap.size w w' := by
  have HG := Lib.hid hg
  clear hg
  go_enter Tryd.func6, Tryd.ntmps6
  go_wp2
  go_loopw [4, 0, 11] (fun all sv i wr => ∃ (k acc : Nat) (t : ByteArray), k ≤ 6 ∧ i = .int .i64 k ∧ all = .int .u64 acc ∧ sv = .string t ∧ Hid (t.size < 4294967281 ∧ acc < 256 ^ k ∧ macV s.data.toList = mac6 (6 - k) acc t.data.toList) ∧ Below w.heap.size w wr)
    (fun _ _ i _ => 6 - (intOf i).toNat)
  case atStart => exact ⟨0, 0, s, by omega, rfl, rfl, rfl, ⟨hs, by decide, rfl⟩, Below.refl _ _⟩
  case round =>
    obtain ⟨k, acc, t, hk, rfl, rfl, rfl, hh, hb⟩ := hrel
    obtain ⟨hts, hacc, hdec⟩ := hh.out
    clear hh
    have G1 := HG.out.below hb
    by_cases hk6 : k < 6
    · have hcl := (cut_len t.data.toList [58])
      rw [ba_len] at hcl
      cases hd : pairV (Lib.cut t.data.toList [58]).1 with
      | none =>
        have hF : macV s.data.toList = none := by rw [hdec, show 6 - k = (5 - k) + 1 by omega, mac6_none hd]
        have HF := Lib.hid hF
        have HD : Hid (pairV (Lib.cut t.data.toList [58]).1 = none) := hd
        clear hd hF hdec hacc hcl
        go_wp2_with fail
        refine (cut_x t 58 _ G1 hts).mono ?_
        rintro e w1 ⟨rfl, hb1⟩
        have G2 := G1.below hb1
        go_wp2_with fail
        refine (pair_no ⟨(Lib.cut t.data.toList [58]).1.toArray⟩ _ G2 HD.out).mono ?_
        rintro e w2 ⟨⟨u, rfl⟩, hb2⟩
        go_wp2
        go_ret2
        exact ⟨by rw [HF.out]; rfl, below_next (below_next hb hb1) hb2⟩
      | some d =>
        have hd256 := pairV_lt hd
        by_cases hm : (Lib.cut t.data.toList [58]).2.2 = decide (0 < 5 - k)
        · have hF : macV s.data.toList = mac6 (6 - (k + 1)) (acc * 256 + d) (Lib.cut t.data.toList [58]).2.1 := by
            rw [hdec, show 6 - k = (5 - k) + 1 by omega, mac6_step hd hm, show 6 - (k + 1) = 5 - k by omega]
          have hac : acc < 1099511627776 := Nat.lt_of_lt_of_le hacc (Nat.le_trans (Nat.pow_le_pow_right (by decide) (show k ≤ 5 by omega)) (by decide))
          have hor : bits .or .u64 (IntKind.u64.wrap ((acc : Int) * 256)) (d : Int) = ((acc * 256 + d : Nat) : Int) := by
            rw [IntKind.wrap_u64, show ((acc : Int) * 256) % 18446744073709551616 = ((acc * 256 : Nat) : Int) by omega, u64_or _ _ (by omega) (by omega) (by omega) (by omega)]
            simp only [Int.toNat_natCast]
            rw [or_add 8 acc d hd256]
          have hp : 256 ^ (k + 1) = 256 ^ k * 256 := Nat.pow_succ ..
          have HN : Hid ((⟨(Lib.cut t.data.toList [58]).2.1.toArray⟩ : ByteArray).size < 4294967281 ∧ acc * 256 + d < 256 ^ (k + 1) ∧ macV s.data.toList = mac6 (6 - (k + 1)) (acc * 256 + d) (Lib.cut t.data.toList [58]).2.1) :=
            ⟨by rw [ba_size]; omega, by omega, hF⟩
          have HD : Hid (pairV (Lib.cut t.data.toList [58]).1 = some d) := hd
          have hmm : (Lib.cut t.data.toList [58]).2.2 = decide ((k : Int) < 5) := by rw [hm, Bool.eq_iff_iff]; simp; omega
          have HM := Lib.hid hmm
          have HO := Lib.hid hor
          clear hd hF hdec hacc hcl hp hm hmm hor hac hd256
          go_wp2_with fail
          refine (cut_is t 58 _ G1 hts _ HM.out).mono ?_
          rintro e w1 ⟨rfl, hb1⟩
          have G2 := G1.below hb1
          go_wp2_with fail
          refine (pair_ok ⟨(Lib.cut t.data.toList [58]).1.toArray⟩ d _ HD.out).mono ?_
          rintro e w2 ⟨rfl, hb2⟩
          go_wp2
          go_roundw
          case rel => exact ⟨k + 1, acc * 256 + d, ⟨(Lib.cut t.data.toList [58]).2.1.toArray⟩, by omega, by go_num, by rw [HO.out], rfl, HN.out, below_next (below_next hb hb1) hb2⟩
          case measure => simp [intOf]; omega
        · have hF : macV s.data.toList = none := by rw [hdec, show 6 - k = (5 - k) + 1 by omega, mac6_more hd hm]
          have HF := Lib.hid hF
          have HD : Hid (pairV (Lib.cut t.data.toList [58]).1 = some d) := hd
          have hmm : (Lib.cut t.data.toList [58]).2.2 = !decide ((k : Int) < 5) := by
            cases hx : (Lib.cut t.data.toList [58]).2.2 <;> rw [hx] at hm <;> simp at hm ⊢ <;> omega
          have HM := Lib.hid hmm
          clear hd hF hdec hacc hcl hm hmm
          go_wp2_with fail
          refine (cut_is t 58 _ G1 hts _ HM.out).mono ?_
          rintro e w1 ⟨rfl, hb1⟩
          have G2 := G1.below hb1
          go_wp2_with fail
          refine (pair_ok ⟨(Lib.cut t.data.toList [58]).1.toArray⟩ d _ HD.out).mono ?_
          rintro e w2 ⟨rfl, hb2⟩
          by_cases hk5 : (k : Int) < 5
          all_goals
            go_wp2
            go_ret2
            exact ⟨by rw [HF.out]; rfl, below_next (below_next hb hb1) hb2⟩
    · have hkk : k = 6 := by omega
      subst hkk
      have hF : macV s.data.toList = some acc := hdec
      have HF := Lib.hid hF
      clear hF hdec hacc
      go_wp2
      go_ret2
      exact ⟨by rw [HF.out]; rfl, hb⟩

/-! ### Name -/
set_option maxHeartbeats 1000000 in
theorem inName_x (c : UInt8) (w : World) :
    Calls Tryd.prog 15 #[.int .u8 c.toNat] w fun e w' => e = .returned (.bool (inN c)) ∧ w' = w := by
  have hc256 : c.toNat < 256 := c.toNat_lt
  unfold inN
  generalize c.toNat = n at *
  go_enter Tryd.func15, Tryd.ntmps15
  by_cases h1 : 97 ≤ n
  · by_cases h2 : n ≤ 122
    · have a1 : (97 : Int) ≤ n := by omega
      have a2 : (n : Int) ≤ 122 := by omega
      go_wp2
      go_ret
      exact ⟨by simp [h1, h2], rfl⟩
    · have a1 : (97 : Int) ≤ n := by omega
      have a2 : ¬ (n : Int) ≤ 122 := by omega
      have a3 : (48 : Int) ≤ n := by omega
      have a4 : ¬ (n : Int) ≤ 57 := by omega
      have a5 : ((n : Int) == 45) = false := by rw [beq_eq_false_iff_ne]; omega
      have a6 : (n == 45) = false := by rw [beq_eq_false_iff_ne]; omega
      have a7 : ¬ n ≤ 57 := by omega
      go_wp2
      go_ret
      exact ⟨by simp, rfl⟩
  · have a1 : ¬ (97 : Int) ≤ n := by omega
    by_cases h2 : 48 ≤ n
    · have a2 : (48 : Int) ≤ n := by omega
      by_cases h3 : n ≤ 57
      · have a3 : (n : Int) ≤ 57 := by omega
        go_wp2
        go_ret
        exact ⟨by simp, rfl⟩
      · have a3 : ¬ (n : Int) ≤ 57 := by omega
        have a5 : ((n : Int) == 45) = false := by rw [beq_eq_false_iff_ne]; omega
        have a6 : (n == 45) = false := by rw [beq_eq_false_iff_ne]; omega
        go_wp2
        go_ret
        exact ⟨by simp, rfl⟩
    · have a2 : ¬ (48 : Int) ≤ n := by omega
      by_cases h3 : n = 45
      · subst h3
        go_wp2
        go_ret
        exact ⟨by simp, rfl⟩
      · have a5 : ((n : Int) == 45) = false := by rw [beq_eq_false_iff_ne]; omega
        have a6 : (n == 45) = false := by rw [beq_eq_false_iff_ne]; omega
        go_wp2
        go_ret
        exact ⟨by simp, rfl⟩
theorem all_drop_succ {l : Bs} {k : Nat} (hk : k < l.length) : (l.drop k).all inN = (inN (l[k]'hk) && (l.drop (k + 1)).all inN) := by
  rw [List.drop_eq_getElem_cons hk, List.all_cons]
set_option maxHeartbeats 2000000 in
set_option maxRecDepth 100000 in
theorem nameM_x (l : Bs) (w : World) (hl : l.length < 4294967281) :
    Calls Tryd.prog 7 #[.string (baS l)] w fun e w' => e = .returned (.bool (nameV l)) ∧ w' = w := by
  have hsz : (baS l).size = l.length := baS_len l
  have hN0 : nameV l = (decide (1 ≤ l.length) && decide (l.length ≤ 32) && l.all inN) := rfl
  obtain ⟨N, hN⟩ : ∃ N, l.length = N := ⟨_, rfl⟩
  rw [hN] at hsz hl hN0
  by_cases h1 : N < 1
  · have a1 : (N : Int) < 1 := by omega
    have HF : Hid (nameV l = false) := by show _ = _; rw [hN0]; simp; omega
    clear hN0
    go_enter Tryd.func7, Tryd.ntmps7
    go_wp2
    go_ret
    exact ⟨by rw [HF.out]; rfl, rfl⟩
  · have a1 : ¬ (N : Int) < 1 := by omega
    by_cases h2 : 32 < N
    · have a2 : (32 : Int) < N := by omega
      have HF : Hid (nameV l = false) := by show _ = _; rw [hN0]; simp; omega
      clear hN0
      go_enter Tryd.func7, Tryd.ntmps7
      go_wp2
      go_ret
      exact ⟨by rw [HF.out]; rfl, rfl⟩
    · have a2 : ¬ (32 : Int) < N := by omega
      have HA : Hid (nameV l = l.all inN) := by show _ = _; rw [hN0]; simp [show 1 ≤ N by omega, show N ≤ 32 by omega]
      clear hN0
      go_enter Tryd.func7, Tryd.ntmps7
      go_wp2
      go_loop [14] (fun iv => ∃ (k : Nat), iv = .int .i64 k ∧ k ≤ N ∧ Hid (l.all inN = (l.drop k).all inN))
        (fun iv => N - (intOf iv).toNat)
      case atStart => exact ⟨0, rfl, by omega, by show _ = _; rw [List.drop_zero]⟩
      case round =>
        obtain ⟨k, rfl, hk, hh⟩ := hrel
        by_cases hkn : k < N
        · have hkl : k < l.length := by omega
          have hat := baS_at l k hkl
          have hd := all_drop_succ hkl
          generalize l[k]'hkl = c at hat hd
          have hkN : (k : Int) < N := by omega
          have HI := Lib.hid (fun w => inName_x c w)
          cases hc : inN c
          · rw [hc] at HI hd
            have HF : Hid (nameV l = false) := by show _ = _; rw [HA.out, hh.out, hd]; rfl
            clear hh hd hc hkl
            go_wp2_with fail
            refine (HI.out _).mono ?_
            rintro e w1 ⟨rfl, rfl⟩
            go_wp2
            go_ret
            exact ⟨by rw [HF.out]; rfl, rfl⟩
          · rw [hc] at HI hd
            have HF : Hid (l.all inN = (l.drop (k + 1)).all inN) := by show _ = _; rw [hh.out, hd]; rfl
            clear hh hd hc hkl
            go_wp2_with fail
            refine (HI.out _).mono ?_
            rintro e w1 ⟨rfl, rfl⟩
            go_wp2
            refine ⟨⟨k + 1, (by first | rfl | (congr 1; omega)), by omega, HF⟩, by simp [intOf]; omega⟩
        · obtain rfl : k = N := by omega
          have HF : Hid (nameV l = true) := by show _ = _; rw [HA.out, hh.out, List.drop_eq_nil_of_le (by omega)]; rfl
          clear hh
          go_wp2
          go_ret
          exact ⟨by rw [HF.out]; rfl, rfl⟩
end Go.Proofs.YtmnemjhkmllniaaDoor
