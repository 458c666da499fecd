/- The second writing's Num, two, digits. -/
import Derived.Test.YtjoiedomdliadaaDoorEt
import Derived.Lib.MinMax
namespace Go.Proofs.YtjoiedomdliadaaDoor
open Go.ChangeShapes Go.WideShapes Go.RowKit Go.Sort

theorem decL_step {M acc : Nat} {l : Bs} {k : Nat} (hk : k < l.length) (hd : 48 ≤ (l[k]'hk).toNat ∧ (l[k]'hk).toNat ≤ 57) (hM : ¬ M < acc * 10 + ((l[k]'hk).toNat - 48)) :
    decL M acc (l.drop k) = decL M (acc * 10 + ((l[k]'hk).toNat - 48)) (l.drop (k + 1)) := by
  rw [List.drop_eq_getElem_cons hk]
  conv => lhs; unfold decL
  rw [if_pos hd, if_neg hM]
theorem decL_stop {M acc : Nat} {l : Bs} {k : Nat} (hk : k < l.length) (h : ¬ (48 ≤ (l[k]'hk).toNat ∧ (l[k]'hk).toNat ≤ 57) ∨ M < acc * 10 + ((l[k]'hk).toNat - 48)) : decL M acc (l.drop k) = none := by
  rw [List.drop_eq_getElem_cons hk]
  unfold decL
  by_cases hd : 48 ≤ (l[k]'hk).toNat ∧ (l[k]'hk).toNat ≤ 57
  · rw [if_pos hd]
    rcases h with h | h
    · exact absurd hd h
    · rw [if_pos h]
  · rw [if_neg hd]
set_option maxHeartbeats 4000000 in
set_option maxRecDepth 100000 in
theorem numRef_x (l : Bs) (M : Nat) (w : World) (hl : l.length < 4294967281) (hM : M < 18446744073709551616) :
    Calls Tryd.prog 17 #[.string (baS l), .int .u64 M] w fun e w' => e = .returned (numR (numU M l)) ∧ w' = w := by
  have hsz : (baS l).size = l.length := baS_len l
  obtain ⟨N, hN⟩ : ∃ N, l.length = N := ⟨_, rfl⟩
  rw [hN] at hsz hl
  have HM := Lib.hid hM
  clear hM
  go_enter Tryd.func17, Tryd.ntmps17
  go_wp2
  go_loop [6, 7] (fun nv iv => ∃ (acc k : Nat), nv = .int .u64 acc ∧ iv = .int .i64 k ∧ k ≤ N ∧ Hid (acc ≤ M ∧ decL M 0 l = decL M acc (l.drop k) ∧ (2 ≤ k → l.head? ≠ some 48)))
    (fun _ iv => N - (intOf iv).toNat)
  case atStart => exact ⟨0, 0, rfl, rfl, by omega, by omega, rfl, by omega⟩
  case round =>
    obtain ⟨acc, k, rfl, rfl, hk, hh⟩ := hrel
    by_cases hkn : k < N
    · have hkl : k < l.length := by omega
      have hat := baS_at l k hkl
      have hst := fun h => decL_stop (M := M) (acc := acc) hkl h
      have hsp := fun h1 h2 => decL_step (M := M) (acc := acc) hkl h1 h2
      generalize hcc : l[k]'hkl = c at hat hst hsp
      have hc256 : c.toNat < 256 := c.toNat_lt
      by_cases hd : 48 ≤ c.toNat ∧ c.toNat ≤ 57
      · have hd0 : ¬ (c.toNat : Int) < 48 := by omega
        have hd1' : ¬ (57 : Int) < c.toNat := by omega
        by_cases hlead : k = 1 ∧ l.head? = some 48
        · obtain ⟨rfl, hl0⟩ := hlead
          have h0l : 0 < l.length := by omega
          have hat0 : ∀ h, (baS l)[0]'h = 48 := fun h => by
            rw [baS_at l 0 h0l]
            rw [List.head?_eq_getElem?, List.getElem?_eq_getElem h0l] at hl0
            exact Option.some.inj hl0
          have HR : Hid (numU M l = none) := by show _ = _; unfold numU; rw [if_pos (Or.inr ⟨by omega, hl0⟩)]
          have hN0 : (0 : Int) < N := by omega
          have hN0' : 0 < (baS l).size := by omega
          clear hst hsp hh hcc hkl hd hl0 h0l
          go_wp2
          go_ret2
          exact ⟨by rw [HR.out]; rfl, rfl⟩
        · have hld : ¬ (k = 1) ∨ (k = 1 ∧ l.head? ≠ some 48) := by
            by_cases h1 : k = 1
            · right; exact ⟨h1, fun h => hlead ⟨h1, h⟩⟩
            · left; exact h1
          have hkeep : 2 ≤ k + 1 → l.head? ≠ some 48 := by
            intro h2
            rcases hld with h | ⟨_, h⟩
            · exact hh.out.2.2 (by omega)
            · exact h
          obtain ⟨d, hdd⟩ : ∃ d, c.toNat - 48 = d := ⟨_, rfl⟩
          have hcd : (c.toNat : Int) - 48 = d := by omega
          have hd9 : d ≤ 9 := by omega
          have hv1 : IntKind.u8.wrap ((c.toNat : Int) - 48) = (d : Int) := by rw [IntKind.wrap_u8]; omega
          have HG : Hid ((k = 1 ∧ ∀ h, ∃ b : UInt8, (baS l)[0]'h = b ∧ ((b.toNat : Int) == 48) = false) ∨ ((k : Int) == 1) = false) := by
            rcases hld with h | ⟨h, h'⟩
            · right; simpa using (show ¬ (k : Int) = 1 by omega)
            · left
              refine ⟨h, fun hz => ⟨_, rfl, ?_⟩⟩
              have h0l : 0 < l.length := by omega
              rw [baS_at l 0 h0l]
              rw [List.head?_eq_getElem?, List.getElem?_eq_getElem h0l] at h'
              rw [beq_eq_false_iff_ne]; intro e
              exact h' (congrArg some (UInt8.toNat_inj.1 (by simpa using Int.ofNat_inj.1 e)))
          rw [hdd] at hst hsp
          have hM := HM.out
          have hacc := hh.out.1
          obtain ⟨R, hR⟩ : ∃ R, M - min M d = R := ⟨_, rfl⟩
          obtain ⟨Q, hQ⟩ : ∃ Q, R / 10 = Q := ⟨_, rfl⟩
          have hm1 : IntKind.u64.wrap ((M : Int) - min (M : Int) d) = (R : Int) := by rw [IntKind.wrap_u64]; omega
          have hm2 : IntKind.u64.wrap ((R : Int) / 10) = (Q : Int) := by rw [IntKind.wrap_u64]; omega
          by_cases hA : Q < acc
          · have hbig : M < acc * 10 + d := by omega
            have hA' : (Q : Int) < acc := by omega
            have HR : Hid (numU M l = none) := numU_none (hh.out.2.1.trans (hst (Or.inr hbig)))
            clear hst hsp hh hcc hkl hlead hld hkeep hM hacc hR hQ hbig hA hd hdd
            rcases HG.out with ⟨rfl, hb⟩ | hne
            · obtain ⟨b, hb1, hb2⟩ := hb (by omega)
              have hb1' : ∀ h, (baS l)[0]'h = b := fun h => hb1
              have hN0 : (0 : Int) < N := by omega
              have hN0' : 0 < (baS l).size := by omega
              clear hb hb1 HG
              go_wp2
              go_ret2
              exact ⟨by rw [HR.out]; rfl, rfl⟩
            · clear HG
              go_wp2
              go_ret2
              exact ⟨by rw [HR.out]; rfl, rfl⟩
          · have hA' : ¬ (Q : Int) < acc := by omega
            have hm3 : IntKind.u64.wrap (10 * (acc : Int)) = 10 * (acc : Int) := by rw [IntKind.wrap_u64]; omega
            obtain ⟨A, hAA⟩ : ∃ A, acc * 10 + d = A := ⟨_, rfl⟩
            have hm4 : IntKind.u64.wrap (10 * (acc : Int) + d) = (A : Int) := by rw [IntKind.wrap_u64]; omega
            rw [hAA] at hst hsp
            by_cases hbig : M < A
            · have hbig' : (M : Int) < A := by omega
              have HR : Hid (numU M l = none) := numU_none (hh.out.2.1.trans (hst (Or.inr hbig)))
              clear hst hsp hh hcc hkl hlead hld hkeep hM hacc hR hQ hbig hA hd hdd hAA
              rcases HG.out with ⟨rfl, hb⟩ | hne
              · obtain ⟨b, hb1, hb2⟩ := hb (by omega)
                have hb1' : ∀ h, (baS l)[0]'h = b := fun h => hb1
                have hN0 : (0 : Int) < N := by omega
                have hN0' : 0 < (baS l).size := by omega
                clear hb hb1 HG
                go_wp2
                go_ret2
                exact ⟨by rw [HR.out]; rfl, rfl⟩
              · clear HG
                go_wp2
                go_ret2
                exact ⟨by rw [HR.out]; rfl, rfl⟩
            · have hbig' : ¬ (M : Int) < A := by omega
              have HN : Hid (A ≤ M ∧ decL M 0 l = decL M A (l.drop (k + 1)) ∧ (2 ≤ k + 1 → l.head? ≠ some 48)) := ⟨by omega, hh.out.2.1.trans (hsp hd hbig), hkeep⟩
              clear hst hsp hh hcc hkl hlead hld hkeep hM hacc hR hQ hbig hA hd hdd hAA
              rcases HG.out with ⟨rfl, hb⟩ | hne
              · obtain ⟨b, hb1, hb2⟩ := hb (by omega)
                have hb1' : ∀ h, (baS l)[0]'h = b := fun h => hb1
                have hN0 : (0 : Int) < N := by omega
                have hN0' : 0 < (baS l).size := by omega
                clear hb hb1 HG
                go_wp2
                refine ⟨⟨A, 1 + 1, (by first | rfl | rw [hm4]), (by first | rfl | (congr 1; omega)), by omega, HN⟩, by simp [intOf]; omega⟩
              · clear HG
                go_wp2
                refine ⟨⟨A, k + 1, (by first | rfl | rw [hm4]), (by first | rfl | (congr 1; omega)), by omega, HN⟩, by simp [intOf]; omega⟩
      · have HR : Hid (numU M l = none) := numU_none (hh.out.2.1.trans (hst (Or.inl hd)))
        clear hst hsp hh hcc hkl
        rcases (show c.toNat < 48 ∨ (¬ c.toNat < 48 ∧ 57 < c.toNat) by omega) with h1 | ⟨h0, h1⟩
        · have h1' : (c.toNat : Int) < 48 := by omega
          clear hd
          go_wp2
          go_ret2
          exact ⟨by rw [HR.out]; rfl, rfl⟩
        · have h0' : ¬ (c.toNat : Int) < 48 := by omega
          have h1' : (57 : Int) < c.toNat := by omega
          clear hd
          go_wp2
          go_ret2
          exact ⟨by rw [HR.out]; rfl, rfl⟩
    · obtain rfl : k = N := by omega
      have hdrop : l.drop k = [] := List.drop_eq_nil_of_le (by omega)
      have HF : Hid (numU M l = if k = 0 then none else some acc) := by
        show _ = _
        have h1 := hh.out.2.1
        rw [hdrop] at h1
        unfold numU
        by_cases h0 : k = 0
        · rw [if_pos h0, if_pos (Or.inl (List.length_eq_zero_iff.1 (by omega)))]
        · rw [if_neg h0, if_neg, h1]; rfl
          intro e
          rcases e with e | ⟨e1, e2⟩
          · exact h0 (by rw [← hN, e]; rfl)
          · exact hh.out.2.2 (by omega) e2
      have HA : Hid (k = 0 → acc = 0) := fun h0 => by
        have h1 := hh.out.2.1
        rw [hdrop, List.length_eq_zero_iff.1 (hN.trans h0)] at h1
        simpa [decL] using h1.symm
      clear hh hdrop
      by_cases h0 : 0 < k
      · have h0' : (0 : Int) < k := by omega
        go_wp2
        go_ret2
        exact ⟨by rw [HF.out, if_neg (by omega)]; rfl, rfl⟩
      · have hk0 : k = 0 := by omega
        have hacc0 := HA.out hk0
        subst hk0 hacc0
        go_wp2
        go_ret2
        exact ⟨by rw [HF.out]; rfl, rfl⟩
set_option maxHeartbeats 1000000 in
theorem twoR_x (v : Int) (n : Nat) (w : World) (hn : n < 100) (hv : v = n) :
    Calls Tryd.prog 25 #[.int .i64 v] w fun e w' => e = .returned (.string (baS (pairT n))) ∧ Below w.heap.size w w' := by
  subst hv
  have KT : Hid (∀ w, Calls Tryd.prog 16 #[.int .u64 n] w fun e w' => e = .returned (.string (baS (Lib.decDigits n))) ∧ Below w.heap.size w w') := fun w => textR_x n w (by omega)
  by_cases h10 : n < 10
  · have h10' : (n : Int) < 10 := by omega
    have hadd : ∀ V, (Op.stringOp .add ⟨#[48]⟩ (baS (Lib.decDigits n))).run Tryd.prog V = .ok (.string (baS (48 :: Lib.decDigits n))) V := addS [48] _ (by simp) (by rw [digs_one h10]; simp)
    rw [pair_small h10]
    generalize Lib.decDigits n = S at *
    go_enter Tryd.func25, Tryd.ntmps25
    go_wp2_with fail
    refine (KT.out _).mono ?_
    rintro e w1 ⟨rfl, hb1⟩
    go_wp2
    go_ret
    exact ⟨rfl, hb1⟩
  · have h10' : ¬ (n : Int) < 10 := by omega
    rw [digs_pair (by omega) hn] at KT
    generalize pairT n = S at *
    go_enter Tryd.func25, Tryd.ntmps25
    go_wp2_with fail
    refine (KT.out _).mono ?_
    rintro e w1 ⟨rfl, hb1⟩
    go_wp2
    go_ret
    exact ⟨rfl, hb1⟩
/-- What digits answers. -/
def digI (l : Bs) : Int := match decU 0 l with
  | some v => (v : Int)
  | none => -1
theorem decU_step {acc : Nat} {l : Bs} {k : Nat} (hk : k < l.length) (hd : 48 ≤ (l[k]'hk).toNat ∧ (l[k]'hk).toNat ≤ 57) :
    decU acc (l.drop k) = decU (acc * 10 + ((l[k]'hk).toNat - 48)) (l.drop (k + 1)) := by
  rw [List.drop_eq_getElem_cons hk]
  conv => lhs; unfold decU
  rw [if_pos hd]
theorem decU_stop {acc : Nat} {l : Bs} {k : Nat} (hk : k < l.length) (hd : ¬ (48 ≤ (l[k]'hk).toNat ∧ (l[k]'hk).toNat ≤ 57)) : decU acc (l.drop k) = none := by
  rw [List.drop_eq_getElem_cons hk]
  unfold decU
  rw [if_neg hd]
set_option maxHeartbeats 4000000 in
set_option maxRecDepth 100000 in
theorem digitsR_x (l : Bs) (n : Int) (w : World) (hl : l.length ≤ 4) (hn : n = l.length) :
    Calls Tryd.prog 26 #[.string (baS l), .int .i64 n] w fun e w' => e = .returned (.int .i64 (digI l)) ∧ w' = w := by
  subst hn
  have hsz : (baS l).size = l.length := baS_len l
  obtain ⟨N, hN⟩ : ∃ N, l.length = N := ⟨_, rfl⟩
  rw [hN] at hsz hl ⊢
  have hne : ((N : Int) != N) = false := by simp
  go_enter Tryd.func26, Tryd.ntmps26
  go_wp2
  go_loop [5, 6] (fun nv iv => ∃ (acc k : Nat), nv = .int .i64 acc ∧ iv = .int .i64 k ∧ k ≤ N ∧ acc ≤ 100000 ∧ Hid (acc < 10 ^ k ∧ decU 0 l = decU acc (l.drop k)))
    (fun _ iv => N - (intOf iv).toNat)
  case atStart => exact ⟨0, 0, rfl, rfl, by omega, by omega, by decide, rfl⟩
  case round =>
    obtain ⟨acc, k, rfl, rfl, hk, hacc, hh⟩ := hrel
    by_cases hkn : k < N
    · have hkn' : (k : Int) < N := by omega
      have hkl : k < l.length := by omega
      have hat := baS_at l k hkl
      have hst := fun h => decU_stop (acc := acc) hkl h
      have hsp := fun h1 => decU_step (acc := acc) hkl h1
      generalize hcc : l[k]'hkl = c at hat hst hsp
      have hc256 : c.toNat < 256 := c.toNat_lt
      by_cases hd : 48 ≤ c.toNat ∧ c.toNat ≤ 57
      · have hd0 : ¬ (c.toNat : Int) < 48 := by omega
        have hd1' : ¬ (57 : Int) < c.toNat := by omega
        have h4 : 10 ^ (k + 1) ≤ 10 ^ 4 := Nat.pow_le_pow_right (by decide) (by omega)
        have h5 : 10 ^ (k + 1) = 10 ^ k * 10 := Nat.pow_succ ..
        have h6 := hh.out.1
        obtain ⟨d, hdd⟩ : ∃ d, c.toNat - 48 = d := ⟨_, rfl⟩
        have hv1 : IntKind.u8.wrap ((c.toNat : Int) - 48) = (d : Int) := by rw [IntKind.wrap_u8]; omega
        have hd9 : d ≤ 9 := by omega
        have hcd : (c.toNat : Int) - 48 = d := by omega
        rw [hdd] at hsp
        have HN : Hid (acc * 10 + d < 10 ^ (k + 1) ∧ decU 0 l = decU (acc * 10 + d) (l.drop (k + 1))) := ⟨by omega, hh.out.2.trans (hsp hd)⟩
        have hb : acc * 10 + d ≤ 100000 := by omega
        clear hst hsp hh hcc hkl hd h4 h5 h6 hdd
        go_wp2
        refine ⟨⟨acc * 10 + d, k + 1, (by first | rfl | (congr 1; omega)), (by first | rfl | (congr 1; omega)), by omega, by omega, HN⟩, by simp [intOf]; omega⟩
      · have HR : Hid (digI l = -1) := by show _ = _; unfold digI; rw [hh.out.2.trans (hst hd)]
        clear hst hsp hh hcc hkl
        rcases (show c.toNat < 48 ∨ (¬ c.toNat < 48 ∧ 57 < c.toNat) by omega) with h1 | ⟨h0, h1⟩
        · have h1' : (c.toNat : Int) < 48 := by omega
          clear hd
          go_wp2
          go_ret
          exact ⟨by rw [HR.out]; rfl, rfl⟩
        · have h0' : ¬ (c.toNat : Int) < 48 := by omega
          have h1' : (57 : Int) < c.toNat := by omega
          clear hd
          go_wp2
          go_ret
          exact ⟨by rw [HR.out]; rfl, rfl⟩
    · obtain rfl : k = N := by omega
      have hdrop : l.drop k = [] := List.drop_eq_nil_of_le (by omega)
      have HF : Hid (digI l = (acc : Int)) := by
        show _ = _
        have h1 := hh.out.2
        rw [hdrop] at h1
        unfold digI
        rw [h1]; rfl
      clear hh hdrop
      go_wp2
      go_ret
      exact ⟨by rw [HF.out]; rfl, rfl⟩
end Go.Proofs.YtjoiedomdliadaaDoor
