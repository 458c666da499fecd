/- The checker's own Num, Hex, joint and last. -/
import Derived.Test.YtmnemjhkmllniaaGreatDoorzAm
import Derived.Test.YtmnemjhkmllniaaGreatDoorzXa
namespace Go.Proofs.YtmnemjhkmllniaaGreatDoor
open Go.ChangeShapes Go.WideShapes Go.RowKit Go.Sort

theorem baS_at (l : Bs) (k : Nat) (hk : k < l.length) : ∀ h, (baS l)[k]'h = l[k]'hk := fun _ => rfl
def numR (r : Option Nat) : Value := match r with
  | some n => .tuple #[.int .u64 n, .bool true]
  | none => .tuple #[.int .u64 0, .bool false]
theorem decM_step {M acc : Nat} {l : Bs} {k : Nat} (hk : k < l.length) (hd : 48 ≤ (l[k]'hk).toNat ∧ (l[k]'hk).toNat ≤ 57) (hM : ¬ M < acc * 10 + ((l[k]'hk).toNat - 48)) :
    decM M acc (l.drop k) = decM M (acc * 10 + ((l[k]'hk).toNat - 48)) (l.drop (k + 1)) := by
  rw [List.drop_eq_getElem_cons hk]
  conv => lhs; unfold decM
  rw [if_pos hd, if_neg hM]
theorem decM_stop {M acc : Nat} {l : Bs} {k : Nat} (hk : k < l.length) (h : ¬ (48 ≤ (l[k]'hk).toNat ∧ (l[k]'hk).toNat ≤ 57) ∨ M < acc * 10 + ((l[k]'hk).toNat - 48)) : decM M acc (l.drop k) = none := by
  rw [List.drop_eq_getElem_cons hk]
  unfold decM
  by_cases hd : 48 ≤ (l[k]'hk).toNat ∧ (l[k]'hk).toNat ≤ 57
  · rw [if_pos hd]
    rcases h with h | h
    · exact absurd hd h
    · rw [if_pos h]
  · rw [if_neg hd]
theorem numV_of {M : Nat} {l : Bs} (h : decM M 0 l = none) : numV M l = none := by unfold numV; split <;> first | rfl | exact h
set_option maxHeartbeats 4000000 in
set_option maxRecDepth 100000 in
theorem num_x (l : Bs) (M : Nat) (w : World) (hl : l.length < 4294967281) (hM : M ≤ 255) :
    Calls Tryz.prog 50 #[.string (baS l), .int .u64 M] w fun e w' => e = .returned (numR (numV M l)) ∧ w' = w := by
  have hsz : (baS l).size = l.length := baS_len l
  obtain ⟨N, hN⟩ : ∃ N, l.length = N := ⟨_, rfl⟩
  rw [hN] at hsz hl
  go_enter Tryz.func50, Tryz.ntmps50
  go_wp2
  go_loop [6, 7] (fun nv iv => ∃ (acc k : Nat), nv = .int .u64 acc ∧ iv = .int .i64 k ∧ k ≤ N ∧ acc ≤ M ∧ Hid (decM M 0 l = decM M acc (l.drop k) ∧ (2 ≤ k → l.head? ≠ some 48)))
    (fun _ iv => N - (intOf iv).toNat)
  case atStart => exact ⟨0, 0, rfl, rfl, by omega, by omega, rfl, by omega⟩
  case round =>
    obtain ⟨acc, k, rfl, rfl, hk, hacc, hh⟩ := hrel
    by_cases hkn : k < N
    · have hkl : k < l.length := by omega
      have hat := baS_at l k hkl
      have hst := fun h => decM_stop (M := M) (acc := acc) hkl h
      have hsp := fun h1 h2 => decM_step (M := M) (acc := acc) hkl h1 h2
      have hhead : ∀ c, l[k]'hkl = c → k = 0 → l.head? = some c := fun c hc h0 => by
        subst h0; rw [List.head?_eq_getElem?, List.getElem?_eq_getElem hkl, hc]
      generalize hcc : l[k]'hkl = c at hat hst hsp
      have hc256 : c.toNat < 256 := c.toNat_lt
      by_cases hd : 48 ≤ c.toNat ∧ c.toNat ≤ 57
      · have hd0 : ¬ (c.toNat : Int) < 48 := by omega
        have hd1 : ¬ (c.toNat : Int) > 57 := by omega
        have hd1' : ¬ (57 : Int) < c.toNat := by omega
        by_cases hlead : k = 1 ∧ l.head? = some 48
        · obtain ⟨rfl, hl0⟩ := hlead
          have h0l : 0 < l.length := by omega
          have hat0 : ∀ h, (baS l)[0]'h = 48 := fun h => by
            rw [baS_at l 0 h0l]
            rw [List.head?_eq_getElem?, List.getElem?_eq_getElem h0l] at hl0
            exact Option.some.inj hl0
          have HR : Hid (numV M l = none) := by show _ = _; unfold numV; rw [if_pos (Or.inr ⟨by omega, hl0⟩)]
          have hN0 : (0 : Int) < N := by omega
          have hN0' : 0 < (baS l).size := by omega
          clear hst hsp hhead hh hcc hkl hd hl0 h0l
          go_wp2
          go_ret2
          exact ⟨by rw [HR.out]; rfl, rfl⟩
        · have hld : ¬ (k = 1) ∨ (k = 1 ∧ l.head? ≠ some 48) := by
            by_cases h1 : k = 1
            · right; exact ⟨h1, fun h => hlead ⟨h1, h⟩⟩
            · left; exact h1
          have hkeep : 2 ≤ k + 1 → l.head? ≠ some 48 := by
            intro h2
            rcases hld with h | ⟨_, h⟩
            · exact hh.out.2 (by omega)
            · exact h
          obtain ⟨d, hdd⟩ : ∃ d, c.toNat - 48 = d := ⟨_, rfl⟩
          have hcd : (c.toNat : Int) - 48 = d := by omega
          have hd9 : d ≤ 9 := by omega
          have HG : Hid ((k = 1 ∧ ∀ h, ∃ b : UInt8, (baS l)[0]'h = b ∧ ((b.toNat : Int) == 48) = false) ∨ ((k : Int) == 1) = false) := by
            rcases hld with h | ⟨h, h'⟩
            · right; simpa using (show ¬ (k : Int) = 1 by omega)
            · left
              refine ⟨h, fun hz => ⟨_, rfl, ?_⟩⟩
              have h0l : 0 < l.length := by omega
              rw [baS_at l 0 h0l]
              rw [List.head?_eq_getElem?, List.getElem?_eq_getElem h0l] at h'
              rw [beq_eq_false_iff_ne]; intro e
              exact h' (congrArg some (UInt8.toNat_inj.1 (by simpa using Int.ofNat_inj.1 e)))
          rw [hdd] at hst hsp
          by_cases hbig : M < acc * 10 + d
          · have HR : Hid (numV M l = none) := numV_of (hh.out.1.trans (hst (Or.inr hbig)))
            clear hst hsp hhead hh hcc hkl hlead hld hkeep
            have hg2 : (10 * (acc : Int) + d > M) := by omega
            rcases HG.out with ⟨rfl, hb⟩ | hne
            · obtain ⟨b, hb1, hb2⟩ := hb (by omega)
              have hb1' : ∀ h, (baS l)[0]'h = b := fun h => hb1
              have hN0 : (0 : Int) < N := by omega
              have hN0' : 0 < (baS l).size := by omega
              clear hb hb1 HG
              by_cases hg1 : (acc : Int) > ((M : Int) - min (M : Int) d) / 10
              · go_wp2
                go_ret2
                exact ⟨by rw [HR.out]; rfl, rfl⟩
              · go_wp2
                go_ret2
                exact ⟨by rw [HR.out]; rfl, rfl⟩
            · clear HG
              by_cases hg1 : (acc : Int) > ((M : Int) - min (M : Int) d) / 10
              · go_wp2
                go_ret2
                exact ⟨by rw [HR.out]; rfl, rfl⟩
              · go_wp2
                go_ret2
                exact ⟨by rw [HR.out]; rfl, rfl⟩
          · have HN : Hid (decM M 0 l = decM M (acc * 10 + d) (l.drop (k + 1)) ∧ (2 ≤ k + 1 → l.head? ≠ some 48)) := ⟨hh.out.1.trans (hsp hd hbig), hkeep⟩
            clear hst hsp hhead hh hcc hkl hlead hld hkeep
            have hg2 : ¬ (10 * (acc : Int) + d > M) := by omega
            have hg1 : ¬ (acc : Int) > ((M : Int) - min (M : Int) d) / 10 := by omega
            rcases HG.out with ⟨rfl, hb⟩ | hne
            · obtain ⟨b, hb1, hb2⟩ := hb (by omega)
              have hb1' : ∀ h, (baS l)[0]'h = b := fun h => hb1
              have hN0 : (0 : Int) < N := by omega
              have hN0' : 0 < (baS l).size := by omega
              clear hb hb1 HG
              go_wp2
              refine ⟨⟨acc * 10 + d, 1 + 1, (by first | rfl | (congr 1; omega)), (by first | rfl | (congr 1; omega)), by omega, by omega, HN⟩, by simp [intOf]; omega⟩
            · clear HG
              go_wp2
              refine ⟨⟨acc * 10 + d, k + 1, (by first | rfl | (congr 1; omega)), (by first | rfl | (congr 1; omega)), by omega, by omega, HN⟩, by simp [intOf]; omega⟩
      · have HR : Hid (numV M l = none) := numV_of (hh.out.1.trans (hst (Or.inl hd)))
        clear hst hsp hhead hh hcc hkl
        rcases (show c.toNat < 48 ∨ (¬ c.toNat < 48 ∧ 57 < c.toNat) by omega) with h1 | ⟨h0, h1⟩
        · have h1' : (c.toNat : Int) < 48 := by omega
          clear hd
          go_wp2
          go_ret2
          exact ⟨by rw [HR.out]; rfl, rfl⟩
        · have h0' : ¬ (c.toNat : Int) < 48 := by omega
          have h1' : (57 : Int) < c.toNat := by omega
          clear hd
          go_wp2
          go_ret2
          exact ⟨by rw [HR.out]; rfl, rfl⟩
    · obtain rfl : k = N := by omega
      have hdrop : l.drop k = [] := List.drop_eq_nil_of_le (by omega)
      have HF : Hid (numV M l = if k = 0 then none else some acc) := by
        show _ = _
        have h1 := hh.out.1
        rw [hdrop] at h1
        unfold numV
        by_cases h0 : k = 0
        · rw [if_pos h0, if_pos (Or.inl (List.length_eq_zero_iff.1 (by omega)))]
        · rw [if_neg h0, if_neg, h1]; rfl
          intro e
          rcases e with e | ⟨e1, e2⟩
          · exact h0 (by rw [← hN, e]; rfl)
          · exact hh.out.2 (by omega) e2
      have HA : Hid (k = 0 → acc = 0) := fun h0 => by
        have h1 := hh.out.1
        rw [hdrop, List.length_eq_zero_iff.1 (hN.trans h0)] at h1
        simpa [decM] using h1.symm
      clear hh hdrop
      by_cases h0 : 0 < k
      · have h0' : (0 : Int) < k := by omega
        go_wp2
        go_ret2
        exact ⟨by rw [HF.out, if_neg (by omega)]; rfl, rfl⟩
      · have hk0 : k = 0 := by omega
        have hacc0 := HA.out hk0
        subst hk0 hacc0
        go_wp2
        go_ret2
        exact ⟨by rw [HF.out]; rfl, rfl⟩
end Go.Proofs.YtmnemjhkmllniaaGreatDoor

/- The checker's own Hex, joint and last. -/
namespace Go.Proofs.YtmnemjhkmllniaaGreatDoor
open Go.ChangeShapes Go.WideShapes Go.RowKit Go.Sort

def hexI (c : UInt8) : Int := match hexD c with
  | some d => (d : Int)
  | none => -1
set_option maxHeartbeats 1000000 in
theorem hex1_x (c : UInt8) (w : World) :
    Calls Tryz.prog 82 #[.int .u8 c.toNat] w fun e w' => e = .returned (.int .i64 (hexI c)) ∧ w' = w := by
  have hc256 : c.toNat < 256 := c.toNat_lt
  have H : ∃ z : Int, hexI c = z ∧ ((48 ≤ c.toNat ∧ c.toNat ≤ 57 ∧ z = (c.toNat : Int) - 48) ∨ (97 ≤ c.toNat ∧ c.toNat ≤ 102 ∧ z = (c.toNat : Int) - 87) ∨ (65 ≤ c.toNat ∧ c.toNat ≤ 70 ∧ z = (c.toNat : Int) - 55) ∨ (¬ (48 ≤ c.toNat ∧ c.toNat ≤ 57) ∧ ¬ (97 ≤ c.toNat ∧ c.toNat ≤ 102) ∧ ¬ (65 ≤ c.toNat ∧ c.toNat ≤ 70) ∧ z = -1)) := by
    refine ⟨hexI c, rfl, ?_⟩
    unfold hexI hexD
    by_cases h1 : 48 ≤ c.toNat ∧ c.toNat ≤ 57
    · left; rw [if_pos h1]; exact ⟨h1.1, h1.2, by simp only; omega⟩
    · rw [if_neg h1]
      by_cases h2 : 97 ≤ c.toNat ∧ c.toNat ≤ 102
      · right; left; rw [if_pos h2]; exact ⟨h2.1, h2.2, by simp only; omega⟩
      · rw [if_neg h2]
        by_cases h3 : 65 ≤ c.toNat ∧ c.toNat ≤ 70
        · right; right; left; rw [if_pos h3]; exact ⟨h3.1, h3.2, by simp only; omega⟩
        · right; right; right; rw [if_neg h3]; exact ⟨h1, h2, h3, rfl⟩
  obtain ⟨z, hz, H⟩ := H
  rw [hz]
  clear hz
  generalize c.toNat = n at *
  rcases H with ⟨a, b, rfl⟩ | ⟨a, b, rfl⟩ | ⟨a, b, rfl⟩ | ⟨h1, h2, h3, rfl⟩
  · have a' : (48 : Int) ≤ n := by omega
    have b' : (n : Int) ≤ 57 := by omega
    go_enter Tryz.func82, Tryz.ntmps82
    go_wp2
    go_ret
    exact ⟨rfl, rfl⟩
  · have a' : (97 : Int) ≤ n := by omega
    have b' : (n : Int) ≤ 102 := by omega
    go_enter Tryz.func82, Tryz.ntmps82
    go_wp2
    go_ret
    exact ⟨congrArg (fun z => Ending.returned (.int .i64 z)) (by first | rfl | omega), rfl⟩
  · have a' : (65 : Int) ≤ n := by omega
    have b' : (n : Int) ≤ 70 := by omega
    go_enter Tryz.func82, Tryz.ntmps82
    go_wp2
    go_ret
    exact ⟨congrArg (fun z => Ending.returned (.int .i64 z)) (by first | rfl | omega), rfl⟩
  · rcases (show n < 48 ∨ (57 < n ∧ n < 65) ∨ (70 < n ∧ n < 97) ∨ 102 < n by omega) with h | ⟨h, h'⟩ | ⟨h, h'⟩ | h
    all_goals
      clear h1 h2 h3
      go_enter Tryz.func82, Tryz.ntmps82
      go_wp2
      go_ret
      exact ⟨rfl, rfl⟩
set_option maxHeartbeats 2000000 in
set_option maxRecDepth 100000 in
theorem joint_x (l : Bs) (w : World) (hl : l.length < 4294967281) :
    Calls Tryz.prog 60 #[.string (baS l)] w fun e w' => e = .returned (.int .i64 (Lib.index l [58, 58])) ∧ w' = w := by
  have hsz : (baS l).size = l.length := baS_len l
  obtain ⟨N, hN⟩ : ∃ N, l.length = N := ⟨_, rfl⟩
  rw [hN] at hsz hl
  go_enter Tryz.func60, Tryz.ntmps60
  go_wp2
  go_loop [3] (fun iv => ∃ (k : Nat), iv = .int .i64 k ∧ k ≤ N ∧ Hid (Lib.index l [58, 58] = farther k (Lib.index (l.drop k) [58, 58])))
    (fun iv => N - (intOf iv).toNat)
  case atStart => exact ⟨0, rfl, by omega, by show _ = _; rw [List.drop_zero, farther_zero]⟩
  case round =>
    obtain ⟨k, rfl, hk, hh⟩ := hrel
    by_cases hkn : k + 1 < N
    · have hkl : k < l.length := by omega
      have hkl1 : k + 1 < l.length := by omega
      have hat := baS_at l k hkl
      have hat1 := baS_at l (k + 1) hkl1
      have hdrop : l.drop k = l[k]'hkl :: l[k + 1]'hkl1 :: l.drop (k + 2) := by
        rw [List.drop_eq_getElem_cons hkl, List.drop_eq_getElem_cons hkl1]
      have hdrop1 : l.drop (k + 1) = l[k + 1]'hkl1 :: l.drop (k + 2) := List.drop_eq_getElem_cons hkl1
      generalize l[k]'hkl = c at hat hdrop
      generalize l[k + 1]'hkl1 = d at hat1 hdrop hdrop1
      have hkn' : (k : Int) + 1 < N := by omega
      by_cases h1 : c = 58
      · by_cases h2 : d = 58
        · have HF : Hid (Lib.index l [58, 58] = (k : Int)) := by
            show _ = _
            rw [hh.out, hdrop, h1, h2]
            have : Lib.index (58 :: 58 :: l.drop (k + 2)) [58, 58] = 0 := by simp [Lib.index, List.isPrefixOf]
            rw [this]; unfold farther; simp
          have e1 : ((c.toNat : Int) == 58) = true := by rw [h1]; rfl
          have e2 : ((d.toNat : Int) == 58) = true := by rw [h2]; rfl
          clear hh hdrop hdrop1 h1 h2 hkl hkl1
          go_wp2
          go_ret
          exact ⟨by rw [HF.out]; rfl, rfl⟩
        · have HF : Hid (Lib.index l [58, 58] = farther (k + 1) (Lib.index (l.drop (k + 1)) [58, 58])) := by
            show _ = _
            rw [hh.out, hdrop, ← hdrop1, idx2_step c _ (by rw [hdrop1]; simp [List.isPrefixOf]; intro _ e; exact h2 e.symm), farther_add _ _ _ (Lib.index_ge _ _)]
          have e1 : ((c.toNat : Int) == 58) = true := by rw [h1]; rfl
          have e2 : ((d.toNat : Int) == 58) = false := by
            rw [beq_eq_false_iff_ne]; intro e; exact h2 (UInt8.toNat_inj.1 (by simpa using Int.ofNat_inj.1 e))
          clear hh hdrop hdrop1 h1 h2 hkl hkl1
          go_wp2
          refine ⟨⟨k + 1, (by first | rfl | (congr 1; omega)), by omega, HF⟩, by simp [intOf]; omega⟩
      · have HF : Hid (Lib.index l [58, 58] = farther (k + 1) (Lib.index (l.drop (k + 1)) [58, 58])) := by
          show _ = _
          rw [hh.out, hdrop, ← hdrop1, idx2_step c _ (by simp [List.isPrefixOf]; intro e; exact absurd e.symm h1), farther_add _ _ _ (Lib.index_ge _ _)]
        have e1 : ((c.toNat : Int) == 58) = false := by
          rw [beq_eq_false_iff_ne]; intro e; exact h1 (UInt8.toNat_inj.1 (by simpa using Int.ofNat_inj.1 e))
        clear hh hdrop hdrop1 h1 hkl hkl1
        go_wp2
        refine ⟨⟨k + 1, (by first | rfl | (congr 1; omega)), by omega, HF⟩, by simp [intOf]; omega⟩
    · have HF : Hid (Lib.index l [58, 58] = -1) := by
        show _ = _
        rw [hh.out]
        have hlen : (l.drop k).length ≤ 1 := by rw [List.length_drop]; omega
        have : Lib.index (l.drop k) [58, 58] = -1 := by
          match hm : l.drop k, hlen with
          | [], _ => rfl
          | [a], _ => simp [Lib.index, List.isPrefixOf]
        rw [this]; rfl
      have hkn' : ¬ (k : Int) + 1 < N := by omega
      clear hh
      go_wp2
      go_ret
      exact ⟨by rw [HF.out]; rfl, rfl⟩
set_option maxHeartbeats 2000000 in
set_option maxRecDepth 100000 in
theorem last_p (l : Bs) (w : World) (r : Int) (hl : l.length < 4294967281) (hr : (∃ p t, l = p ++ 47 :: t ∧ (∀ c ∈ t, c ≠ 47) ∧ r = p.length) ∨ ((∀ c ∈ l, c ≠ 47) ∧ r = -1)) :
    Calls Tryz.prog 49 #[.string (baS l), .int .u8 47] w fun e w' => e = .returned (.int .i64 r) ∧ w' = w := by
  have hsz : (baS l).size = l.length := baS_len l
  obtain ⟨N, hN⟩ : ∃ N, l.length = N := ⟨_, rfl⟩
  rw [hN] at hsz hl
  have HR := Lib.hid hr
  clear hr
  go_enter Tryz.func49, Tryz.ntmps49
  go_wp2
  go_loop [5] (fun iv => ∃ (k : Nat), iv = .int .i64 ((k : Int) - 1) ∧ k ≤ N ∧ Hid (∀ c ∈ l.drop k, c ≠ 47))
    (fun iv => (intOf iv + 1).toNat)
  case atStart => exact ⟨N, rfl, by omega, by show ∀ c ∈ l.drop N, c ≠ 47; rw [List.drop_of_length_le (by omega)]; simp⟩
  case round =>
    obtain ⟨k, rfl, hk, hh⟩ := hrel
    by_cases hk0 : 0 < k
    · obtain ⟨j, rfl⟩ : ∃ j, k = j + 1 := ⟨k - 1, by omega⟩
      have hj : ((j + 1 : Nat) : Int) - 1 = j := by omega
      rw [hj]
      have hjl : j < l.length := by omega
      have hat := baS_at l j hjl
      have hdrop : l.drop j = l[j]'hjl :: l.drop (j + 1) := List.drop_eq_getElem_cons hjl
      generalize l[j]'hjl = c at hat hdrop
      have hjN : (j : Int) < N := by omega
      by_cases h1 : c = 47
      · have HF : Hid (r = (j : Int)) := by
          show _ = _
          rcases HR.out with ⟨p, t, e, ht, rfl⟩ | ⟨hp, rfl⟩
          · have hpj : p.length = j := by
              rcases Nat.lt_trichotomy p.length j with h | h | h
              · exfalso
                have hm : c ∈ l.drop (p.length + 1) := by
                  have : l.drop j = (l.drop (p.length + 1)).drop (j - (p.length + 1)) := by rw [List.drop_drop]; congr 1; omega
                  have hc : c ∈ l.drop j := by rw [hdrop]; simp
                  rw [this] at hc
                  exact List.mem_of_mem_drop hc
                rw [e, ← List.drop_drop, List.drop_left] at hm
                exact ht c (by simpa using hm) h1
              · exact h
              · exfalso
                have hm : (47 : UInt8) ∈ l.drop (j + 1) := by
                  rw [e, show j + 1 = (j + 1) from rfl, List.drop_append_of_le_length (by omega)]
                  simp
                exact hh.out 47 hm rfl
            rw [hpj]
          · exfalso
            have : c ∈ l := by have : c ∈ l.drop j := by rw [hdrop]; simp
                               exact List.mem_of_mem_drop this
            exact hp c this h1
        have e1 : ((c.toNat : Int) == 47) = true := by rw [h1]; rfl
        clear hh hdrop h1 hjl hj
        go_wp2
        go_ret
        exact ⟨by rw [HF.out]; rfl, rfl⟩
      · have HF : Hid (∀ c ∈ l.drop j, c ≠ 47) := by
          show ∀ c ∈ l.drop j, c ≠ 47
          rw [hdrop]; intro b hb
          rcases List.mem_cons.1 hb with rfl | e
          · exact h1
          · exact hh.out b e
        have e1 : ((c.toNat : Int) == 47) = false := by
          rw [beq_eq_false_iff_ne]; intro e; exact h1 (UInt8.toNat_inj.1 (by simpa using Int.ofNat_inj.1 e))
        clear hh hdrop h1 hjl hj
        go_wp2
        refine ⟨⟨j, (by first | rfl | (congr 1; omega)), by omega, HF⟩, by simp [intOf]⟩
    · obtain rfl : k = 0 := by omega
      have HF : Hid (r = -1) := by
        show _ = _
        rcases HR.out with ⟨p, t, e, ht, rfl⟩ | ⟨hp, rfl⟩
        · exfalso; exact hh.out 47 (by rw [List.drop_zero, e]; simp) rfl
        · rfl
      have e0 : ((0 : Nat) : Int) - 1 = -1 := rfl
      rw [e0]
      clear hh
      go_wp2
      go_ret
      exact ⟨by rw [HF.out]; rfl, rfl⟩
end Go.Proofs.YtmnemjhkmllniaaGreatDoor
