/- dnsl.inKey, keyEnd: where a key ends. -/
import Derived.Test.YtfmanmidihofgaaDoorXe
import Derived.Test.YtfmanmidihofgaaDoorTl
namespace Go.Proofs.YtfmanmidihofgaaDoor
open Go.ChangeShapes Go.WideShapes Go.RowKit Go.Sort

theorem keyB_num (c : UInt8) : keyB c = (decide (97 ≤ (c.toNat : Int)) && decide ((c.toNat : Int) ≤ 122) || ((c.toNat : Int) == 45)) := by
  have : ∀ n, n < 256 → keyB (UInt8.ofNat n) = (decide (97 ≤ (n : Int)) && decide ((n : Int) ≤ 122) || ((n : Int) == 45)) := by decide +kernel
  have h := this c.toNat c.toNat_lt
  rwa [show UInt8.ofNat c.toNat = c by simp] at h
theorem inKey_x (c : UInt8) (w : World) :
    Calls Tryd.prog 34 #[.int .u8 (c.toNat : Int)] w fun e w' => e = .returned (.bool (keyB c)) ∧ w' = w := by
  rw [keyB_num]
  have hlt := c.toNat_lt
  generalize c.toNat = n at *
  by_cases h1 : 97 ≤ (n : Int)
  · by_cases h2 : (n : Int) ≤ 122
    · go_enter Tryd.func34, Tryd.ntmps34
      go_wp2
      go_ret
      exact ⟨by simp [h1, h2], rfl⟩
    · have h3 : ¬ (n : Int) = 45 := by omega
      go_enter Tryd.func34, Tryd.ntmps34
      go_wp2
      go_ret
      exact ⟨by simp; omega, rfl⟩
  · by_cases h3 : (n : Int) = 45
    · have h3' : n = 45 := by omega
      subst h3'
      go_enter Tryd.func34, Tryd.ntmps34
      go_wp2
      go_ret
      exact ⟨rfl, rfl⟩
    · go_enter Tryd.func34, Tryd.ntmps34
      go_wp2
      go_ret
      exact ⟨by simp; omega, rfl⟩
theorem keyN_in {s : Bs} {j : Nat} (h : j < keyN s) : ∃ c, s[j]? = some c ∧ keyB c = true := by
  unfold keyN at h
  have e : s.takeWhile keyB ++ s.dropWhile keyB = s := List.takeWhile_append_dropWhile
  refine ⟨(s.takeWhile keyB)[j], ?_, key_all s _ (List.getElem_mem h)⟩
  conv => lhs; rw [← e]
  rw [List.getElem?_append_left h]; exact List.getElem?_eq_getElem h
theorem keyN_out {s : Bs} {c : UInt8} (h : s[keyN s]? = some c) : keyB c = false := by
  have e : s.takeWhile keyB ++ s.dropWhile keyB = s := List.takeWhile_append_dropWhile
  have h2 : (s.dropWhile keyB)[0]? = some c := by
    rw [← h]
    conv => rhs; arg 1; rw [← e]
    rw [List.getElem?_append_right (by unfold keyN; exact Nat.le_refl _)]
    unfold keyN; rw [Nat.sub_self]
  have h3 := List.head?_dropWhile_not keyB s
  rw [List.head?_eq_getElem?, h2] at h3
  simpa using h3
set_option maxHeartbeats 4000000 in
set_option maxRecDepth 100000 in
theorem keyEnd_x (s : Bs) (w : World) (hs : s.length ≤ 1000000) :
    Calls Tryd.prog 27 #[.string (baS s)] w fun e w' => e = .returned (.int .i64 (keyN s)) ∧ w' = w := by
  have hk := keyN_le s
  have hsz := baS_size s
  have HI := Lib.hid (fun j (hj : j < keyN s) => keyN_in hj)
  have HO := Lib.hid (fun c => keyN_out (s := s) (c := c))
  generalize hK : keyN s = K at *
  go_enter Tryd.func27, Tryd.ntmps27
  go_wp2_with fail
  go_loopw [3] (fun iv wr => ∃ j : Nat, iv = .int .i64 (j : Int) ∧ j ≤ K ∧ wr = w) (fun iv _ => s.length + 1 - intN iv)
  case atStart => exact ⟨0, rfl, Nat.zero_le _, rfl⟩
  case round =>
    obtain ⟨j, rfl, hj, rfl⟩ := hrel
    by_cases hjk : j < K
    · obtain ⟨c, hc, hkc⟩ := HI.out j hjk
      have hlt : j < s.length := by omega
      have hx := fun V => str_at8 s j hlt V
      have HC := Lib.hid (inKey_x (s[j]'hlt))
      rw [(List.getElem?_eq_some_iff.1 hc).2, hkc] at HC
      rw [(List.getElem?_eq_some_iff.1 hc).2] at hx
      clear hc hkc HI HO
      generalize c.toNat = u at *
      go_wp2_with (go_at_call 34; refine (HC.out _).mono ?_; rintro e w' ⟨rfl, rfl⟩)
      refine ⟨⟨j + 1, by simp, by omega, by first | rfl | trivial⟩, by simp [intN]; omega⟩
    · obtain rfl : j = K := by omega
      by_cases hend : j = s.length
      · go_wp2_with fail
        go_ret
        exact ⟨rfl, rfl⟩
      · have hlt : j < s.length := by omega
        have hx := fun V => str_at8 s j hlt V
        have hkc := HO.out _ (List.getElem?_eq_getElem hlt)
        have HC := Lib.hid (inKey_x (s[j]'hlt))
        rw [hkc] at HC
        clear hkc HI HO
        generalize (s[j]'hlt).toNat = u at *
        go_wp2_with (go_at_call 34; refine (HC.out _).mono ?_; rintro e w' ⟨rfl, rfl⟩)
        go_ret
        exact ⟨rfl, rfl⟩
end Go.Proofs.YtfmanmidihofgaaDoor
