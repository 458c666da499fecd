/- strings.IndexFunc at the code's own isOdd: the first byte that may not stand in a part, whatever signs stand there, broken ones too. -/
import Derived.Test.YtfmanmidihofgaaDoorXa
import Derived.Test.YtfmanmidihofgaaDoorShelf
namespace Go.Proofs.YtfmanmidihofgaaDoor
open Go.ChangeShapes Go.WideShapes Go.RowKit Go.Sort

/-- A sign that may not stand in a part. -/
def oddR (r : Nat) : Bool := decide (r < 32) || decide (126 < r)
set_option maxHeartbeats 2000000 in
set_option maxRecDepth 100000 in
theorem isOdd_x (w : World) : PredAt Tryd.prog 37 #[] encR oddR w := fun W r _ => by
  unfold FnGives
  by_cases h1 : r < 32
  · have e : oddR r = true := by simp [oddR, h1]
    rw [e]
    have h1' : (r : Int) < 32 := by omega
    clear e h1
    go_enter Tryd.func37, Tryd.ntmps37
    go_wp2
    go_ret
    exact ⟨rfl, 0, rfl⟩
  · have h1' : ¬ (r : Int) < 32 := by omega
    by_cases h2 : 126 < r
    · have e : oddR r = true := by simp [oddR, h2]
      rw [e]
      have h2' : (126 : Int) < r := by omega
      clear e h1 h2
      go_enter Tryd.func37, Tryd.ntmps37
      go_wp2
      go_ret
      exact ⟨rfl, 0, rfl⟩
    · have e : oddR r = false := by simp [oddR]; omega
      rw [e]
      have h2' : ¬ (126 : Int) < r := by omega
      clear e h1 h2
      go_enter Tryd.func37, Tryd.ntmps37
      go_wp2
      go_ret
      exact ⟨rfl, 0, rfl⟩
theorem get_is (l : Bs) (pos : Nat) (h : pos < l.length) : (baS l).get! (pos + 0) = l[pos]'h := by
  rw [Nat.add_zero]
  have hz : pos < (baS l).size := by rw [baS_size]; exact h
  have : (baS l).get! pos = (baS l)[pos]'hz := by simp [ByteArray.get!, getElem!_pos, hz]; rfl
  rw [this]; rfl
theorem decode_low (l : Bs) (pos : Nat) (h : pos < l.length) (h1 : (l[pos]'h).toNat < 128) : Utf8.decode (baS l) pos = ((l[pos]'h).toNat, 1) := by
  simp only [Utf8.decode, get_is l pos h, h1, if_true]
theorem decode_high (l : Bs) (pos : Nat) (h : pos < l.length) (h1 : ¬ (l[pos]'h).toNat < 128) : 128 ≤ (Utf8.decode (baS l) pos).1 := by
  simp only [Utf8.decode, get_is l pos h, h1, if_false]
  repeat' split
  all_goals first | (show 128 ≤ Utf8.runeError; decide) | (simp_all; done) | (simp_all; omega)
theorem prt_odd (c : UInt8) : oddR c.toNat = !prtB c := by
  have : ∀ n, n < 256 → oddR (UInt8.ofNat n).toNat = !prtB (UInt8.ofNat n) := by decide +kernel
  have h := this c.toNat c.toNat_lt
  rwa [show UInt8.ofNat c.toNat = c by simp] at h
/-- Where the first such byte stands, as a number; none: less than nought. -/
def oddZ (l : Bs) : Int := match oddI l with | none => -1 | some i => (i : Int)
theorem idx_from (l : Bs) : ∀ (f pos : Nat), l.length ≤ pos + f → Lib.idxFuncFrom oddR true (baS l) f pos = match oddI (l.drop pos) with | none => -1 | some i => ((pos + i : Nat) : Int)
  | 0, pos, h => by
    rw [List.drop_eq_nil_of_le (by omega)]; rfl
  | f + 1, pos, h => by
    unfold Lib.idxFuncFrom
    rw [baS_size]
    by_cases hp : pos < l.length
    · rw [if_pos hp, List.drop_eq_getElem_cons hp]
      unfold oddI
      by_cases h1 : (l[pos]'hp).toNat < 128
      · rw [decode_low l pos hp h1, prt_odd]
        by_cases h2 : prtB (l[pos]'hp) = true
        · rw [if_neg (by simp [h2]), if_pos h2, idx_from l f (pos + 1) (by omega)]
          cases oddI (l.drop (pos + 1)) with
          | none => rfl
          | some i => simp only [Option.map]; congr 1; omega
        · rw [if_pos (by simpa using h2), if_neg h2]; rfl
      · have h2 := decode_high l pos hp h1
        have h3 : oddR (Utf8.decode (baS l) pos).1 = true := by unfold oddR; simp; omega
        have h4 : ¬ prtB (l[pos]'hp) = true := by
          have := prt_odd (l[pos]'hp)
          have h5 : oddR (l[pos]'hp).toNat = true := by unfold oddR; simp; omega
          rw [h5] at this; simpa using this.symm
        rw [if_pos h3, if_neg h4]; rfl
    · rw [if_neg hp, List.drop_eq_nil_of_le (by omega)]; rfl
theorem idx_is (l : Bs) : Lib.idxFunc oddR true (baS l) = oddZ l := by
  unfold Lib.idxFunc
  rw [baS_size, idx_from l l.length 0 (by omega), List.drop_zero]
  unfold oddZ
  cases oddI l with
  | none => rfl
  | some i => simp
theorem indexOdd_x (l : Bs) (w : World) : Calls Tryd.prog 36 #[.string (baS l), .func (.func 37) #[] #[]] w fun e w' => e = .returned (.int .i64 (oddZ l)) ∧ Below w.heap.size w w' := by
  have := Tryd.strings_IndexFunc 37 #[] (enters_of Tryd.func37 (by kernel_rfl) rfl) oddR (baS l) w (isOdd_x w)
  rwa [idx_is] at this
end Go.Proofs.YtfmanmidihofgaaDoor
