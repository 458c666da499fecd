/- Bytes of a text: which are a word's, which may stand in a text, which are blanks, which are signs; the code's own answers and the second writing's. -/
import Derived.Test.YtbbaeipobgomdaaSd
import Derived.Test.YtbbaeipobgomdaaTk
import Derived.Lib.Bytealg
namespace Go.Proofs.Ytbbaeipobgomdaa
open Go.ChangeShapes Go.WideShapes Go.RowKit Go.Sort
def wordN (n : Int) : Bool := ((decide (97 ≤ n) && decide (n ≤ 122)) || (decide (65 ≤ n) && decide (n ≤ 90))) || (decide (48 ≤ n) && decide (n ≤ 57)) || (n == 46 || n == 58 || n == 45 || n == 95 || n == 47)
theorem nat_u8 (n : Nat) (h : n < 256) : (UInt8.ofNat n).toNat = n := by simp; omega
theorem wordN_is (c : UInt8) : wordB c = wordN (c.toNat : Int) := by
  have : ∀ n, n < 256 → wordB (UInt8.ofNat n) = wordN (n : Int) := by decide +kernel
  have h := this c.toNat c.toNat_lt
  rwa [show UInt8.ofNat c.toNat = c by simp] at h
theorem prtN_is (c : UInt8) : prtB c = (decide (32 ≤ (c.toNat : Int)) && decide ((c.toNat : Int) ≤ 126)) := by
  have : ∀ n, n < 256 → prtB (UInt8.ofNat n) = (decide (32 ≤ (n : Int)) && decide ((n : Int) ≤ 126)) := by decide +kernel
  have h := this c.toNat c.toNat_lt
  rwa [show UInt8.ofNat c.toNat = c by simp] at h
theorem ret_bool {a b : Bool} (h : a = b) : Ending.returned (Value.bool a) = .returned (.bool b) := by rw [h]
def escB (c : UInt8) : Bool := c == 34 || c == 92
theorem escN_is (c : UInt8) : escB c = ((c.toNat : Int) == 34 || (c.toNat : Int) == 92) := by
  have : ∀ n, n < 256 → escB (UInt8.ofNat n) = ((n : Int) == 34 || (n : Int) == 92) := by decide +kernel
  have h := this c.toNat c.toNat_lt
  rwa [show UInt8.ofNat c.toNat = c by simp] at h
theorem index_mem (l : Bs) (c : UInt8) : decide (0 ≤ Lib.indexByte l c) = decide (c ∈ l) := by
  by_cases hm : Lib.indexByte l c = -1
  · rw [hm]
    have hn : c ∉ l := fun e => by
      obtain ⟨k, hk⟩ := List.mem_iff_getElem?.1 e
      exact Lib.indexByte_none hm k hk
    simp [hn]
  · obtain ⟨o, ho⟩ : ∃ o : Nat, Lib.indexByte l c = o := ⟨(Lib.indexByte l c).toNat, by have := Lib.indexByte_ge l c; omega⟩
    have h1 := List.mem_of_getElem? (Lib.indexByte_some ho).1
    rw [ho]; simp [h1]
set_option maxHeartbeats 2000000 in
set_option maxRecDepth 100000 in
theorem oneOf_x (l : Bs) (c : UInt8) (w : World) :
    Calls Try.prog 23 #[.string (baS l), .int .u8 (c.toNat : Int)] w fun e w' => e = .returned (.bool (decide (c ∈ l))) ∧ w' = w := by
  rw [← index_mem]
  have hx : (Extern.BytealgIndexByte.indexByte #[.string (baS l), .int .u8 (c.toNat : Int)]).run Try.prog w = .ok (.int .i64 (Lib.indexByte l c)) w := by
    have := Lib.run_indexByteString (P := Try.prog) (baS l) (c.toNat : Int) w
    rw [this, show (c.toNat : Int).toNat.toUInt8 = c by simp]; rfl
  have H3 : Hid (Calls Try.prog 30 #[.string (baS l), .int .u8 (c.toNat : Int)] w fun e w' => e = .returned (.int .i64 (Lib.indexByte l c)) ∧ w' = w) := by
    show Calls _ _ _ _ _
    go_enter Try.func30, Try.ntmps30
    go_wp2
    rw [run_callFunc_extern Try.func36 (by kernel_rfl) (by kernel_rfl) (by kernel_rfl) (e := Extern.BytealgIndexByte.indexByte) (by kernel_rfl), hx]
    simp only [Result.andThen]
    rw [Oper.upon_value]
    go_wp2
    go_ret
    exact ⟨rfl, rfl⟩
  have H2 : Hid (Calls Try.prog 28 #[.string (baS l), .int .u8 (c.toNat : Int)] w fun e w' => e = .returned (.int .i64 (Lib.indexByte l c)) ∧ w' = w) := by
    show Calls _ _ _ _ _
    clear hx
    go_enter Try.func28, Try.ntmps28
    go_wp2_with fail
    refine H3.out.mono ?_
    rintro e w' ⟨rfl, rfl⟩
    go_wp2
    go_ret
    exact ⟨rfl, rfl⟩
  clear hx H3
  go_enter Try.func23, Try.ntmps23
  go_wp2_with fail
  refine H2.out.mono ?_
  rintro e w' ⟨rfl, rfl⟩
  go_wp2
  go_ret
  exact ⟨rfl, rfl⟩
set_option maxHeartbeats 2000000 in
set_option maxRecDepth 100000 in
theorem inText_x (c : UInt8) (w : World) :
    Calls Try.prog 22 #[.int .u8 (c.toNat : Int)] w fun e w' => e = .returned (.bool (prtB c)) ∧ w' = w := by
  rw [prtN_is]
  have hlt := c.toNat_lt
  generalize c.toNat = n at *
  go_enter Try.func22, Try.ntmps22
  go_wp2
  all_goals go_ret
  all_goals refine ⟨?_, rfl⟩
  all_goals simp_all <;> omega
set_option maxHeartbeats 2000000 in
set_option maxRecDepth 100000 in
theorem needsEscape_x (c : UInt8) (w : World) :
    Calls Try.prog 21 #[.int .u8 (c.toNat : Int)] w fun e w' => e = .returned (.bool (escB c)) ∧ w' = w := by
  rw [escN_is]
  have hlt := c.toNat_lt
  generalize c.toNat = n at *
  go_enter Try.func21, Try.ntmps21
  go_wp2
  all_goals go_ret
  all_goals refine ⟨?_, rfl⟩
  all_goals simp_all <;> omega
set_option maxHeartbeats 4000000 in
set_option maxRecDepth 100000 in
theorem wordR_x (c : UInt8) (w : World) :
    Calls Try.prog 20 #[.int .u8 (c.toNat : Int)] w fun e w' => e = .returned (.bool (wordB c)) ∧ w' = w := by
  rw [wordN_is]
  have hlt := c.toNat_lt
  generalize c.toNat = n at *
  unfold wordN
  go_enter Try.func20, Try.ntmps20
  go_wp2
  all_goals go_ret
  all_goals refine ⟨?_, rfl⟩
  all_goals refine ret_bool ?_
  all_goals rw [Bool.eq_iff_iff]
  all_goals simp
  all_goals omega
set_option maxHeartbeats 4000000 in
set_option maxRecDepth 100000 in
theorem inWord_x (c : UInt8) (w : World) :
    Calls Try.prog 26 #[.int .u8 (c.toNat : Int)] w fun e w' => e = .returned (.bool (wordB c)) ∧ w' = w := by
  rw [wordN_is]
  have H := Lib.hid (oneOf_x [46, 58, 45, 95, 47] c)
  have e : decide (c ∈ [46, 58, 45, 95, 47]) = ((c.toNat : Int) == 46 || (c.toNat : Int) == 58 || (c.toNat : Int) == 45 || (c.toNat : Int) == 95 || (c.toNat : Int) == 47) := by
    have : ∀ n, n < 256 → decide (UInt8.ofNat n ∈ [46, 58, 45, 95, 47]) = ((n : Int) == 46 || (n : Int) == 58 || (n : Int) == 45 || (n : Int) == 95 || (n : Int) == 47) := by decide +kernel
    have h := this c.toNat c.toNat_lt
    rwa [show UInt8.ofNat c.toNat = c by simp] at h
  rw [e] at H
  clear e
  have hlt := c.toNat_lt
  generalize c.toNat = n at *
  unfold wordN
  generalize (((n : Int) == 46 || (n : Int) == 58 || (n : Int) == 45 || (n : Int) == 95 || (n : Int) == 47)) = b at *
  go_enter Try.func26, Try.ntmps26
  go_wp2_with fail
  all_goals first | (refine (H.out _).mono ?_; rintro e w' ⟨rfl, rfl⟩; go_wp2; go_ret) | go_ret
  all_goals refine ⟨?_, rfl⟩
  all_goals refine ret_bool ?_
  all_goals clear H
  all_goals cases b
  all_goals rw [Bool.eq_iff_iff]
  all_goals simp
  all_goals omega
end Go.Proofs.Ytbbaeipobgomdaa
