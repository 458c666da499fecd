/- Bytes of a text: which are a word's, which may stand in a text, which are blanks, which are signs; the code's own answers and the second writing's. -/
import Derived.Test.YtfmanmidihofgaaDoorSd
import Derived.Test.YtfmanmidihofgaaDoorTk
import Derived.Lib.Bytealg
namespace Go.Proofs.YtfmanmidihofgaaDoor
open Go.ChangeShapes Go.WideShapes Go.RowKit Go.Sort
def wordN (n : Int) : Bool := ((decide (97 ≤ n) && decide (n ≤ 122)) || (decide (65 ≤ n) && decide (n ≤ 90))) || (decide (48 ≤ n) && decide (n ≤ 57)) || (n == 46 || n == 58 || n == 45 || n == 95 || n == 47)
theorem nat_u8 (n : Nat) (h : n < 256) : (UInt8.ofNat n).toNat = n := by simp; omega
theorem wordN_is (c : UInt8) : wordB c = wordN (c.toNat : Int) := by
  have : ∀ n, n < 256 → wordB (UInt8.ofNat n) = wordN (n : Int) := by decide +kernel
  have h := this c.toNat c.toNat_lt
  rwa [show UInt8.ofNat c.toNat = c by simp] at h
theorem prtN_is (c : UInt8) : prtB c = (decide (32 ≤ (c.toNat : Int)) && decide ((c.toNat : Int) ≤ 126)) := by
  have : ∀ n, n < 256 → prtB (UInt8.ofNat n) = (decide (32 ≤ (n : Int)) && decide ((n : Int) ≤ 126)) := by decide +kernel
  have h := this c.toNat c.toNat_lt
  rwa [show UInt8.ofNat c.toNat = c by simp] at h
theorem ret_bool {a b : Bool} (h : a = b) : Ending.returned (Value.bool a) = .returned (.bool b) := by rw [h]
def escB (c : UInt8) : Bool := c == 34 || c == 92
theorem escN_is (c : UInt8) : escB c = ((c.toNat : Int) == 34 || (c.toNat : Int) == 92) := by
  have : ∀ n, n < 256 → escB (UInt8.ofNat n) = ((n : Int) == 34 || (n : Int) == 92) := by decide +kernel
  have h := this c.toNat c.toNat_lt
  rwa [show UInt8.ofNat c.toNat = c by simp] at h
theorem index_mem (l : Bs) (c : UInt8) : decide (0 ≤ Lib.indexByte l c) = decide (c ∈ l) := by
  by_cases hm : Lib.indexByte l c = -1
  · rw [hm]
    have hn : c ∉ l := fun e => by
      obtain ⟨k, hk⟩ := List.mem_iff_getElem?.1 e
      exact Lib.indexByte_none hm k hk
    simp [hn]
  · obtain ⟨o, ho⟩ : ∃ o : Nat, Lib.indexByte l c = o := ⟨(Lib.indexByte l c).toNat, by have := Lib.indexByte_ge l c; omega⟩
    have h1 := List.mem_of_getElem? (Lib.indexByte_some ho).1
    rw [ho]; simp [h1]
end Go.Proofs.YtfmanmidihofgaaDoor
