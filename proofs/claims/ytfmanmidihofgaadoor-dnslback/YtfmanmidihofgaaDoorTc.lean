/- Where blanks and comments end: the code's own skip. -/
import Derived.Test.YtfmanmidihofgaaDoorTb
namespace Go.Proofs.YtfmanmidihofgaaDoor
open Go.ChangeShapes Go.WideShapes Go.RowKit Go.Sort
theorem blank_mem (c : UInt8) : decide (c ∈ [32, 9, 13, 10]) = blankB c := by
  have : ∀ n, n < 256 → decide (UInt8.ofNat n ∈ [32, 9, 13, 10]) = blankB (UInt8.ofNat n) := by decide +kernel
  have h := this c.toNat c.toNat_lt
  rwa [show UInt8.ofNat c.toNat = c by simp] at h
theorem sign_mem (c : UInt8) : decide (c ∈ [123, 125, 59, 44]) = signB c := by
  have : ∀ n, n < 256 → decide (UInt8.ofNat n ∈ [123, 125, 59, 44]) = signB (UInt8.ofNat n) := by decide +kernel
  have h := this c.toNat c.toNat_lt
  rwa [show UInt8.ofNat c.toNat = c by simp] at h
theorem byte_is {c : UInt8} {k : Nat} (hk : k < 256) : ((c.toNat : Int) = (k : Int)) ↔ c = UInt8.ofNat k := by
  constructor
  · intro h
    apply UInt8.toNat_inj.1
    simp; omega
  · rintro rfl; simp; omega
end Go.Proofs.YtfmanmidihofgaaDoor
