/- Facts of masks and bits that the kernel counts out. -/
import Derived.Test.YtjmgiepjgkoocaaDoorQm
namespace Go.Proofs.YtjmgiepjgkoocaaDoor
theorem masks_le : ∀ i, i < 129 → ∀ j, j < 129 → i ≤ j → maskQ i &&& maskQ j = maskQ i ∧ maskQ j &&& maskQ i = maskQ i ∧ maskQ i ||| maskQ j = maskQ j ∧ maskQ j ||| maskQ i = maskQ j := by decide +kernel
theorem masks_lt : ∀ i, i < 129 → ∀ j, j < 129 → ltB (maskQ i) (maskQ j) = decide (i < j) := by decide +kernel
theorem bits_apart : ∀ i, i < 129 → ∀ j, j < 129 → i ≠ j → bitV i &&& bitV j = 0 := by decide +kernel
theorem lowQ_mask : ∀ i, i < 129 → lowQ (maskQ i) = 128 - i := by decide +kernel
theorem mask_next : ∀ i, i < 128 → addR (maskQ i) (bitV (127 - i)) = maskQ (i + 1) ∧ addB (maskQ i) (bitV (127 - i)) = true := by decide +kernel
end Go.Proofs.YtjmgiepjgkoocaaDoor
