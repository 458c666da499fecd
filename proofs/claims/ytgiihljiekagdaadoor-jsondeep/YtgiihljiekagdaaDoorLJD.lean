/- JsonDeep: whatever is asked for, the law answers true. -/
import Derived.Test.YtgiihljiekagdaaDoorLxm
namespace Go.Proofs.YtgiihljiekagdaaDoor
open Go.ChangeShapes Go.WideShapes Go.RowKit Go.Sort
theorem deep_walk (n : Int) (q : Bool) (m : Int) (w : World) (hg : Gl w) :
    Calls Tryd.prog 4 #[.int .i64 n, .bool q, .int .i64 m] w fun e w' => e = .returned (.bool true) ∧ Below w.heap.size w w' := by
  have h1 : ∃ d : Nat, d < 128 ∧ bits BinOp.and IntKind.i64 n 127 = (d : Int) := by
    rw [i64_and127]
    exact ⟨(n % 128).toNat, by omega, by omega⟩
  have h2 : ∃ k : Nat, k < 512 ∧ bits BinOp.and IntKind.i64 m 511 = (k : Int) := by
    rw [i64_and511]
    exact ⟨(m % 512).toNat, by omega, by omega⟩
  obtain ⟨d, hd, hn⟩ := h1
  obtain ⟨k, hk, hm⟩ := h2
  cases q with
  | true => exact deep_m n m d k w hg hn hm hd hk
  | false =>
    by_cases h0 : d = 0
    · subst h0; exact deep_0 n m k w hg hn hm hk
    · exact deep_l n m d k w hg hn hm hd hk h0
end Go.Proofs.YtgiihljiekagdaaDoor
