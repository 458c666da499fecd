/- pref.parseLength, Parse and Print: every text is the prefix that it says, or none; every prefix has its text. -/
import Derived.Test.YtmnemjhkmllniaaGreatDoorzAm
import Derived.Test.YtmnemjhkmllniaaGreatDoorzPt
import Derived.Test.YtmnemjhkmllniaaGreatDoorzLa
namespace Go.Proofs.YtmnemjhkmllniaaGreatDoor
open Go.ChangeShapes Go.WideShapes Go.RowKit Go.Sort

theorem lenV_ok {l : Bs} {n : Nat} (h : lenV l = some n) : ¬ (1 < l.length ∧ l.head? = some 48) ∧ Lib.parseUintB 8 l = .ok n := by
  unfold lenV at h
  split at h
  · cases h
  · rename_i hc
    split at h
    · rename_i u hu
      cases h
      exact ⟨hc, hu⟩
    · cases h
theorem lenV_no {l : Bs} (h : lenV l = none) (h0 : ¬ (1 < l.length ∧ l.head? = some 48)) : ∀ u, Lib.parseUintB 8 l ≠ .ok u := by
  intro u hu
  unfold lenV at h
  rw [if_neg h0, hu] at h
  cases h
theorem lenV_lt {l : Bs} {n : Nat} (h : lenV l = some n) : n < 256 := by
  have hu := (lenV_ok h).2
  unfold Lib.parseUintB at hu
  split at hu
  · cases hu
  · have := parseUintM_le _ _ _ _ (by decide) hu
    omega
/-- Some number, and false. -/
def NoLen (e : Ending) : Prop := ∃ u : Int, e = .returned (.tuple #[.int .i64 u, .bool false])
def prefR (r : Option (Nat × Nat × Nat)) : Value := match r with
  | some (v, x, n) => .tuple #[.agg #[.int .i64 v, .int .u64 (hiQ x), .int .u64 (loQ x), .int .i64 n], .bool true]
  | none => .tuple #[.agg #[.int .i64 0, .int .u64 0, .int .u64 0, .int .i64 0], .bool false]
end Go.Proofs.YtmnemjhkmllniaaGreatDoor

/- pref.Print; what Parse and Print answer in the words that the laws want. -/
namespace Go.Proofs.YtmnemjhkmllniaaGreatDoor
open Go.ChangeShapes Go.WideShapes Go.RowKit Go.Sort

theorem itoa_x (n : Nat) (w : World) (hg : Gl w) (hn : n ≤ 128) :
    Calls Tryz.prog 127 #[.int .i64 n] w fun e w' => e = .returned (.string (baS (decS n))) ∧ Below w.heap.size w w' := by
  refine (Tryz.strconv_Itoa n (by omega) (by omega) w hg.p10).mono ?_
  rintro e w' ⟨rfl, k, os, rfl⟩
  refine ⟨?_, Lib.below_grow w.heap.size w (Nat.le_refl _) k os⟩
  rw [Lib.itoa_nonneg, decS_eq n (by omega)]
  rfl
end Go.Proofs.YtmnemjhkmllniaaGreatDoor
