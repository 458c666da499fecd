/- Package json: fail, sees. -/
import Derived.Test.YtgiihljiekagdaaDoorKa
namespace Go.Proofs.YtgiihljiekagdaaDoor
open Go.ChangeShapes Go.WideShapes Go.RowKit Go.Sort
def rdP (R : Nat) : Value := .pointer (some ⟨R, 0, none⟩)
set_option maxHeartbeats 2000000 in
set_option maxRecDepth 100000 in
theorem fail_x {n b o c R : Nat} {w : World} {i : Nat} {k a : Int} (h : Rd n b o c R w i k a) (q x : Int) :
    Calls Tryd.prog 22 #[.pointer (some ⟨R, 0, none⟩), .int .i64 q, .int .i64 x] w fun e w' => e = .returned (.bool false) ∧ Rd n b o c R w' i q x ∧ But R w w' := by
  have H := Lib.hid (h.err q x)
  have hb := Lib.hid (((But.refl R w).set 2 (.int .i64 q)).set 3 (.int .i64 x))
  obtain ⟨c0, c1, c2, c3, fz, lt⟩ := h
  go_enter Tryd.func22, Tryd.ntmps22
  go_wp2
  go_ret
  exact ⟨rfl, H.out, hb.out⟩
set_option maxHeartbeats 2000000 in
set_option maxRecDepth 100000 in
theorem sees_x {l : Bs} {b o c R : Nat} {w : World} {i : Nat} {k a : Int} (hs : Src l b o c R w) (h : Rd l.length b o c R w i k a) (x : UInt8) :
    Calls Tryd.prog 43 #[.pointer (some ⟨R, 0, none⟩), .int .u8 (x.toNat : Int)] w fun e w' => e = .returned (.bool (decide (l[i]? = some x))) ∧ Below w.heap.size w w' := by
  obtain ⟨c0, c1, c2, c3, fz, lt⟩ := h
  by_cases hlt : i < l.length
  · have hget := List.getElem?_eq_getElem hlt
    have hcell := hs.byte hget
    have hd : decide ((i : Int) < (l.length : Int)) = true := by simp; omega
    have hq : decide (l[i]? = some x) = decide (((l[i]'hlt).toNat : Int) = (x.toNat : Int)) := by
      rw [hget]; by_cases e : l[i]'hlt = x
      · simp [e]
      · have : ¬ ((l[i]'hlt).toNat = x.toNat) := fun e2 => e (UInt8.toNat_inj.1 e2)
        simp [e]; omega
    rw [hq]
    clear hq hget
    generalize l[i]'hlt = y at *
    generalize l.length = n at *
    go_enter Tryd.func43, Tryd.ntmps43
    go_wp2
    go_quiet (fail)
    all_goals go_wp2
    all_goals go_ret
    all_goals exact ⟨congrArg (fun z => Ending.returned (Value.bool z)) (by by_cases e : (y.toNat : Int) = (x.toNat : Int) <;> simp [e]), bdrew (Below.refl _ _) _⟩
  · have hd : decide ((i : Int) < (l.length : Int)) = false := by simp; omega
    rw [List.getElem?_eq_none (by omega)]
    have hd2 : decide (i < l.length) = false := by simpa using hlt
    generalize l.length = n at *
    go_enter Tryd.func43, Tryd.ntmps43
    go_wp2
    go_quiet (fail)
    all_goals go_wp2
    all_goals go_ret
    all_goals exact ⟨by simp, bdrew (Below.refl _ _) _⟩
end Go.Proofs.YtgiihljiekagdaaDoor
