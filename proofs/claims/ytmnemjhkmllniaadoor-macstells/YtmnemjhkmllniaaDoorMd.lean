/- The second writing's PrintMac. -/
import Derived.Test.YtmnemjhkmllniaaDoorMc
import Derived.Deep.DeepCutAuto
import Derived.Deep.RegionHeld3
namespace Go.Proofs.YtmnemjhkmllniaaDoor
open Go.ChangeShapes Go.WideShapes Go.RowKit Go.Sort

/-- The first j pairs, each with its colon. -/
def preM (m : Nat) : Nat → Bs
  | 0 => []
  | j + 1 => preM m j ++ pairS (dgM m j) ++ (if j < 5 then [58] else [])
theorem preM_6 (m : Nat) : preM m 6 = tellM m := by rw [tellM_is]; simp [preM]
theorem preM_len (m : Nat) : ∀ j, (preM m j).length ≤ 3 * j
  | 0 => by simp [preM]
  | j + 1 => by
    have := preM_len m j
    unfold preM
    by_cases h : j < 5
    · simp [h, pairS]; omega
    · simp [h, pairS]; omega
theorem byte2 (a b : UInt8) (V : World) : (convert 32 9 (.slice (some ⟨V.heap.size, 0, none⟩) 2 2)).run Tryd.prog (V.alloc (.cells #[.int .u8 a.toNat, .int .u8 b.toNat] 5)) = .ok (.string (baS [a, b])) (V.alloc (.cells #[.int .u8 a.toNat, .int .u8 b.toNat] 5)) := by
  refine run_convert_bytes_back (P := Tryd.prog) _ 32 9 5 ⟨V.heap.size, 0, none⟩ 2 [a, b] Tryd.underlying32 Tryd.underlying5 Tryd.underlying9 (fun j hj => ?_)
  have hj2 : j < 2 := by simpa using hj
  rcases (show j = 0 ∨ j = 1 by omega) with rfl | rfl
  · simp [go_sem]
  · simp [go_sem]
theorem byte2d (a b : UInt8) (V : World) : (convert 32 9 (.slice (some ⟨V.heap.size, 0, none⟩) 2 2)).run Tryd.prog (V.alloc (.cells #[.int .u8 a.toNat, .int .u8 b.toNat] 5)).drew = .ok (.string (baS [a, b])) (V.alloc (.cells #[.int .u8 a.toNat, .int .u8 b.toNat] 5)).drew := by
  refine run_convert_bytes_back (P := Tryd.prog) _ 32 9 5 ⟨V.heap.size, 0, none⟩ 2 [a, b] Tryd.underlying32 Tryd.underlying5 Tryd.underlying9 (fun j hj => ?_)
  show (V.alloc (.cells #[.int .u8 a.toNat, .int .u8 b.toNat] 5)).cell? _ = _
  have hj2 : j < 2 := by simpa using hj
  rcases (show j = 0 ∨ j = 1 by omega) with rfl | rfl
  · simp [go_sem]
  · simp [go_sem]
set_option maxHeartbeats 400000 in
theorem refPrintM_no (m : Nat) (w : World) (hm : 281474976710656 ≤ m) :
    Calls Tryd.prog 10 #[.int .u64 m] w fun e w' => e = .returned (.tuple #[.string ⟨#[]⟩, .bool false]) ∧ Below w.heap.size w w' := by
  have h0 : (281474976710656 : Int) ≤ m := by omega
  clear hm
  go_enter Tryd.func10, Tryd.ntmps10
  go_wp2
  go_ret2
  exact ⟨rfl, Below.refl _ _⟩
set_option maxHeartbeats 8000000 in
set_option maxRecDepth 100000 in
theorem refPrintM_yes (m : Nat) (w : World) (hm : m < 281474976710656) :
    Calls Tryd.prog 10 #[.int .u64 m] w fun e w' => e = .returned (.tuple #[.string (baS (tellM m)), .bool true]) ∧ Below w.heap.size w w' := by
  have h0 : ¬ (281474976710656 : Int) ≤ m := by omega
  have HX := Lib.hid hm
  clear hm
  go_enter Tryd.func10, Tryd.ntmps10
  go_wp2
  go_loopw [4, 5] (fun sv iv wr => ∃ (j : Nat), j ≤ 6 ∧ sv = .string (baS (preM m j)) ∧ iv = .int .i64 (5 - (j : Int)) ∧ Below w.heap.size w wr)
    (fun _ iv _ => (intOf iv + 1).toNat)
  case atStart => exact ⟨0, by omega, rfl, rfl, Below.refl _ _⟩
  case round =>
    obtain ⟨j, hj, rfl, rfl, hb⟩ := hrel
    by_cases hj6 : j < 6
    · have hlen := preM_len m j
      rcases (show j = 0 ∨ j = 1 ∨ j = 2 ∨ j = 3 ∨ j = 4 ∨ j = 5 by omega) with rfl | rfl | rfl | rfl | rfl | rfl
      · have e5 : (5 : Int) - ((0 : Nat) : Int) = 5 := rfl
        rw [e5]
        have hst : preM m 1 = preM m 0 ++ pairS (dgM m 0) ++ [58] := rfl
        have hq : bits .and .u64 ((m : Int) / 1099511627776) 255 = ((dgM m 0 : Nat) : Int) := dgM_and m 0 1099511627776 HX.out rfl
        have hd := dgM_lt m 0
        have hpr : pairS (dgM m 0) = [hexC (dgM m 0 / 16), hexC (dgM m 0 % 16)] := rfl
        generalize dgM m 0 = d at hst hq hd hpr
        have hdiv : (d : Int) / 16 = ((d / 16 : Nat) : Int) := by omega
        have hand : bits .and .u64 (d : Int) 15 = ((d % 16 : Nat) : Int) := and15 d (by omega)
        have hx : d / 16 < 16 := by omega
        have hy : d % 16 < 16 := by omega
        have hx' : ((d / 16 : Nat) : Int) < 16 := by omega
        have hy' : ((d % 16 : Nat) : Int) < 16 := by omega
        have hx0 : (0 : Int) ≤ ((d / 16 : Nat) : Int) := by omega
        have hy0 : (0 : Int) ≤ ((d % 16 : Nat) : Int) := by omega
        generalize d / 16 = x at *
        generalize d % 16 = y at *
        have hdx : ∀ h, (⟨#[48, 49, 50, 51, 52, 53, 54, 55, 56, 57, 97, 98, 99, 100, 101, 102]⟩ : ByteArray)[x]'h = hexC x := fun h => digs16 x hx
        have hdy : ∀ h, (⟨#[48, 49, 50, 51, 52, 53, 54, 55, 56, 57, 97, 98, 99, 100, 101, 102]⟩ : ByteArray)[y]'h = hexC y := fun h => digs16 y hy
        rw [hpr] at hst
        clear hpr
        have hcv1 := byte2 (hexC x) (hexC y) wr
        have hcv2 := byte2d (hexC x) (hexC y) wr
        have hadd : ∀ V, (Op.stringOp .add (baS (preM m 0)) (baS [hexC x, hexC y])).run Tryd.prog V = .ok (.string (baS (preM m 0 ++ [hexC x, hexC y]))) V := addS _ _ (by omega) (by simp)
        have hadd2 : ∀ V, (Op.stringOp .add (baS (preM m 0 ++ [hexC x, hexC y])) ⟨#[58]⟩).run Tryd.prog V = .ok (.string (baS (preM m 0 ++ [hexC x, hexC y] ++ [58]))) V := addS _ [58] (by simp; omega) (by simp)
        have HS := Lib.hid hst
        clear hst hlen
        generalize preM m 0 = s at *
        go_upto_region 28 with fail
        go_region
        go_wp2
        go_roundw
        case rel => exact ⟨1, by omega, by rw [HS.out, List.append_assoc]; rfl, by go_num, (by first | exact ball hb | exact ball (Below.drew hb) | exact Below.drew (ball hb))⟩
        case measure => simp [intOf]
      · have e5 : (5 : Int) - ((1 : Nat) : Int) = 4 := rfl
        rw [e5]
        have hst : preM m 2 = preM m 1 ++ pairS (dgM m 1) ++ [58] := rfl
        have hq : bits .and .u64 ((m : Int) / 4294967296) 255 = ((dgM m 1 : Nat) : Int) := dgM_and m 1 4294967296 HX.out rfl
        have hd := dgM_lt m 1
        have hpr : pairS (dgM m 1) = [hexC (dgM m 1 / 16), hexC (dgM m 1 % 16)] := rfl
        generalize dgM m 1 = d at hst hq hd hpr
        have hdiv : (d : Int) / 16 = ((d / 16 : Nat) : Int) := by omega
        have hand : bits .and .u64 (d : Int) 15 = ((d % 16 : Nat) : Int) := and15 d (by omega)
        have hx : d / 16 < 16 := by omega
        have hy : d % 16 < 16 := by omega
        have hx' : ((d / 16 : Nat) : Int) < 16 := by omega
        have hy' : ((d % 16 : Nat) : Int) < 16 := by omega
        have hx0 : (0 : Int) ≤ ((d / 16 : Nat) : Int) := by omega
        have hy0 : (0 : Int) ≤ ((d % 16 : Nat) : Int) := by omega
        generalize d / 16 = x at *
        generalize d % 16 = y at *
        have hdx : ∀ h, (⟨#[48, 49, 50, 51, 52, 53, 54, 55, 56, 57, 97, 98, 99, 100, 101, 102]⟩ : ByteArray)[x]'h = hexC x := fun h => digs16 x hx
        have hdy : ∀ h, (⟨#[48, 49, 50, 51, 52, 53, 54, 55, 56, 57, 97, 98, 99, 100, 101, 102]⟩ : ByteArray)[y]'h = hexC y := fun h => digs16 y hy
        rw [hpr] at hst
        clear hpr
        have hcv1 := byte2 (hexC x) (hexC y) wr
        have hcv2 := byte2d (hexC x) (hexC y) wr
        have hadd : ∀ V, (Op.stringOp .add (baS (preM m 1)) (baS [hexC x, hexC y])).run Tryd.prog V = .ok (.string (baS (preM m 1 ++ [hexC x, hexC y]))) V := addS _ _ (by omega) (by simp)
        have hadd2 : ∀ V, (Op.stringOp .add (baS (preM m 1 ++ [hexC x, hexC y])) ⟨#[58]⟩).run Tryd.prog V = .ok (.string (baS (preM m 1 ++ [hexC x, hexC y] ++ [58]))) V := addS _ [58] (by simp; omega) (by simp)
        have HS := Lib.hid hst
        clear hst hlen
        generalize preM m 1 = s at *
        go_upto_region 28 with fail
        go_region
        go_wp2
        go_roundw
        case rel => exact ⟨2, by omega, by rw [HS.out, List.append_assoc]; rfl, by go_num, (by first | exact ball hb | exact ball (Below.drew hb) | exact Below.drew (ball hb))⟩
        case measure => simp [intOf]
      · have e5 : (5 : Int) - ((2 : Nat) : Int) = 3 := rfl
        rw [e5]
        have hst : preM m 3 = preM m 2 ++ pairS (dgM m 2) ++ [58] := rfl
        have hq : bits .and .u64 ((m : Int) / 16777216) 255 = ((dgM m 2 : Nat) : Int) := dgM_and m 2 16777216 HX.out rfl
        have hd := dgM_lt m 2
        have hpr : pairS (dgM m 2) = [hexC (dgM m 2 / 16), hexC (dgM m 2 % 16)] := rfl
        generalize dgM m 2 = d at hst hq hd hpr
        have hdiv : (d : Int) / 16 = ((d / 16 : Nat) : Int) := by omega
        have hand : bits .and .u64 (d : Int) 15 = ((d % 16 : Nat) : Int) := and15 d (by omega)
        have hx : d / 16 < 16 := by omega
        have hy : d % 16 < 16 := by omega
        have hx' : ((d / 16 : Nat) : Int) < 16 := by omega
        have hy' : ((d % 16 : Nat) : Int) < 16 := by omega
        have hx0 : (0 : Int) ≤ ((d / 16 : Nat) : Int) := by omega
        have hy0 : (0 : Int) ≤ ((d % 16 : Nat) : Int) := by omega
        generalize d / 16 = x at *
        generalize d % 16 = y at *
        have hdx : ∀ h, (⟨#[48, 49, 50, 51, 52, 53, 54, 55, 56, 57, 97, 98, 99, 100, 101, 102]⟩ : ByteArray)[x]'h = hexC x := fun h => digs16 x hx
        have hdy : ∀ h, (⟨#[48, 49, 50, 51, 52, 53, 54, 55, 56, 57, 97, 98, 99, 100, 101, 102]⟩ : ByteArray)[y]'h = hexC y := fun h => digs16 y hy
        rw [hpr] at hst
        clear hpr
        have hcv1 := byte2 (hexC x) (hexC y) wr
        have hcv2 := byte2d (hexC x) (hexC y) wr
        have hadd : ∀ V, (Op.stringOp .add (baS (preM m 2)) (baS [hexC x, hexC y])).run Tryd.prog V = .ok (.string (baS (preM m 2 ++ [hexC x, hexC y]))) V := addS _ _ (by omega) (by simp)
        have hadd2 : ∀ V, (Op.stringOp .add (baS (preM m 2 ++ [hexC x, hexC y])) ⟨#[58]⟩).run Tryd.prog V = .ok (.string (baS (preM m 2 ++ [hexC x, hexC y] ++ [58]))) V := addS _ [58] (by simp; omega) (by simp)
        have HS := Lib.hid hst
        clear hst hlen
        generalize preM m 2 = s at *
        go_upto_region 28 with fail
        go_region
        go_wp2
        go_roundw
        case rel => exact ⟨3, by omega, by rw [HS.out, List.append_assoc]; rfl, by go_num, (by first | exact ball hb | exact ball (Below.drew hb) | exact Below.drew (ball hb))⟩
        case measure => simp [intOf]
      · have e5 : (5 : Int) - ((3 : Nat) : Int) = 2 := rfl
        rw [e5]
        have hst : preM m 4 = preM m 3 ++ pairS (dgM m 3) ++ [58] := rfl
        have hq : bits .and .u64 ((m : Int) / 65536) 255 = ((dgM m 3 : Nat) : Int) := dgM_and m 3 65536 HX.out rfl
        have hd := dgM_lt m 3
        have hpr : pairS (dgM m 3) = [hexC (dgM m 3 / 16), hexC (dgM m 3 % 16)] := rfl
        generalize dgM m 3 = d at hst hq hd hpr
        have hdiv : (d : Int) / 16 = ((d / 16 : Nat) : Int) := by omega
        have hand : bits .and .u64 (d : Int) 15 = ((d % 16 : Nat) : Int) := and15 d (by omega)
        have hx : d / 16 < 16 := by omega
        have hy : d % 16 < 16 := by omega
        have hx' : ((d / 16 : Nat) : Int) < 16 := by omega
        have hy' : ((d % 16 : Nat) : Int) < 16 := by omega
        have hx0 : (0 : Int) ≤ ((d / 16 : Nat) : Int) := by omega
        have hy0 : (0 : Int) ≤ ((d % 16 : Nat) : Int) := by omega
        generalize d / 16 = x at *
        generalize d % 16 = y at *
        have hdx : ∀ h, (⟨#[48, 49, 50, 51, 52, 53, 54, 55, 56, 57, 97, 98, 99, 100, 101, 102]⟩ : ByteArray)[x]'h = hexC x := fun h => digs16 x hx
        have hdy : ∀ h, (⟨#[48, 49, 50, 51, 52, 53, 54, 55, 56, 57, 97, 98, 99, 100, 101, 102]⟩ : ByteArray)[y]'h = hexC y := fun h => digs16 y hy
        rw [hpr] at hst
        clear hpr
        have hcv1 := byte2 (hexC x) (hexC y) wr
        have hcv2 := byte2d (hexC x) (hexC y) wr
        have hadd : ∀ V, (Op.stringOp .add (baS (preM m 3)) (baS [hexC x, hexC y])).run Tryd.prog V = .ok (.string (baS (preM m 3 ++ [hexC x, hexC y]))) V := addS _ _ (by omega) (by simp)
        have hadd2 : ∀ V, (Op.stringOp .add (baS (preM m 3 ++ [hexC x, hexC y])) ⟨#[58]⟩).run Tryd.prog V = .ok (.string (baS (preM m 3 ++ [hexC x, hexC y] ++ [58]))) V := addS _ [58] (by simp; omega) (by simp)
        have HS := Lib.hid hst
        clear hst hlen
        generalize preM m 3 = s at *
        go_upto_region 28 with fail
        go_region
        go_wp2
        go_roundw
        case rel => exact ⟨4, by omega, by rw [HS.out, List.append_assoc]; rfl, by go_num, (by first | exact ball hb | exact ball (Below.drew hb) | exact Below.drew (ball hb))⟩
        case measure => simp [intOf]
      · have e5 : (5 : Int) - ((4 : Nat) : Int) = 1 := rfl
        rw [e5]
        have hst : preM m 5 = preM m 4 ++ pairS (dgM m 4) ++ [58] := rfl
        have hq : bits .and .u64 ((m : Int) / 256) 255 = ((dgM m 4 : Nat) : Int) := dgM_and m 4 256 HX.out rfl
        have hd := dgM_lt m 4
        have hpr : pairS (dgM m 4) = [hexC (dgM m 4 / 16), hexC (dgM m 4 % 16)] := rfl
        generalize dgM m 4 = d at hst hq hd hpr
        have hdiv : (d : Int) / 16 = ((d / 16 : Nat) : Int) := by omega
        have hand : bits .and .u64 (d : Int) 15 = ((d % 16 : Nat) : Int) := and15 d (by omega)
        have hx : d / 16 < 16 := by omega
        have hy : d % 16 < 16 := by omega
        have hx' : ((d / 16 : Nat) : Int) < 16 := by omega
        have hy' : ((d % 16 : Nat) : Int) < 16 := by omega
        have hx0 : (0 : Int) ≤ ((d / 16 : Nat) : Int) := by omega
        have hy0 : (0 : Int) ≤ ((d % 16 : Nat) : Int) := by omega
        generalize d / 16 = x at *
        generalize d % 16 = y at *
        have hdx : ∀ h, (⟨#[48, 49, 50, 51, 52, 53, 54, 55, 56, 57, 97, 98, 99, 100, 101, 102]⟩ : ByteArray)[x]'h = hexC x := fun h => digs16 x hx
        have hdy : ∀ h, (⟨#[48, 49, 50, 51, 52, 53, 54, 55, 56, 57, 97, 98, 99, 100, 101, 102]⟩ : ByteArray)[y]'h = hexC y := fun h => digs16 y hy
        rw [hpr] at hst
        clear hpr
        have hcv1 := byte2 (hexC x) (hexC y) wr
        have hcv2 := byte2d (hexC x) (hexC y) wr
        have hadd : ∀ V, (Op.stringOp .add (baS (preM m 4)) (baS [hexC x, hexC y])).run Tryd.prog V = .ok (.string (baS (preM m 4 ++ [hexC x, hexC y]))) V := addS _ _ (by omega) (by simp)
        have hadd2 : ∀ V, (Op.stringOp .add (baS (preM m 4 ++ [hexC x, hexC y])) ⟨#[58]⟩).run Tryd.prog V = .ok (.string (baS (preM m 4 ++ [hexC x, hexC y] ++ [58]))) V := addS _ [58] (by simp; omega) (by simp)
        have HS := Lib.hid hst
        clear hst hlen
        generalize preM m 4 = s at *
        go_upto_region 28 with fail
        go_region
        go_wp2
        go_roundw
        case rel => exact ⟨5, by omega, by rw [HS.out, List.append_assoc]; rfl, by go_num, (by first | exact ball hb | exact ball (Below.drew hb) | exact Below.drew (ball hb))⟩
        case measure => simp [intOf]
      · have e5 : (5 : Int) - ((5 : Nat) : Int) = 0 := rfl
        rw [e5]
        have hst : preM m 6 = preM m 5 ++ pairS (dgM m 5) ++ [] := rfl
        have hq : bits .and .u64 (m : Int) 255 = ((dgM m 5 : Nat) : Int) := by have := dgM_and m 5 1 HX.out rfl; rwa [show ((1 : Nat) : Int) = 1 from rfl, Int.ediv_one] at this
        have hd := dgM_lt m 5
        have hpr : pairS (dgM m 5) = [hexC (dgM m 5 / 16), hexC (dgM m 5 % 16)] := rfl
        generalize dgM m 5 = d at hst hq hd hpr
        have hdiv : (d : Int) / 16 = ((d / 16 : Nat) : Int) := by omega
        have hand : bits .and .u64 (d : Int) 15 = ((d % 16 : Nat) : Int) := and15 d (by omega)
        have hx : d / 16 < 16 := by omega
        have hy : d % 16 < 16 := by omega
        have hx' : ((d / 16 : Nat) : Int) < 16 := by omega
        have hy' : ((d % 16 : Nat) : Int) < 16 := by omega
        have hx0 : (0 : Int) ≤ ((d / 16 : Nat) : Int) := by omega
        have hy0 : (0 : Int) ≤ ((d % 16 : Nat) : Int) := by omega
        generalize d / 16 = x at *
        generalize d % 16 = y at *
        have hdx : ∀ h, (⟨#[48, 49, 50, 51, 52, 53, 54, 55, 56, 57, 97, 98, 99, 100, 101, 102]⟩ : ByteArray)[x]'h = hexC x := fun h => digs16 x hx
        have hdy : ∀ h, (⟨#[48, 49, 50, 51, 52, 53, 54, 55, 56, 57, 97, 98, 99, 100, 101, 102]⟩ : ByteArray)[y]'h = hexC y := fun h => digs16 y hy
        rw [hpr] at hst
        clear hpr
        have hcv1 := byte2 (hexC x) (hexC y) wr
        have hcv2 := byte2d (hexC x) (hexC y) wr
        have hadd : ∀ V, (Op.stringOp .add (baS (preM m 5)) (baS [hexC x, hexC y])).run Tryd.prog V = .ok (.string (baS (preM m 5 ++ [hexC x, hexC y]))) V := addS _ _ (by omega) (by simp)
        have HS := Lib.hid hst
        clear hst hlen
        generalize preM m 5 = s at *
        go_upto_region 28 with fail
        go_region
        go_wp2
        go_roundw
        case rel => exact ⟨6, by omega, by rw [HS.out, List.append_nil], by go_num, (by first | exact ball hb | exact ball (Below.drew hb) | exact Below.drew (ball hb))⟩
        case measure => simp [intOf]
    · obtain rfl : j = 6 := by omega
      have e6 := preM_6 m
      have HE := Lib.hid e6
      clear e6
      have e5 : (5 : Int) - ((6 : Nat) : Int) = -1 := rfl
      rw [e5]
      go_wp2
      go_ret2
      exact ⟨by rw [HE.out]; rfl, hb⟩
theorem refPrintM_x (m : Nat) (w : World) :
    Calls Tryd.prog 10 #[.int .u64 m] w fun e w' => e = .returned (tellMR m) ∧ Below w.heap.size w w' := by
  unfold tellMR
  by_cases h : m < 281474976710656
  · rw [if_pos h]; exact refPrintM_yes m w h
  · rw [if_neg h]; exact refPrintM_no m w (by omega)
end Go.Proofs.YtmnemjhkmllniaaDoor
