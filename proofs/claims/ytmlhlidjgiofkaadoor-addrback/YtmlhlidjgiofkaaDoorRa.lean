/- The checker's own address functions (gleberef1): Ok, Text, hex and group; of the strings only their size is told. -/
import Derived.Test.YtmlhlidjgiofkaaDoorTp
namespace Go.Proofs.YtmlhlidjgiofkaaDoor
open Go.ChangeShapes Go.WideShapes Go.RowKit Go.Sort

/-- The bytes of a string value, counted. -/
def sizeOfS : Value → Nat
  | .string b => b.size
  | _ => 0
theorem baS_size (l : Bs) : (baS l).size = l.length := by simp [baS, ByteArray.size]
/-- A string of at most n bytes. -/
def Told (n : Nat) (e : Ending) : Prop := ∃ s : Bs, e = .returned (.string (baS s)) ∧ s.length ≤ n
theorem byteI (w : World) (z : Int) (h0 : 0 ≤ z) (h1 : z < 256) : ∃ c : UInt8, (convert 79 9 (.slice (some ⟨w.heap.size, 0, none⟩) 1 1)).run Tryd.prog (w.alloc (.cells #[.int .u8 z] 5)) = .ok (.string (baS [c])) (w.alloc (.cells #[.int .u8 z] 5)) := by
  refine ⟨UInt8.ofNat z.toNat, ?_⟩
  refine run_convert_bytes_back (P := Tryd.prog) _ 79 9 5 ⟨w.heap.size, 0, none⟩ 1 [UInt8.ofNat z.toNat] Tryd.underlying79 Tryd.underlying5 Tryd.underlying9 (fun j hj => ?_)
  obtain rfl : j = 0 := by simpa using hj
  simp [go_sem]
  omega
theorem ne_listR {t : Bs} (h : t ≠ []) : (baS t).toList.isEmpty = false := by
  rw [← decide_eq_emptyBytes]
  exact decide_eq_false (fun e => h (by have := congrArg (fun b : ByteArray => b.data.toList) e; simpa [baS] using this))
set_option maxHeartbeats 4000000 in
set_option maxRecDepth 100000 in
theorem refText_x (n : Nat) (w : World) (hn : n < 256) :
    Calls Tryd.prog 37 #[.int .u64 n] w fun e w' => Told 3 e ∧ Below w.heap.size w w' := by
  have HN := Lib.hid hn
  clear hn
  go_enter Tryd.func37, Tryd.ntmps37
  go_wp2
  go_loopw [0, 3] (fun nv sv wr => ∃ (m k : Nat) (s : Bs), k ≤ 3 ∧ nv = .int .u64 m ∧ sv = .string (baS s) ∧ Hid (m * 10 ^ k < 256 ∧ s.length = k) ∧ Below w.heap.size w wr)
    (fun _ sv _ => 4 - sizeOfS sv)
  case atStart => exact ⟨n, 0, [], by omega, rfl, rfl, ⟨by simpa using HN.out, rfl⟩, Below.refl _ _⟩
  case round =>
    obtain ⟨m, k, s, hk, rfl, rfl, hh, hb⟩ := hrel
    by_cases hm : 0 < m
    · have hm' : (0 : Int) < m := by omega
      have hm2 : m < 256 := Nat.lt_of_le_of_lt (Nat.le_mul_of_pos_right m (Nat.pow_pos (by decide))) hh.out.1
      obtain ⟨c, hcv⟩ := byteI wr (48 + (m : Int) % 10) (by omega) (by omega)
      have hadd : ∀ V, (Op.stringOp .add (baS [c]) (baS s)).run Tryd.prog V = .ok (.string (baS (c :: s))) V := addS [c] s (by simp) (by have := hh.out.2; omega)
      go_wp2
      go_roundw
      case rel =>
        obtain ⟨h1, h2⟩ := hh.out
        have hk3 : k < 3 := by
          rcases Nat.lt_or_ge k 3 with h | h
          · exact h
          · obtain rfl : k = 3 := by omega
            omega
        refine ⟨m / 10, k + 1, c :: s, by omega, by go_num, rfl, ⟨?_, by simp [h2]⟩, ball hb⟩
        rw [Nat.pow_succ]
        exact Nat.lt_of_le_of_lt (by rw [Nat.mul_comm (10 ^ k) 10, ← Nat.mul_assoc]; exact Nat.mul_le_mul_right _ (Nat.div_mul_le_self m 10)) h1
      case measure => have := hh.out.2; simp [sizeOfS, baS_size]; omega
    · obtain rfl : m = 0 := by omega
      by_cases hs : s = []
      · subst hs
        have e0 : baS [] = ⟨#[]⟩ := rfl
        rw [e0]
        obtain ⟨c, hcv⟩ := byteI wr 48 (by omega) (by omega)
        have hadd : ∀ V, (Op.stringOp .add (baS [c]) ⟨#[]⟩).run Tryd.prog V = .ok (.string (baS [c])) V := addS [c] [] (by simp) (by simp)
        go_wp2
        go_roundw
        case rel =>
          obtain ⟨h1, h2⟩ := hh.out
          obtain rfl : k = 0 := by simpa using h2.symm
          exact ⟨0, 1, [c], by omega, by go_num, rfl, ⟨by decide, rfl⟩, ball hb⟩
        case measure => simp [sizeOfS, baS_size]; decide
      · have hq := ne_listR hs
        go_wp2
        go_ret
        exact ⟨⟨s, rfl, by rw [hh.out.2]; exact hk⟩, hb⟩
def digsR : ByteArray := ⟨#[48, 49, 50, 51, 52, 53, 54, 55, 56, 57, 97, 98, 99, 100, 101, 102]⟩
theorem digs16 : ∀ d, (h : d < 16) → digsR[d]'(by show d < 16; omega) = hexC d := by decide
set_option maxHeartbeats 4000000 in
set_option maxRecDepth 100000 in
theorem refHex_x (n : Nat) (w : World) (hn : n < 65536) :
    Calls Tryd.prog 39 #[.int .u64 n] w fun e w' => Told 4 e ∧ Below w.heap.size w w' := by
  have HN := Lib.hid hn
  clear hn
  go_enter Tryd.func39, Tryd.ntmps39
  go_wp2
  go_loopw [0, 3] (fun nv sv wr => ∃ (m k : Nat) (s : Bs), k ≤ 4 ∧ nv = .int .u64 m ∧ sv = .string (baS s) ∧ Hid (m * 16 ^ k < 65536 ∧ s.length = k) ∧ Below w.heap.size w wr)
    (fun _ sv _ => 5 - sizeOfS sv)
  case atStart => exact ⟨n, 0, [], by omega, rfl, rfl, ⟨by simpa using HN.out, rfl⟩, Below.refl _ _⟩
  case round =>
    obtain ⟨m, k, s, hk, rfl, rfl, hh, hb⟩ := hrel
    by_cases hm : 0 < m
    · have hm' : (0 : Int) < m := by omega
      have hm16 : m < 65536 := Nat.lt_of_le_of_lt (Nat.le_mul_of_pos_right m (Nat.pow_pos (by decide))) hh.out.1
      have ha := and15 m hm16
      have hlt : m % 16 < 16 := Nat.mod_lt _ (by decide)
      have hlt' : ((m % 16 : Nat) : Int) < 16 := by omega
      have hge : (0 : Int) ≤ ((m % 16 : Nat) : Int) := by omega
      generalize m % 16 = d at ha hlt hlt' hge
      have hdg : ∀ h, (⟨#[48, 49, 50, 51, 52, 53, 54, 55, 56, 57, 97, 98, 99, 100, 101, 102]⟩ : ByteArray)[d]'h = hexC d := fun h => digs16 d hlt
      obtain ⟨c, hcv⟩ := byteI wr ((hexC d).toNat : Int) (by omega) (by have := (hexC d).toNat_lt; omega)
      have hadd : ∀ V, (Op.stringOp .add (baS [c]) (baS s)).run Tryd.prog V = .ok (.string (baS (c :: s))) V := addS [c] s (by simp) (by have := hh.out.2; omega)
      go_wp2
      go_roundw
      case rel =>
        obtain ⟨h1, h2⟩ := hh.out
        have hk4 : k < 4 := by
          rcases Nat.lt_or_ge k 4 with h | h
          · exact h
          · obtain rfl : k = 4 := by omega
            omega
        refine ⟨m / 16, k + 1, c :: s, by omega, by go_num, rfl, ⟨?_, by simp [h2]⟩, ball hb⟩
        rw [Nat.pow_succ]
        exact Nat.lt_of_le_of_lt (by rw [Nat.mul_comm (16 ^ k) 16, ← Nat.mul_assoc]; exact Nat.mul_le_mul_right _ (Nat.div_mul_le_self m 16)) h1
      case measure => have := hh.out.2; simp [sizeOfS, baS_size]; omega
    · obtain rfl : m = 0 := by omega
      by_cases hs : s = []
      · subst hs
        have e0 : baS [] = ⟨#[]⟩ := rfl
        rw [e0]
        have ha0 : bits BinOp.and IntKind.u64 0 15 = 0 := by decide +kernel
        have ix0' : ∀ h, (⟨#[48, 49, 50, 51, 52, 53, 54, 55, 56, 57, 97, 98, 99, 100, 101, 102]⟩ : ByteArray)[0]'h = 48 := fun h => rfl
        obtain ⟨c, hcv⟩ := byteI wr 48 (by omega) (by omega)
        have hadd : ∀ V, (Op.stringOp .add (baS [c]) ⟨#[]⟩).run Tryd.prog V = .ok (.string (baS [c])) V := addS [c] [] (by simp) (by simp)
        go_wp2
        go_roundw
        case rel =>
          obtain ⟨h1, h2⟩ := hh.out
          obtain rfl : k = 0 := by simpa using h2.symm
          exact ⟨0, 1, [c], by omega, by go_num, rfl, ⟨by decide, rfl⟩, ball hb⟩
        case measure => simp [sizeOfS, baS_size]; decide
      · have hq := ne_listR hs
        go_wp2
        go_ret
        exact ⟨⟨s, rfl, by rw [hh.out.2]; exact hk⟩, hb⟩
end Go.Proofs.YtmlhlidjgiofkaaDoor
