/- The checker's own Text, hex and group, told exactly. -/
import Derived.Test.YtmnemjhkmllniaaGreatDoorzAm
import Derived.Test.YtmnemjhkmllniaaGreatDoorzTp
namespace Go.Proofs.YtmnemjhkmllniaaGreatDoor
open Go.ChangeShapes Go.WideShapes Go.RowKit Go.Sort

theorem baS_len (l : Bs) : (baS l).size = l.length := by simp [baS, ByteArray.size]
def sizeS : Value → Nat
  | .string b => b.size
  | _ => 0
theorem byteE (w : World) (k : Nat) (h1 : k < 256) : (convert 22 9 (.slice (some ⟨w.heap.size, 0, none⟩) 1 1)).run Tryz.prog (w.alloc (.cells #[.int .u8 k] 5)) = .ok (.string (baS [UInt8.ofNat k])) (w.alloc (.cells #[.int .u8 k] 5)) := by
  refine run_convert_bytes_back (P := Tryz.prog) _ 22 9 5 ⟨w.heap.size, 0, none⟩ 1 [UInt8.ofNat k] Tryz.underlying22 Tryz.underlying5 Tryz.underlying9 (fun j hj => ?_)
  obtain rfl : j = 0 := by simpa using hj
  simp [go_sem]
  omega
theorem ne_listS {t : Bs} (h : t ≠ []) : (baS t).toList.isEmpty = false := by
  rw [← decide_eq_emptyBytes]
  exact decide_eq_false (fun e => h (by have := congrArg (fun b : ByteArray => b.data.toList) e; simpa [baS] using this))
set_option maxHeartbeats 4000000 in
set_option maxRecDepth 100000 in
theorem textE_x (n : Nat) (w : World) (hn : n < 256) :
    Calls Tryz.prog 51 #[.int .u64 n] w fun e w' => e = .returned (.string (baS (decS n))) ∧ Below w.heap.size w w' := by
  have HN := Lib.hid hn
  clear hn
  go_enter Tryz.func51, Tryz.ntmps51
  go_wp2
  go_loopw [0, 3] (fun nv sv wr => ∃ (m : Nat) (s : Bs), nv = .int .u64 m ∧ sv = .string (baS s) ∧ Hid (m < 256 ∧ s.length ≤ 3 ∧ m * 10 ^ s.length < 256 ∧ ((s = [] ∧ m = n) ∨ (s ≠ [] ∧ dd m ++ s = decS n))) ∧ Below w.heap.size w wr)
    (fun _ sv _ => 4 - sizeS sv)
  case atStart => exact ⟨n, [], rfl, rfl, ⟨HN.out, by simp, by simpa using HN.out, Or.inl ⟨rfl, rfl⟩⟩, Below.refl _ _⟩
  case round =>
    obtain ⟨m, s, rfl, rfl, hh, hb⟩ := hrel
    by_cases hm : 0 < m
    · have hm' : (0 : Int) < m := by omega
      have hm2 : m < 256 := hh.out.1
      have hb8 := byteE wr (48 + m % 10) (by omega)
      have hcast : ((48 + m % 10 : Nat) : Int) = 48 + (m : Int) % 10 := by omega
      rw [hcast] at hb8
      have hdc : UInt8.ofNat (48 + m % 10) = decC (m % 10) := rfl
      rw [hdc] at hb8
      have hadd : ∀ V, (Op.stringOp .add (baS [decC (m % 10)]) (baS s)).run Tryz.prog V = .ok (.string (baS (decC (m % 10) :: s))) V := addS [decC (m % 10)] s (by simp) (by have := hh.out.2.1; omega)
      generalize hc : decC (m % 10) = c at *
      have HC := Lib.hid hc
      clear hcast hdc hc
      go_wp2
      go_roundw
      case rel =>
        obtain ⟨h1, h2, h3, h4⟩ := hh.out
        have hs3 : s.length < 3 := by
          rcases Nat.lt_or_ge s.length 3 with h | h
          · exact h
          · have : s.length = 3 := by omega
            rw [this] at h3; omega
        refine ⟨m / 10, c :: s, by go_num, rfl, ⟨by omega, by simp; omega, ?_, Or.inr ⟨by simp, ?_⟩⟩, ball hb⟩
        · rw [List.length_cons, Nat.pow_succ]
          exact Nat.lt_of_le_of_lt (by rw [Nat.mul_comm (10 ^ s.length) 10, ← Nat.mul_assoc]; exact Nat.mul_le_mul_right _ (Nat.div_mul_le_self m 10)) h3
        · have hd := dd_step m h1 hm
          rw [HC.out] at hd
          rcases h4 with ⟨rfl, rfl⟩ | ⟨_, h5⟩
          · rw [← dd_pos hm, hd]
          · rw [← h5, hd, List.append_assoc]; rfl
      case measure => have := hh.out.2.1; simp [sizeS, baS_len]; omega
    · obtain rfl : m = 0 := by omega
      by_cases hs : s = []
      · subst hs
        have e0 : baS [] = ⟨#[]⟩ := rfl
        rw [e0]
        have hb8 : (convert 22 9 (.slice (some ⟨wr.heap.size, 0, none⟩) 1 1)).run Tryz.prog (wr.alloc (.cells #[.int .u8 48] 5)) = .ok (.string (baS [48])) (wr.alloc (.cells #[.int .u8 48] 5)) := byteE wr 48 (by omega)
        have hadd : ∀ V, (Op.stringOp .add (baS [48]) ⟨#[]⟩).run Tryz.prog V = .ok (.string (baS [48])) V := addS [48] [] (by simp) (by simp)
        go_wp2
        go_roundw
        case rel =>
          obtain ⟨h1, h2, h3, h4⟩ := hh.out
          have hn0 : 0 = n := by
            rcases h4 with ⟨_, h⟩ | ⟨h, _⟩
            · exact h
            · exact absurd rfl h
          refine ⟨0, [48], by go_num, rfl, ⟨by omega, by simp, by simp, Or.inr ⟨by simp, ?_⟩⟩, ball hb⟩
          rw [← hn0]; rfl
        case measure => simp [sizeS, baS_len]; decide
      · have hq := ne_listS hs
        go_wp2
        go_ret
        refine ⟨?_, hb⟩
        rcases hh.out.2.2.2 with ⟨h, _⟩ | ⟨_, h⟩
        · exact absurd h hs
        · rw [← h]; rfl
def digsX : ByteArray := ⟨#[48, 49, 50, 51, 52, 53, 54, 55, 56, 57, 97, 98, 99, 100, 101, 102]⟩
theorem digsX_at : ∀ d, (h : d < 16) → digsX[d]'(by show d < 16; omega) = hexC d := by decide
theorem ofNat_toNat8 (c : UInt8) : UInt8.ofNat c.toNat = c := by simp
set_option maxHeartbeats 4000000 in
set_option maxRecDepth 100000 in
theorem hexE_x (n : Nat) (w : World) (hn : n < 65536) :
    Calls Tryz.prog 53 #[.int .u64 n] w fun e w' => e = .returned (.string (baS (hexS n))) ∧ Below w.heap.size w w' := by
  have HN := Lib.hid hn
  clear hn
  go_enter Tryz.func53, Tryz.ntmps53
  go_wp2
  go_loopw [0, 3] (fun nv sv wr => ∃ (m : Nat) (s : Bs), nv = .int .u64 m ∧ sv = .string (baS s) ∧ Hid (m < 65536 ∧ s.length ≤ 4 ∧ m * 16 ^ s.length < 65536 ∧ ((s = [] ∧ m = n) ∨ (s ≠ [] ∧ dh m ++ s = hexS n))) ∧ Below w.heap.size w wr)
    (fun _ sv _ => 5 - sizeS sv)
  case atStart => exact ⟨n, [], rfl, rfl, ⟨HN.out, by simp, by simpa using HN.out, Or.inl ⟨rfl, rfl⟩⟩, Below.refl _ _⟩
  case round =>
    obtain ⟨m, s, rfl, rfl, hh, hb⟩ := hrel
    by_cases hm : 0 < m
    · have hm' : (0 : Int) < m := by omega
      have hm16 : m < 65536 := hh.out.1
      have ha := and15 m hm16
      have hlt : m % 16 < 16 := Nat.mod_lt _ (by decide)
      have hlt' : ((m % 16 : Nat) : Int) < 16 := by omega
      have hge : (0 : Int) ≤ ((m % 16 : Nat) : Int) := by omega
      generalize hd : m % 16 = d at ha hlt hlt' hge
      have HD := Lib.hid hd
      clear hd
      have hdg : ∀ h, (⟨#[48, 49, 50, 51, 52, 53, 54, 55, 56, 57, 97, 98, 99, 100, 101, 102]⟩ : ByteArray)[d]'h = hexC d := fun h => digsX_at d hlt
      have hb8 := byteE wr (hexC d).toNat (hexC d).toNat_lt
      rw [ofNat_toNat8] at hb8
      have hadd : ∀ V, (Op.stringOp .add (baS [hexC d]) (baS s)).run Tryz.prog V = .ok (.string (baS (hexC d :: s))) V := addS [hexC d] s (by simp) (by have := hh.out.2.1; omega)
      go_wp2
      go_roundw
      case rel =>
        obtain ⟨h1, h2, h3, h4⟩ := hh.out
        have hs4 : s.length < 4 := by
          rcases Nat.lt_or_ge s.length 4 with h | h
          · exact h
          · have : s.length = 4 := by omega
            rw [this] at h3; omega
        refine ⟨m / 16, hexC d :: s, by go_num, rfl, ⟨by omega, by simp; omega, ?_, Or.inr ⟨by simp, ?_⟩⟩, ball hb⟩
        · rw [List.length_cons, Nat.pow_succ]
          exact Nat.lt_of_le_of_lt (by rw [Nat.mul_comm (16 ^ s.length) 16, ← Nat.mul_assoc]; exact Nat.mul_le_mul_right _ (Nat.div_mul_le_self m 16)) h3
        · have hd := dh_step m h1 hm
          rw [HD.out] at hd
          rcases h4 with ⟨rfl, rfl⟩ | ⟨_, h5⟩
          · rw [← dh_pos hm, hd]
          · rw [← h5, hd, List.append_assoc]; rfl
      case measure => have := hh.out.2.1; simp [sizeS, baS_len]; omega
    · obtain rfl : m = 0 := by omega
      by_cases hs : s = []
      · subst hs
        have e0 : baS [] = ⟨#[]⟩ := rfl
        rw [e0]
        have ha0 : bits BinOp.and IntKind.u64 0 15 = 0 := by decide +kernel
        have ix0' : ∀ h, (⟨#[48, 49, 50, 51, 52, 53, 54, 55, 56, 57, 97, 98, 99, 100, 101, 102]⟩ : ByteArray)[0]'h = 48 := fun h => rfl
        have hb8 : (convert 22 9 (.slice (some ⟨wr.heap.size, 0, none⟩) 1 1)).run Tryz.prog (wr.alloc (.cells #[.int .u8 48] 5)) = .ok (.string (baS [48])) (wr.alloc (.cells #[.int .u8 48] 5)) := byteE wr 48 (by omega)
        have hadd : ∀ V, (Op.stringOp .add (baS [48]) ⟨#[]⟩).run Tryz.prog V = .ok (.string (baS [48])) V := addS [48] [] (by simp) (by simp)
        go_wp2
        go_roundw
        case rel =>
          obtain ⟨h1, h2, h3, h4⟩ := hh.out
          have hn0 : 0 = n := by
            rcases h4 with ⟨_, h⟩ | ⟨h, _⟩
            · exact h
            · exact absurd rfl h
          refine ⟨0, [48], by go_num, rfl, ⟨by omega, by simp, by simp, Or.inr ⟨by simp, ?_⟩⟩, ball hb⟩
          rw [← hn0]; rfl
        case measure => simp [sizeS, baS_len]; decide
      · have hq := ne_listS hs
        go_wp2
        go_ret
        refine ⟨?_, hb⟩
        rcases hh.out.2.2.2 with ⟨h, _⟩ | ⟨_, h⟩
        · exact absurd h hs
        · rw [← h]; rfl
set_option maxHeartbeats 4000000 in
set_option maxRecDepth 100000 in
theorem groupE_x (x k : Nat) (w : World) (hx : x < 340282366920938463463374607431768211456) (hk : k < 8) :
    Calls Tryz.prog 54 #[.agg #[.int .u64 (hiQ x), .int .u64 (loQ x)], .int .i64 k] w fun e w' => e = .returned (.int .u64 (gi x k : Int)) ∧ Below w.heap.size w w' := by
  have HX := Lib.hid hx
  clear hx
  rcases (show k = 0 ∨ k = 1 ∨ k = 2 ∨ k = 3 ∨ k = 4 ∨ k = 5 ∨ k = 6 ∨ k = 7 by omega) with rfl | rfl | rfl | rfl | rfl | rfl | rfl | rfl
  all_goals
    clear hk
    go_enter Tryz.func54, Tryz.ntmps54
    go_wp2
    go_ret
    refine ⟨?_, (Below.refl _ _).alloc (Nat.le_refl _) _⟩
  · exact congrArg (fun z => Ending.returned (.int .u64 z)) (gi_hi x 281474976710656 0 HX.out rfl)
  · exact congrArg (fun z => Ending.returned (.int .u64 z)) (gi_hi x 4294967296 1 HX.out rfl)
  · exact congrArg (fun z => Ending.returned (.int .u64 z)) (gi_hi x 65536 2 HX.out rfl)
  · have := gi_hi x 1 3 HX.out (by rw [Nat.div_one]; rfl)
    rw [show (((1 : Nat) : Int)) = 1 from rfl, Int.ediv_one] at this
    exact congrArg (fun z => Ending.returned (.int .u64 z)) this
  · exact congrArg (fun z => Ending.returned (.int .u64 z)) (gi_lo x 281474976710656 4 rfl)
  · exact congrArg (fun z => Ending.returned (.int .u64 z)) (gi_lo x 4294967296 5 rfl)
  · exact congrArg (fun z => Ending.returned (.int .u64 z)) (gi_lo x 65536 6 rfl)
  · have := gi_lo x 1 7 (by rw [Nat.div_one]; rfl)
    rw [show (((1 : Nat) : Int)) = 1 from rfl, Int.ediv_one] at this
    exact congrArg (fun z => Ending.returned (.int .u64 z)) this
end Go.Proofs.YtmnemjhkmllniaaGreatDoor
