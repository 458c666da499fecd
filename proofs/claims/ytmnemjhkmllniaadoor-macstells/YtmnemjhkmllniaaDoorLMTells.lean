/- MacsTells: for any bytes, number, place and byte the law answers true. -/
import Derived.Test.YtmnemjhkmllniaaDoorLMOne
namespace Go.Proofs.YtmnemjhkmllniaaDoor
open Go.ChangeShapes Go.WideShapes Go.RowKit Go.Sort

theorem byteU (V : World) (c : UInt8) : (convert 32 9 (.slice (some ⟨V.heap.size, 0, none⟩) 1 1)).run Tryd.prog (V.alloc (.cells #[.int .u8 c.toNat] 5)) = .ok (.string (baS [c])) (V.alloc (.cells #[.int .u8 c.toNat] 5)) := byteC V c _ rfl
theorem byteAt (V : World) (g : Nat) (c : UInt8) (h : V.cell? ⟨g, 0, none⟩ = some (.int .u8 c.toNat)) : (convert 32 9 (.slice (some ⟨g, 0, none⟩) 1 1)).run Tryd.prog V = .ok (.string (baS [c])) V := by
  refine run_convert_bytes_back (P := Tryd.prog) _ 32 9 5 ⟨g, 0, none⟩ 1 [c] Tryd.underlying32 Tryd.underlying5 Tryd.underlying9 (fun j hj => ?_)
  obtain rfl : j = 0 := by simpa using hj
  exact h
theorem macR_parts (r : Option Nat) : ∃ (n : Int) (b : Bool), macR r = .tuple #[.int .u64 n, .bool b] := by
  cases r with
  | none => exact ⟨_, _, rfl⟩
  | some n => exact ⟨_, _, rfl⟩
theorem tellMR_parts (m : Nat) : ∃ (s : ByteArray) (b : Bool), tellMR m = .tuple #[.string s, .bool b] := by
  unfold tellMR; split
  · exact ⟨_, _, rfl⟩
  · exact ⟨_, _, rfl⟩
theorem parseM_b (s : Bs) (w : World) (hg : Gl w) (hs : s.length ≤ 100000) :
    Calls Tryd.prog 6 #[.string (baS s)] w fun e w' => e = .returned (macR (macV s)) ∧ Below w.heap.size w w' := parseM_x (baS s) w hg (show s.length < 4294967281 by omega)
/-- The six texts lie in block b, each of at most 200 bytes. -/
def Six (w : World) (b : Nat) (l : List Bs) : Prop := (∀ (j : Nat) (x : Bs), l[j]? = some x → w.cell? ⟨b, j, none⟩ = some (.string (baS x))) ∧ b < w.heap.size
theorem Six.below {w w' : World} {b : Nat} {l : List Bs} (h : Six w b l) (hb : Below w.heap.size w w') : Six w' b l := by
  obtain ⟨k, hl⟩ := keep hb b h.2
  exact ⟨fun j x hj => (k j).trans (h.1 j x hj), hl⟩
set_option maxHeartbeats 8000000 in
set_option maxRecDepth 100000 in
theorem mtells_walk (p : Option Addr) (l : Bs) (cap : Nat) (n at_ by_ : Int) (w : World) (hg : Gl w) (hr : BytesAt w p l) (hn : 0 ≤ n ∧ n < 18446744073709551616) (hby : 0 ≤ by_ ∧ by_ < 256) :
    Calls Tryd.prog 5 #[.slice p l.length cap, .int .u64 n, .int .i64 at_, .int .u8 by_] w fun e w' => e = .returned (.bool true) ∧ Below w.heap.size w w' := by
  have HG := Lib.hid hg
  by_cases hl : 100 < l.length
  · have hl' : (100 : Int) < l.length := by omega
    clear hr hn hby hl hg
    go_enter Tryd.func5, Tryd.ntmps5
    go_wp2_with fail
    refine (awake5_x _ HG.out).mono ?_
    rintro e w1 ⟨rfl, B1⟩
    go_wp2
    go_ret
    exact ⟨rfl, B1⟩
  · have hl' : ¬ (100 : Int) < l.length := by omega
    obtain ⟨a, rfl⟩ := Int.eq_ofNat_of_zero_le hn.1
    obtain ⟨b, hb8⟩ : ∃ b : UInt8, by_ = b.toNat := ⟨UInt8.ofNat by_.toNat, by simp; omega⟩
    subst hb8
    have ha : a < 18446744073709551616 := by omega
    have hand := and48 a ha
    have hM : a % 281474976710656 < 281474976710656 := Nat.mod_lt _ (by decide)
    generalize a % 281474976710656 = M at hand hM
    obtain ⟨q, hq, hqe⟩ : ∃ q : Nat, q < 17 ∧ (bits BinOp.and IntKind.i64 at_ 255).tmod 17 = (q : Int) := by
      rw [i64_and255, Int.tmod_eq_emod_of_nonneg (by omega)]
      exact ⟨(at_ % 256 % 17).toNat, by omega, by omega⟩
    have HP := Lib.hid (fun w => refPrintM_yes M w hM)
    have hlen := tellM_len M
    have HB := Lib.hid (mac_back M hM)
    have HPm := Lib.hid (fun w hg => printM_x a w hg ha)
    have HPr := Lib.hid (fun w => refPrintM_x a w)
    obtain ⟨x1, b1, e1⟩ := tellMR_parts a
    rw [e1] at HPm HPr
    generalize tellM M = s at *
    have hsz : (baS s).size = 17 := by rw [baS_len]; exact hlen
    have HR := Lib.hid hr
    have HL := Lib.hid hl
    clear hg hn hby hM ha e1 hr hl
    go_enter Tryd.func5, Tryd.ntmps5
    go_wp2_with fail
    refine (HP.out _).mono ?_
    rintro e w1 ⟨rfl, B1⟩
    clear HP
    have hq0 : (0 : Int) ≤ q := by omega
    have hq17 : (q : Int) < 17 := by omega
    have hsl1 := sliceTo s q (by omega)
    have hsl2 : ∀ V, (Instr.slice 9 (.string (baS s)) (some (.int .i64 ((q : Int) + 1))) none none).run Tryd.prog V = .ok (.string (baS (s.drop (q + 1)))) V := fun V => by
      have := sliceFrom s (q + 1) (by omega) V
      rw [show ((q + 1 : Nat) : Int) = (q : Int) + 1 by omega] at this; exact this
    have hwq : IntKind.i64.wrap ((q : Int) + 1) = (q : Int) + 1 := by rw [IntKind.wrap_i64]; omega
    have hadd1 : ∀ V, (Op.stringOp .add (baS (s.take q)) (baS [b])).run Tryd.prog V = .ok (.string (baS (s.take q ++ [b]))) V := addS _ [b] (by rw [List.length_take]; omega) (by simp)
    have hadd2 : ∀ V, (Op.stringOp .add (baS (s.take q ++ [b])) (baS (s.drop (q + 1)))).run Tryd.prog V = .ok (.string (baS (turnS s q b))) V := addS _ _ (by rw [List.length_append, List.length_take]; simp; omega) (by rw [List.length_drop]; omega)
    have hadd3 : ∀ V, (Op.stringOp .add (baS (s.take q)) ⟨#[65]⟩).run Tryd.prog V = .ok (.string (baS (s.take q ++ [65]))) V := addS _ [65] (by rw [List.length_take]; omega) (by simp)
    have hadd4 : ∀ V, (Op.stringOp .add (baS (s.take q ++ [65])) (baS (s.drop (q + 1)))).run Tryd.prog V = .ok (.string (baS (turnS s q 65))) V := addS _ _ (by rw [List.length_append, List.length_take]; simp; omega) (by rw [List.length_drop]; omega)
    have hadd5 : ∀ V, (Op.stringOp .add (baS s) (baS [b])).run Tryd.prog V = .ok (.string (baS (s ++ [b]))) V := addS _ [b] (by omega) (by simp)
    have hsa : (w1.alloc (.cells #[.int .u8 b.toNat] 5)).heap.size = w1.heap.size + 1 := by simp
    have hconv := conv_bytes cap (HR.out.below B1)
    have hconv1 := conv_bytes cap (HR.out.below (Below.drew B1))
    have hconv2 := conv_bytes cap (HR.out.below (Below.drew (ball (o := .cells #[.int .u8 b.toNat] 5) B1)))
    have hconv3 := conv_bytes cap (HR.out.below (Below.drew (ball (o := .cells #[.int .u8 b.toNat] 5) (ball (o := .cells #[.int .u8 b.toNat] 5) B1))))
    have hcv1 := byteD w1 b _ rfl
    have hcv2 := byteD (w1.alloc (.cells #[.int .u8 b.toNat] 5)) b _ rfl
    rw [hsa] at hcv2
    clear hsa
    have hcv3 := byteAt ((w1.alloc (.cells #[.int .u8 b.toNat] 5)).alloc (.cells #[.int .u8 b.toNat] 5)).drew w1.heap.size b (by show ((w1.alloc (.cells #[.int .u8 b.toNat] 5)).alloc (.cells #[.int .u8 b.toNat] 5)).cell? _ = _; simp [go_sem])
    have HLen : Hid (∀ x ∈ [l, s, turnS s q b, s.take q, turnS s q 65, s ++ [b]], x.length ≤ 100000) := by
      intro x hx
      have := HL.out
      simp only [List.mem_cons, List.not_mem_nil, or_false] at hx
      rcases hx with rfl | rfl | rfl | rfl | rfl | rfl
      · omega
      · omega
      · unfold turnS; simp; omega
      · simp; omega
      · unfold turnS; simp; omega
      · simp; omega
    clear hlen HR HL
    generalize turnS s q b = t1 at *
    generalize turnS s q 65 = t2 at *
    generalize s.take q = t3 at *
    generalize s ++ [b] = t4 at *
    go_upto_region 71 with fail
    go_cut [71, 72, 73] (fun sv lv iv wx => sv = .slice (some ⟨w1.heap.size + 2, 0, none⟩) 6 6 ∧ lv = .int .i64 6 ∧ iv = .int .i64 0 ∧ wx = (((w1.alloc (.cells #[.int .u8 b.toNat] 5)).alloc (.cells #[.int .u8 b.toNat] 5)).alloc (.cells #[.string (baS l), .string (baS s), .string (baS t1), .string (baS t3), .string (baS t2), .string (baS t4)] 9)).drew)
    case first =>
      go_region
      all_goals
        go_wp2_with fail
        go_meet
      all_goals exact ⟨rfl, rfl, rfl, rfl⟩
    case rest =>
      obtain ⟨rfl, rfl, rfl, hw⟩ := hcut
      have BX : Below w.heap.size w wc := by rw [hw]; exact Below.drew (ball (ball (ball B1)))
      have S6 : Six wc (w1.heap.size + 2) [l, s, t1, t3, t2, t4] := by
        rw [hw]
        refine ⟨fun j x hj => ?_, ?_⟩
        · show (((w1.alloc (.cells #[.int .u8 b.toNat] 5)).alloc (.cells #[.int .u8 b.toNat] 5)).alloc (.cells #[.string (baS l), .string (baS s), .string (baS t1), .string (baS t3), .string (baS t2), .string (baS t4)] 9)).cell? _ = _
          match j, hj with
          | 0, hj => cases hj; simp [go_sem]
          | 1, hj => cases hj; simp [go_sem]
          | 2, hj => cases hj; simp [go_sem]
          | 3, hj => cases hj; simp [go_sem]
          | 4, hj => cases hj; simp [go_sem]
          | 5, hj => cases hj; simp [go_sem]
          | j + 6, hj => simp at hj
        · show _ < (((w1.alloc (.cells #[.int .u8 b.toNat] 5)).alloc (.cells #[.int .u8 b.toNat] 5)).alloc (.cells #[.string (baS l), .string (baS s), .string (baS t1), .string (baS t3), .string (baS t2), .string (baS t4)] 9)).heap.size
          simp
      have hL6 : [l, s, t1, t3, t2, t4].length = 6 := rfl
      generalize [l, s, t1, t3, t2, t4] = L at HLen S6 hL6
      have HS6 := Lib.hid S6
      generalize w1.heap.size + 2 = G at HS6
      clear hw S6 B1 hconv hconv1 hconv2 hconv3 hcv1 hcv2 hcv3 hadd1 hadd2 hadd3 hadd4 hadd5 hsl1 hsl2 hqe hq hq0 hq17 hwq
      go_wp2_with fail
      go_loopw [73] (fun iv wr => ∃ (k : Nat), k ≤ 6 ∧ iv = .int .i64 k ∧ Below wc.heap.size wc wr)
        (fun iv _ => 6 - (intOf iv).toNat)
      case atStart => exact ⟨0, by omega, rfl, Below.refl _ _⟩
      case round =>
        obtain ⟨k, hk, rfl, hb⟩ := hrel
        by_cases hk6 : k < 6
        · have hk6' : (k : Int) < 6 := by omega
          have hkL : k < L.length := by omega
          have hcell := (HS6.out.below hb).1 k _ (List.getElem?_eq_getElem hkL)
          have hxl := HLen.out _ (List.getElem_mem hkL)
          generalize L[k]'hkL = x at hcell hxl
          obtain ⟨n1, c1, er⟩ := macR_parts (macV x)
          have K1 := Lib.hid (fun w hg => parseM_b x w hg hxl)
          have K2 := Lib.hid (fun w => refMac_x x w hxl)
          rw [er] at K1 K2
          have K3 := Lib.hid (fun w => nameM_x x w (by omega))
          have K4 := Lib.hid (fun w => refName_x x w (by omega))
          generalize nameV x = nb at K3 K4
          have HB0 := Lib.hid (below_next BX hb)
          clear er hxl hkL
          go_wp2_with fail
          refine (K1.out _ (HG.out.below HB0.out)).mono ?_
          rintro e w2 ⟨rfl, hb2⟩
          go_wp2_with fail
          refine (K2.out _).mono ?_
          rintro e w3 ⟨rfl, hb3⟩
          go_wp2_with fail
          refine (K3.out _).mono ?_
          rintro e w4 ⟨rfl, rfl⟩
          go_wp2_with fail
          refine (K4.out _).mono ?_
          rintro e w5 ⟨rfl, rfl⟩
          go_wp2
          go_roundw
          case rel => exact ⟨k + 1, by omega, by go_num, below_next (below_next hb hb2) hb3⟩
          case measure => simp [intOf]; omega
        · obtain rfl : k = 6 := by omega
          have HP2 : Hid (∀ w, Gl w → Calls Tryd.prog 6 #[.string (baS s)] w fun e w' => e = .returned (.tuple #[.int .u64 (M : Nat), .bool true]) ∧ Below w.heap.size w w') := fun w hg =>
            parseM_is (baS s) (some M) w hg (by omega) HB.out
          have B5 := below_next BX hb
          clear hb hk hk6
          go_wp2_with fail
          refine (HPm.out _ (HG.out.below B5)).mono ?_
          rintro e w2 ⟨rfl, hb2⟩
          have B6 := below_next B5 hb2
          go_wp2_with fail
          refine (HPr.out _).mono ?_
          rintro e w3 ⟨rfl, hb3⟩
          have B7 := below_next B6 hb3
          go_wp2_with fail
          refine (HP2.out _ (HG.out.below B7)).mono ?_
          rintro e w4 ⟨rfl, hb4⟩
          have B8 := below_next B7 hb4
          clear B5 B6 B7 hb2 hb3 hb4
          go_wp2_with fail
          refine (awake5_x _ (HG.out.below B8)).mono ?_
          rintro e w5 ⟨rfl, hb5⟩
          go_wp2
          go_ret
          exact ⟨rfl, below_next B8 hb5⟩
end Go.Proofs.YtmnemjhkmllniaaDoor
