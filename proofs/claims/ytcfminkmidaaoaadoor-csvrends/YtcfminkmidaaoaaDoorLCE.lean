/- CsvrEnds: however many records and fields, whichever ends, the law answers true. -/
import Derived.Test.YtcfminkmidaaoaaDoorVx
import Derived.Test.YtcfminkmidaaoaaDoorVy
import Derived.Test.YtcfminkmidaaoaaDoorTl
import Derived.Test.YtcfminkmidaaoaaDoorRg2
import Derived.BigRegion
import Derived.Deep.DeepCutAuto
namespace Go.Proofs.YtcfminkmidaaoaaDoor
open Go.ChangeShapes Go.WideShapes Go.RowKit Go.Sort
theorem i64_and7 (n : Int) : bits .and .i64 n 7 = n % 8 := by
  have h255 : (BitVec.ofInt 64 7).toNat = 2 ^ 3 - 1 := by decide
  have h : (BitVec.ofInt 64 n &&& BitVec.ofInt 64 7).toNat = (n % ((2 ^ 64 : Nat) : Int)).toNat % 2 ^ 3 := by
    rw [BitVec.toNat_and, BitVec.toNat_ofInt, h255, Nat.and_two_pow_sub_one_eq_mod]
  show IntKind.i64.wrap ((BitVec.ofInt 64 n &&& BitVec.ofInt 64 7).toNat : Nat) = n % 8
  rw [h, IntKind.wrap_i64]
  omega
set_option maxRecDepth 100000 in
theorem conv2 {V : World} {g : Nat} {x y : UInt8} (h0 : V.cell? ⟨g, 0, none⟩ = some (.int .u8 (x.toNat : Int))) (h1 : V.cell? ⟨g, 1, none⟩ = some (.int .u8 (y.toNat : Int))) : (convert 29 9 (.slice (some ⟨g, 0, none⟩) 2 2)).run Tryd.prog V = .ok (.string (baS [x, y])) V := by
  have hb : BytesAt V (some ⟨g, 0, none⟩) [x, y] := fun j b hj => by
    match j, hj with
    | 0, hj => cases hj; exact ⟨_, rfl, World.block_lt_of_cell? _ _ h0, by rw [addr_at]; exact h0⟩
    | 1, hj => cases hj; exact ⟨_, rfl, World.block_lt_of_cell? _ _ h0, by rw [addr_at]; exact h1⟩
  exact conv_bytes 2 hb
theorem u8_97 {i : Nat} (h : i < 100) : IntKind.u8.wrap (97 + (i : Int)) = ((UInt8.ofNat (97 + i)).toNat : Int) ∧ (97 + (i : Int)) % 256 = ((UInt8.ofNat (97 + i)).toNat : Int) := by
  have e : ((UInt8.ofNat (97 + i)).toNat : Int) = 97 + (i : Int) := by simp; omega
  rw [e]
  refine ⟨?_, by omega⟩
  have : IntKind.u8.wrap (97 + (i : Int)) = (97 + (i : Int)) % 256 := by simp [IntKind.wrap, IntKind.bits, IntKind.signed]
  rw [this]; omega
set_option maxHeartbeats 16000000 in
set_option maxRecDepth 100000 in
theorem cends_row (n0 k0 z : Int) (n k : Nat) (w : World) (hg : Gl w) (hn : 1 ≤ n ∧ n ≤ 8) (hk : 1 ≤ k ∧ k ≤ 4) (hn0 : bits BinOp.and IntKind.i64 n0 7 = (n : Int) - 1) (hk0 : bits BinOp.and IntKind.i64 k0 3 = (k : Int) - 1) :
    Calls Tryd.prog 5 #[.int .i64 n0, .int .i64 k0, .int .i64 z] w fun e w' => e = .returned (.bool true) ∧ Below w.heap.size w w' := by
  have HG := Lib.hid hg
  have e1 : ((n : Int) - 1) + 1 = (n : Int) := by omega
  have e2 : ((k : Int) - 1) + 1 = (k : Int) := by omega
  have hw1 : IntKind.i64.wrap (((n : Int) - 1) + 1) = (n : Int) := by rw [IntKind.wrap_i64]; omega
  have hw2 : IntKind.i64.wrap (((k : Int) - 1) + 1) = (k : Int) := by rw [IntKind.wrap_i64]; omega
  clear hg
  go_enter Tryd.func5, Tryd.ntmps5
  go_wp2_with fail
  go_loopw [7, 8] (fun sv iv wr => ∃ es : List Bs, iv = .int .i64 (es.length : Int) ∧ es.length ≤ n ∧ sv = .string (baS (textE k es)) ∧ Hid (GoodE n es) ∧ (textE k es).length ≤ 14 * es.length ∧ Below w.heap.size w wr) (fun _ iv _ => n + 1 - intN iv)
  case atStart => exact ⟨[], rfl, Nat.zero_le _, rfl, Lib.hid (fun j e h => by simp at h), by simp [textE, rowsE, rendV], Below.refl _ _⟩
  case round =>
    obtain ⟨es, rfl, hel, rfl, hgood, htl, hb⟩ := hrel
    by_cases hlt : es.length < n
    · have hT := fun e => textE_snoc k es e
      have HT := Lib.hid hT
      clear hT
      generalize hX : textE k es = X at *
      clear hX
      generalize hi : es.length = i at *
      have HI := Lib.hid hi
      clear hi
      go_wp2_with fail
      go_loopw [7, 9] (fun sv jv wx => ∃ j : Nat, jv = .int .i64 (j : Int) ∧ j ≤ k ∧ sv = .string (baS (X ++ joinP (fun s => s) ((fieldsE k i).take j))) ∧ Below w.heap.size w wx) (fun _ jv _ => k + 1 - intN jv)
      case atStart => exact ⟨0, rfl, Nat.zero_le _, by simp [joinP], hb⟩
      case round =>
        clear hb
        obtain ⟨j, rfl, hj, rfl, hb⟩ := hrel
        have hjl := joinE_len k i j
        by_cases hjk : j < k
        · have hJ := joinP_take (fun s => s) (fieldsE_get (i := i) hjk)
          have HJ := Lib.hid hJ
          clear hJ
          generalize joinP (fun s => s) ((fieldsE k i).take j) = J at *
          obtain ⟨u1, u2⟩ := u8_97 (i := i) (by omega)
          obtain ⟨v1, v2⟩ := u8_97 (i := j) (by omega)
          go_upto_if 31 with fail
          go_cut [7] (fun sv wx => sv = .string (baS (X ++ J ++ (if j = 0 then [] else [44]))) ∧ wx = wr)
          case first =>
            clear u1 u2 v1 v2
            by_cases hj0 : j = 0
            · subst hj0
              go_wp2_with fail
              go_meet
              exact ⟨by simp, rfl⟩
            · have hj1 : (0 : Int) < (j : Int) := by omega
              have hadd : ∀ V, (Op.stringOp .add (baS (X ++ J)) ⟨#[44]⟩).run Tryd.prog V = .ok (.string (baS (X ++ J ++ [44]))) V := fun V => addS (X ++ J) [44] (by rw [List.length_append]; omega) (by decide) V
              have HE : Hid (X ++ J ++ (if j = 0 then [] else [44]) = X ++ J ++ [44]) := Lib.hid (by rw [if_neg hj0])
              generalize X ++ J ++ [44] = XJ1 at *
              go_wp2_with fail
              go_meet
              exact ⟨by rw [HE.out], rfl⟩
          case rest =>
            obtain ⟨rfl, hwc⟩ := hcut
            subst hwc
            have hl5 : (X ++ J ++ (if j = 0 then [] else [44])).length ≤ 200 := by
              rw [List.length_append, List.length_append]; split <;> simp <;> omega
            have hadd := fun V => addS (X ++ J ++ (if j = 0 then [] else [44])) (unitE i j) (by omega) (by simp [unitE]) V
            have HN : Hid (X ++ joinP (fun s => s) ((fieldsE k i).take (j + 1)) = X ++ J ++ (if j = 0 then [] else [44]) ++ unitE i j) := Lib.hid (by rw [HJ.out]; simp)
            have HR : Hid (baS (X ++ joinP (fun s => s) ((fieldsE k i).take (j + 1))) = baS (X ++ J ++ (if j = 0 then [] else [44]) ++ unitE i j)) := Lib.hid (by rw [HN.out])
            clear hl5 HN
            generalize X ++ J ++ (if j = 0 then [] else [44]) = XJ at *
            have hcv := fun V g h0 h1 => conv2 (V := V) (g := g) (x := UInt8.ofNat (97 + i)) (y := UInt8.ofNat (97 + j)) h0 h1
            have hcv1 : (convert 29 9 (.slice (some ⟨wc.heap.size, 0, none⟩) 2 2)).run Tryd.prog (wc.alloc (.cells #[.int .u8 ((UInt8.ofNat (97 + i)).toNat : Int), .int .u8 ((UInt8.ofNat (97 + j)).toNat : Int)] 5)) = .ok (.string (baS (unitE i j))) (wc.alloc (.cells #[.int .u8 ((UInt8.ofNat (97 + i)).toNat : Int), .int .u8 ((UInt8.ofNat (97 + j)).toNat : Int)] 5)) := hcv _ _ (by simp [go_sem]) (by simp [go_sem])
            clear hcv
            generalize (UInt8.ofNat (97 + i)).toNat = x at *
            generalize (UInt8.ofNat (97 + j)).toNat = y at *
            generalize baS (XJ ++ unitE i j) = R at *
            go_wp2_with fail
            exact ⟨⟨j + 1, by simp, by omega, by rw [HR.out], ball hb⟩, by simp [intN]; omega⟩
        · have hjn : ¬ ((j : Int) < (k : Int)) := by omega
          have hfull : (fieldsE k i).take j = fieldsE k i := List.take_of_length_le (by rw [fieldsE_len]; omega)
          rw [hfull] at hjl ⊢
          clear hfull
          have hl6 : (X ++ joinP (fun s => s) (fieldsE k i)).length ≤ 14 * i + 12 := by rw [List.length_append]; omega
          have ha1 : ∀ V, (Op.stringOp .add (baS (X ++ joinP (fun s => s) (fieldsE k i))) ⟨#[13, 10]⟩).run Tryd.prog V = .ok (.string (baS (X ++ joinP (fun s => s) (fieldsE k i) ++ [13, 10]))) V := fun V => addS _ [13, 10] (by omega) (by decide) V
          have ha2 : ∀ V, (Op.stringOp .add (baS (X ++ joinP (fun s => s) (fieldsE k i))) ⟨#[10]⟩).run Tryd.prog V = .ok (.string (baS (X ++ joinP (fun s => s) (fieldsE k i) ++ [10]))) V := fun V => addS _ [10] (by omega) (by decide) V
          have fin : ∀ e : Bs, (e = [10] ∨ e = [13, 10] ∨ (i + 1 = n ∧ e = [])) → ∃ es' : List Bs, ((i : Int) + 1) = (es'.length : Int) ∧ es'.length ≤ n ∧ Value.string (baS (X ++ joinP (fun s => s) (fieldsE k i) ++ e)) = .string (baS (textE k es')) ∧ Hid (GoodE n es') ∧ (textE k es').length ≤ 14 * es'.length := fun e he => by
            have h1 := HT.out e
            have h2 : (es ++ [e]).length = i + 1 := by simp [HI.out]
            have h3 : (X ++ joinP (fun s => s) (fieldsE k i) ++ e).length = (X ++ joinP (fun s => s) (fieldsE k i)).length + e.length := List.length_append
            have h4 : e.length ≤ 2 := by rcases he with rfl | rfl | ⟨_, rfl⟩ <;> simp
            exact ⟨es ++ [e], by rw [h2]; simp, by omega, by rw [h1], Lib.hid (hgood.out.snoc (by rw [HI.out]; exact he)), by rw [h1, h3, h2]; omega⟩
          have FIN := Lib.hid fin
          clear fin HT hjl
          generalize X ++ joinP (fun s => s) (fieldsE k i) = S at *
          by_cases hlast : i + 1 = n
          · have hli : ((i : Int) == (n : Int) - 1) = true := by rw [beq_iff_eq]; omega
            have ha3 : baS (S ++ []) = baS S := by rw [List.append_nil]
            have HA3 := Lib.hid ha3
            clear ha3
            go_wp2_with fail
            · obtain ⟨es', f1, f2, f3, f4, f5⟩ := FIN.out [] (Or.inr (Or.inr ⟨hlast, rfl⟩))
              rw [HA3.out] at f3
              exact ⟨⟨es', by simp [f1], f2, f3, f4, f5, hb⟩, by simp [intN]; omega⟩
            · obtain ⟨es', f1, f2, f3, f4, f5⟩ := FIN.out [13, 10] (Or.inr (Or.inl rfl))
              exact ⟨⟨es', by simp [f1], f2, f3, f4, f5, hb⟩, by simp [intN]; omega⟩
            · obtain ⟨es', f1, f2, f3, f4, f5⟩ := FIN.out [10] (Or.inl rfl)
              exact ⟨⟨es', by simp [f1], f2, f3, f4, f5, hb⟩, by simp [intN]; omega⟩
          · have hli : ((i : Int) == (n : Int) - 1) = false := by rw [beq_eq_false_iff_ne]; omega
            go_wp2_with fail
            · obtain ⟨es', f1, f2, f3, f4, f5⟩ := FIN.out [13, 10] (Or.inr (Or.inl rfl))
              exact ⟨⟨es', by simp [f1], f2, f3, f4, f5, hb⟩, by simp [intN]; omega⟩
            · obtain ⟨es', f1, f2, f3, f4, f5⟩ := FIN.out [10] (Or.inl rfl)
              exact ⟨⟨es', by simp [f1], f2, f3, f4, f5, hb⟩, by simp [intN]; omega⟩
    · have hen : es.length = n := by omega
      obtain ⟨L, hrec, hLn, hrow⟩ := text_back hn.2 hk.2 hk.1 hen hgood.out
      have hTl : (textE k es).length ≤ 200 := by omega
      have kc : ∀ (V : World) (s : ByteArray), (convert 9 29 (.string s)).run Tryd.prog V = .ok (.slice (some ⟨V.heap.size, 0, none⟩) s.size (grownCap V s.size 0 5)) (Lib.bytesWorld V 5 s) := fun V s =>
        Lib.run_convert_string_bytes V 9 29 5 s Tryd.underlying9 Tryd.underlying29 Tryd.underlying5
      have HA : Hid (∀ V : World, Calls Tryd.prog 8 #[.slice (some ⟨V.heap.size, 0, none⟩) (baS (textE k es)).size (grownCap V (baS (textE k es)).size 0 5)] (Lib.bytesWorld V 5 (baS (textE k es))) fun e w' => (∃ p c, e = .returned (.tuple #[.slice p L.length c, .agg #[.int .i64 0, .int .i64 0]]) ∧ RecP tokP w' p L) ∧ Below V.heap.size V w') := fun V => (parse_s (textE k es) V (by omega)).mono fun e w' h => h.yes hrec
      have HSL := Lib.hid (fun (a : Nat) (h : a + 2 ≤ (textE k es).length) V => sliceMid (textE k es) a (a + 2) (by omega) h V)
      rw [hLn] at HA
      have HROW := Lib.hid hrow
      have HSZ := Lib.hid (baS_size (textE k es))
      have hjn : ¬ ((es.length : Int) < (n : Int)) := by omega
      clear hrec hrow hgood hel hlt hen hLn
      generalize hT : textE k es = T at *
      clear hT htl
      generalize hST : baS T = ST at *
      have HST := Lib.hid hST
      clear hST
      go_wp2_with fail
      refine (HA.out wr).mono ?_
      rintro e w2 ⟨⟨p, c, rfl, hr⟩, hb2⟩
      have B2 := below_next hb hb2
      clear HA kc hb hb2
      have hsz := HSZ.out
      go_upto_region 17 with fail
      generalize hw3 : w2.alloc _ = w3
      have B3 : Below w.heap.size w w3 := hw3 ▸ ball B2
      have E3 : ErrC w3 w2.heap.size 0 0 := by subst hw3; exact ⟨by simp [go_sem], by simp [go_sem], by simp [go_sem]⟩
      have R3 : Hid (RecP tokP w3 p L) := Lib.hid (hw3 ▸ hr.below (ball (Below.refl _ _)))
      clear hw3 B2 hr
      generalize w2.heap.size = N at *
      have q0 := E3.c0
      have q1 := E3.c1
      clear E3
      have hnn : (((n : Nat) : Int) != ((n : Nat) : Int)) = false := by simp
      go_wp2_with fail
      go_loopw [83] (fun iv wx => ∃ i : Nat, iv = .int .i64 (i : Int) ∧ i ≤ n ∧ Below w3.heap.size w3 wx) (fun iv _ => n + 1 - intN iv)
      case atStart => exact ⟨0, rfl, Nat.zero_le _, Below.refl _ _⟩
      case round =>
        clear q0 q1
        obtain ⟨i, rfl, hi, hbx⟩ := hrel
        by_cases hin : i < n
        · obtain ⟨o, ho, hok, hof⟩ := HROW.out i hin
          obtain ⟨g, q, cq, rfl, hg3, hc3, hl3⟩ := R3.out i o ho
          rw [hok] at hc3
          have HL3 := Lib.hid hl3
          have HOF := Lib.hid hof
          have hcell := (olds hbx g i hg3).trans hc3
          clear ho hok hof hl3
          go_wp2_with fail
          go_loopw [98] (fun jv wy => ∃ j : Nat, jv = .int .i64 (j : Int) ∧ j ≤ k ∧ Below w3.heap.size w3 wy) (fun jv _ => k + 1 - intN jv)
          case atStart => exact ⟨0, rfl, Nat.zero_le _, hbx⟩
          case round =>
            clear hcell hbx
            obtain ⟨j, rfl, hj, hby⟩ := hrel
            by_cases hjk : j < k
            · obtain ⟨a8, hoj, ha2, hat⟩ := HOF.out j hjk
              obtain ⟨g2, rfl, hg2, d0, d1, d2⟩ := HL3.out j _ hoj
              have f0 := (olds hby g i hg3).trans hc3
              have f1 : wr.cell? ⟨g2, j * 3 + 1, none⟩ = some (.string (baS (unitE i j))) := (olds hby g2 _ hg2).trans d1
              have f2 : wr.cell? ⟨g2, j * 3 + 2, none⟩ = some (.int .i64 (a8 : Int)) := (olds hby g2 _ hg2).trans d2
              have hs2 := HSL.out a8 ha2
              rw [show a8 + 2 - a8 = 2 by omega, hat] at hs2
              obtain ⟨u1, u2⟩ := u8_97 (i := i) (by omega)
              obtain ⟨v1, v2⟩ := u8_97 (i := j) (by omega)
              have hs3 : IntKind.i64.wrap ((a8 : Int) + 2) = ((a8 + 2 : Nat) : Int) := by rw [IntKind.wrap_i64]; have := ha2; omega
              have hale : ¬ ((T.length : Int) < (a8 : Int)) := by omega
              have hcv : ∀ V g, V.cell? ⟨g, 0, none⟩ = some (.int .u8 ((UInt8.ofNat (97 + i)).toNat : Int)) → V.cell? ⟨g, 1, none⟩ = some (.int .u8 ((UInt8.ofNat (97 + j)).toNat : Int)) → (convert 29 9 (.slice (some ⟨g, 0, none⟩) 2 2)).run Tryd.prog V = .ok (.string (baS (unitE i j))) V := fun V g h0 h1 => conv2 h0 h1
              have hale2 : a8 ≤ T.length := by omega
              clear hoj hat d0 d1 d2
              generalize (UInt8.ofNat (97 + i)).toNat = x at *
              generalize (UInt8.ofNat (97 + j)).toNat = y at *
              generalize baS (unitE i j) = U at *
              generalize hz3 : a8 + 2 = a2 at *
              have HZ3 := Lib.hid hz3
              clear hz3
              have hwi : IntKind.i64.wrap (97 + (i : Int)) = 97 + (i : Int) := by rw [IntKind.wrap_i64]; omega
              have hwj : IntKind.i64.wrap (97 + (j : Int)) = 97 + (j : Int) := by rw [IntKind.wrap_i64]; omega
              have HCV := Lib.hid hcv
              have hlg : g < wr.heap.size := by have := hby.size; omega
              have hlg2 : g2 < wr.heap.size := by have := hby.size; omega
              have HF0 : Hid (∀ V, Below wr.heap.size wr V → V.cell? ⟨g, i, none⟩ = some (.slice (some ⟨g2, 0, none⟩) k cq)) := Lib.hid (fun V hV => (olds hV g i hlg).trans f0)
              have HF1 : Hid (∀ V, Below wr.heap.size wr V → V.cell? ⟨g2, j * 3 + 1, none⟩ = some (.string U)) := Lib.hid (fun V hV => (olds hV g2 _ hlg2).trans f1)
              have HF2 : Hid (∀ V, Below wr.heap.size wr V → V.cell? ⟨g2, j * 3 + 2, none⟩ = some (.int .i64 (a8 : Int))) := Lib.hid (fun V hV => (olds hV g2 _ hlg2).trans f2)
              clear hcv
              go_wp2_with fail
              refine region_go2 101 161 [101, 102, 103, 104, 105, 106, 107, 108, 109, 110, 111, 112, 113, 114, 115, 116, 117, 118, 119, 120, 121, 122, 123, 124, 125, 126, 127, 128, 129, 130, 131, 132, 133, 134, 135, 136, 137, 138, 139, 140, 141, 142, 143, 144, 145, 146, 147, 148, 149, 150, 151, 152, 153, 154, 155, 156, 157, 158, 159, 160]
                [.eqv (.slice (some ⟨g, 0, none⟩) n c), .eqv (.int .i64 (i : Int)), .eqv (.pointer (some ⟨g, i, none⟩)), .eqv (.slice (some ⟨g2, 0, none⟩) k cq), .eqv (.int .i64 (j : Int)), .eqv (.pointer (some ⟨g2, j * 3, none⟩)), .eqv (.pointer (some ⟨g2, j * 3 + 1, none⟩)), .eqv (.string U), .eqv (.int .i64 (i : Int)), .eqv (.int .i64 (97 + (i : Int))), .eqv (.int .u8 (x : Int)), .eqv (.int .i64 (j : Int)), .eqv (.int .i64 (97 + (j : Int))), .eqv (.int .u8 (y : Int)), ⟨fun v w => ∃ gg, v = .slice (some ⟨gg, 0, none⟩) 2 2 ∧ w.cell? ⟨gg, 0, none⟩ = some (.int .u8 (x : Int)) ∧ w.cell? ⟨gg, 1, none⟩ = some (.int .u8 (y : Int)), fun _ _ _ ⟨gg, h1, h2, h3⟩ hb => ⟨gg, h1, (olds hb gg 0 (World.block_lt_of_cell? _ _ h2)).trans h2, (olds hb gg 1 (World.block_lt_of_cell? _ _ h2)).trans h3⟩⟩, .eqv (.string U), .eqv (.bool false), .eqv (.bool false), .eqv (.slice (some ⟨g, 0, none⟩) n c), .eqv (.int .i64 (i : Int)), .eqv (.pointer (some ⟨g, i, none⟩)), .eqv (.slice (some ⟨g2, 0, none⟩) k cq), .eqv (.int .i64 (j : Int)), .eqv (.pointer (some ⟨g2, j * 3, none⟩)), .eqv (.pointer (some ⟨g2, j * 3 + 2, none⟩)), .eqv (.int .i64 (a8 : Int)), .eqv (.string ST), .eqv (.int .i64 (T.length : Int)), .eqv (.bool false), .eqv (.bool false), .eqv (.bool false), .eqv (.string ST), .eqv (.slice (some ⟨g, 0, none⟩) n c), .eqv (.int .i64 (i : Int)), .eqv (.pointer (some ⟨g, i, none⟩)), .eqv (.slice (some ⟨g2, 0, none⟩) k cq), .eqv (.int .i64 (j : Int)), .eqv (.pointer (some ⟨g2, j * 3, none⟩)), .eqv (.pointer (some ⟨g2, j * 3 + 2, none⟩)), .eqv (.int .i64 (a8 : Int)), .eqv (.slice (some ⟨g, 0, none⟩) n c), .eqv (.int .i64 (i : Int)), .eqv (.pointer (some ⟨g, i, none⟩)), .eqv (.slice (some ⟨g2, 0, none⟩) k cq), .eqv (.int .i64 (j : Int)), .eqv (.pointer (some ⟨g2, j * 3, none⟩)), .eqv (.pointer (some ⟨g2, j * 3 + 2, none⟩)), .eqv (.int .i64 (a8 : Int)), .eqv (.int .i64 (a2 : Int)), .eqv (.string U), .eqv (.slice (some ⟨g, 0, none⟩) n c), .eqv (.int .i64 (i : Int)), .eqv (.pointer (some ⟨g, i, none⟩)), .eqv (.slice (some ⟨g2, 0, none⟩) k cq), .eqv (.int .i64 (j : Int)), .eqv (.pointer (some ⟨g2, j * 3, none⟩)), .eqv (.pointer (some ⟨g2, j * 3 + 1, none⟩)), .eqv (.string U), .eqv (.bool false), .eqv (.bool false)]
                (by kernel_rfl) (by kernel_rfl) rfl (by decide) (of_decide_eq_true (by kernel_rfl)) (by decide) ?_ ?_
              · refine ⟨?_, ?_, ?_, ?_, ?_, ?_, ?_, ?_, ?_, ?_, ?_, ?_, ?_, ?_, ?_, ?_, ?_, ?_, ?_, ?_, ?_, ?_, ?_, ?_, ?_, ?_, ?_, ?_, ?_, ?_, ?_, ?_, ?_, ?_, ?_, ?_, ?_, ?_, ?_, ?_, ?_, ?_, ?_, ?_, ?_, ?_, ?_, ?_, ?_, ?_, ?_, ?_, ?_, ?_, ?_, ?_, ?_, ?_, ?_, ?_, True.intro⟩
                · refine stepG_val rfl fun a w hF hB hD => ⟨rg_free rfl _, ?_⟩
                  have h10 : a.eval (.tmp 10) = .slice (some ⟨g, 0, none⟩) n c := (hF 10 (by decide)).trans rfl
                  unfold execOp
                  simp only [h10]
                  simp [go_sem]
                · refine stepG_val rfl fun a w hF hB hD => ⟨rg_free rfl _, ?_⟩
                  have h12 : a.eval (.tmp 12) = .int .i64 (i : Int) := (hF 12 (by decide)).trans rfl
                  unfold execOp
                  simp only [h12]
                  simp [go_sem]
                · refine stepG_val rfl fun a w hF hB hD => ⟨rg_free rfl _, ?_⟩
                  have h101 : a.eval (.tmp 101) = .slice (some ⟨g, 0, none⟩) n c := hD 0 rfl
                  have h102 : a.eval (.tmp 102) = .int .i64 (i : Int) := hD 1 rfl
                  unfold execOp
                  simp only [h101, h102]
                  simp [go_sem, hin]
                · refine stepG_val rfl fun a w hF hB hD => ⟨rg_free rfl _, ?_⟩
                  have h103 : a.eval (.tmp 103) = .pointer (some ⟨g, i, none⟩) := hD 2 rfl
                  have c0 := HF0.out w hB
                  unfold execOp
                  simp only [h103]
                  simp [go_sem, c0]
                · refine stepG_val rfl fun a w hF hB hD => ⟨rg_free rfl _, ?_⟩
                  have h13 : a.eval (.tmp 13) = .int .i64 (j : Int) := (hF 13 (by decide)).trans rfl
                  unfold execOp
                  simp only [h13]
                  simp [go_sem]
                · refine stepG_val rfl fun a w hF hB hD => ⟨rg_free rfl _, ?_⟩
                  have h104 : a.eval (.tmp 104) = .slice (some ⟨g2, 0, none⟩) k cq := hD 3 rfl
                  have h105 : a.eval (.tmp 105) = .int .i64 (j : Int) := hD 4 rfl
                  unfold execOp
                  simp only [h104, h105]
                  simp [go_sem, hjk]
                · refine stepG_val rfl fun a w hF hB hD => ⟨rg_free rfl _, ?_⟩
                  have h106 : a.eval (.tmp 106) = .pointer (some ⟨g2, j * 3, none⟩) := hD 5 rfl
                  unfold execOp
                  simp only [h106]
                  simp [go_sem]
                · refine stepG_val rfl fun a w hF hB hD => ⟨rg_free rfl _, ?_⟩
                  have h107 : a.eval (.tmp 107) = .pointer (some ⟨g2, j * 3 + 1, none⟩) := hD 6 rfl
                  have c0 := HF1.out w hB
                  unfold execOp
                  simp only [h107]
                  simp [go_sem, c0]
                · refine stepG_val rfl fun a w hF hB hD => ⟨rg_free rfl _, ?_⟩
                  have h12 : a.eval (.tmp 12) = .int .i64 (i : Int) := (hF 12 (by decide)).trans rfl
                  unfold execOp
                  simp only [h12]
                  simp [go_sem]
                · refine stepG_val rfl fun a w hF hB hD => ⟨rg_free rfl _, ?_⟩
                  have h109 : a.eval (.tmp 109) = .int .i64 (i : Int) := hD 8 rfl
                  unfold execOp
                  simp only [h109]
                  simp [go_sem, hwi]
                · refine stepG_val rfl fun a w hF hB hD => ⟨rg_free rfl _, ?_⟩
                  have h110 : a.eval (.tmp 110) = .int .i64 (97 + (i : Int)) := hD 9 rfl
                  unfold execOp
                  simp only [h110]
                  simp [go_sem, u1]
                · refine stepG_val rfl fun a w hF hB hD => ⟨rg_free rfl _, ?_⟩
                  have h13 : a.eval (.tmp 13) = .int .i64 (j : Int) := (hF 13 (by decide)).trans rfl
                  unfold execOp
                  simp only [h13]
                  simp [go_sem]
                · refine stepG_val rfl fun a w hF hB hD => ⟨rg_free rfl _, ?_⟩
                  have h112 : a.eval (.tmp 112) = .int .i64 (j : Int) := hD 11 rfl
                  unfold execOp
                  simp only [h112]
                  simp [go_sem, hwj]
                · refine stepG_val rfl fun a w hF hB hD => ⟨rg_free rfl _, ?_⟩
                  have h113 : a.eval (.tmp 113) = .int .i64 (97 + (j : Int)) := hD 12 rfl
                  unfold execOp
                  simp only [h113]
                  simp [go_sem, v1]
                · refine stepG_run fun a w hF hB hD => ⟨rg_free rfl _, .slice (some ⟨w.heap.size, 0, none⟩) 2 2, w.alloc (.cells #[.int .u8 (x : Int), .int .u8 (y : Int)] 5), ?_, ⟨_, rfl, by simp [go_sem], by simp [go_sem]⟩, ball (Below.refl _ _)⟩
                  have h111 : a.eval (.tmp 111) = .int .u8 (x : Int) := hD 10 rfl
                  have h114 : a.eval (.tmp 114) = .int .u8 (y : Int) := hD 13 rfl
                  unfold execOp
                  simp [go_sem, rg_tmp h111, rg_tmp h114]
                · refine stepG_val rfl fun a w hF hB hD => ⟨rg_free rfl _, ?_⟩
                  obtain ⟨gg, h115, c0, c1⟩ : ∃ gg, a.eval (.tmp 115) = .slice (some ⟨gg, 0, none⟩) 2 2 ∧ w.cell? ⟨gg, 0, none⟩ = some (.int .u8 (x : Int)) ∧ w.cell? ⟨gg, 1, none⟩ = some (.int .u8 (y : Int)) := hD 14 rfl
                  unfold execOp
                  simp only [h115]
                  exact run_v (HCV.out w gg c0 c1)
                · refine stepG_val rfl fun a w hF hB hD => ⟨rg_free rfl _, ?_⟩
                  have h108 : a.eval (.tmp 108) = .string U := hD 7 rfl
                  have h116 : a.eval (.tmp 116) = .string U := hD 15 rfl
                  unfold execOp
                  simp only [h108, h116]
                  simp [go_sem]
                · refine stepG_val rfl fun a w hF hB hD => ⟨rg_free rfl _, ?_⟩
                  have h117 : a.eval (.tmp 117) = .bool false := hD 16 rfl
                  unfold execOp
                  simp only [h117]
                  simp [go_sem]
                · refine stepG_val rfl fun a w hF hB hD => ⟨rg_on (d := 118) rfl rfl (hD 17 rfl), ?_⟩
                  have h10 : a.eval (.tmp 10) = .slice (some ⟨g, 0, none⟩) n c := (hF 10 (by decide)).trans rfl
                  unfold execOp
                  simp only [h10]
                  simp [go_sem]
                · refine stepG_val rfl fun a w hF hB hD => ⟨rg_on (d := 118) rfl rfl (hD 17 rfl), ?_⟩
                  have h12 : a.eval (.tmp 12) = .int .i64 (i : Int) := (hF 12 (by decide)).trans rfl
                  unfold execOp
                  simp only [h12]
                  simp [go_sem]
                · refine stepG_val rfl fun a w hF hB hD => ⟨rg_on (d := 118) rfl rfl (hD 17 rfl), ?_⟩
                  have h119 : a.eval (.tmp 119) = .slice (some ⟨g, 0, none⟩) n c := hD 18 rfl
                  have h120 : a.eval (.tmp 120) = .int .i64 (i : Int) := hD 19 rfl
                  unfold execOp
                  simp only [h119, h120]
                  simp [go_sem, hin]
                · refine stepG_val rfl fun a w hF hB hD => ⟨rg_on (d := 118) rfl rfl (hD 17 rfl), ?_⟩
                  have h121 : a.eval (.tmp 121) = .pointer (some ⟨g, i, none⟩) := hD 20 rfl
                  have c0 := HF0.out w hB
                  unfold execOp
                  simp only [h121]
                  simp [go_sem, c0]
                · refine stepG_val rfl fun a w hF hB hD => ⟨rg_on (d := 118) rfl rfl (hD 17 rfl), ?_⟩
                  have h13 : a.eval (.tmp 13) = .int .i64 (j : Int) := (hF 13 (by decide)).trans rfl
                  unfold execOp
                  simp only [h13]
                  simp [go_sem]
                · refine stepG_val rfl fun a w hF hB hD => ⟨rg_on (d := 118) rfl rfl (hD 17 rfl), ?_⟩
                  have h122 : a.eval (.tmp 122) = .slice (some ⟨g2, 0, none⟩) k cq := hD 21 rfl
                  have h123 : a.eval (.tmp 123) = .int .i64 (j : Int) := hD 22 rfl
                  unfold execOp
                  simp only [h122, h123]
                  simp [go_sem, hjk]
                · refine stepG_val rfl fun a w hF hB hD => ⟨rg_on (d := 118) rfl rfl (hD 17 rfl), ?_⟩
                  have h124 : a.eval (.tmp 124) = .pointer (some ⟨g2, j * 3, none⟩) := hD 23 rfl
                  unfold execOp
                  simp only [h124]
                  simp [go_sem]
                · refine stepG_val rfl fun a w hF hB hD => ⟨rg_on (d := 118) rfl rfl (hD 17 rfl), ?_⟩
                  have h125 : a.eval (.tmp 125) = .pointer (some ⟨g2, j * 3 + 2, none⟩) := hD 24 rfl
                  have c0 := HF2.out w hB
                  unfold execOp
                  simp only [h125]
                  simp [go_sem, c0]
                · refine stepG_val rfl fun a w hF hB hD => ⟨rg_on (d := 118) rfl rfl (hD 17 rfl), ?_⟩
                  have h7 : a.eval (.tmp 7) = .string ST := (hF 7 (by decide)).trans rfl
                  unfold execOp
                  simp only [h7]
                  simp [go_sem]
                · refine stepG_val rfl fun a w hF hB hD => ⟨rg_on (d := 118) rfl rfl (hD 17 rfl), ?_⟩
                  have h127 : a.eval (.tmp 127) = .string ST := hD 26 rfl
                  unfold execOp
                  simp [go_sem, rg_tmp h127, Builtin.len_, hsz]
                · refine stepG_val rfl fun a w hF hB hD => ⟨rg_on (d := 118) rfl rfl (hD 17 rfl), ?_⟩
                  have h126 : a.eval (.tmp 126) = .int .i64 (a8 : Int) := hD 25 rfl
                  have h128 : a.eval (.tmp 128) = .int .i64 (T.length : Int) := hD 27 rfl
                  unfold execOp
                  simp only [h126, h128]
                  simp [go_sem, hale2]
                · refine stepG_val rfl fun a w hF hB hD => ⟨rg_free rfl _, ?_⟩
                  have h118 : a.eval (.tmp 118) = .bool false := hD 17 rfl
                  have h129 : a.eval (.tmp 129) = .bool false := hD 28 rfl
                  unfold execOp
                  simp only [h118, h129]
                  simp [go_sem]
                · refine stepG_val rfl fun a w hF hB hD => ⟨rg_free rfl _, ?_⟩
                  have h130 : a.eval (.tmp 130) = .bool false := hD 29 rfl
                  unfold execOp
                  simp only [h130]
                  simp [go_sem]
                · refine stepG_val rfl fun a w hF hB hD => ⟨rg_on (d := 131) rfl rfl (hD 30 rfl), ?_⟩
                  have h7 : a.eval (.tmp 7) = .string ST := (hF 7 (by decide)).trans rfl
                  unfold execOp
                  simp only [h7]
                  simp [go_sem]
                · refine stepG_val rfl fun a w hF hB hD => ⟨rg_on (d := 131) rfl rfl (hD 30 rfl), ?_⟩
                  have h10 : a.eval (.tmp 10) = .slice (some ⟨g, 0, none⟩) n c := (hF 10 (by decide)).trans rfl
                  unfold execOp
                  simp only [h10]
                  simp [go_sem]
                · refine stepG_val rfl fun a w hF hB hD => ⟨rg_on (d := 131) rfl rfl (hD 30 rfl), ?_⟩
                  have h12 : a.eval (.tmp 12) = .int .i64 (i : Int) := (hF 12 (by decide)).trans rfl
                  unfold execOp
                  simp only [h12]
                  simp [go_sem]
                · refine stepG_val rfl fun a w hF hB hD => ⟨rg_on (d := 131) rfl rfl (hD 30 rfl), ?_⟩
                  have h133 : a.eval (.tmp 133) = .slice (some ⟨g, 0, none⟩) n c := hD 32 rfl
                  have h134 : a.eval (.tmp 134) = .int .i64 (i : Int) := hD 33 rfl
                  unfold execOp
                  simp only [h133, h134]
                  simp [go_sem, hin]
                · refine stepG_val rfl fun a w hF hB hD => ⟨rg_on (d := 131) rfl rfl (hD 30 rfl), ?_⟩
                  have h135 : a.eval (.tmp 135) = .pointer (some ⟨g, i, none⟩) := hD 34 rfl
                  have c0 := HF0.out w hB
                  unfold execOp
                  simp only [h135]
                  simp [go_sem, c0]
                · refine stepG_val rfl fun a w hF hB hD => ⟨rg_on (d := 131) rfl rfl (hD 30 rfl), ?_⟩
                  have h13 : a.eval (.tmp 13) = .int .i64 (j : Int) := (hF 13 (by decide)).trans rfl
                  unfold execOp
                  simp only [h13]
                  simp [go_sem]
                · refine stepG_val rfl fun a w hF hB hD => ⟨rg_on (d := 131) rfl rfl (hD 30 rfl), ?_⟩
                  have h136 : a.eval (.tmp 136) = .slice (some ⟨g2, 0, none⟩) k cq := hD 35 rfl
                  have h137 : a.eval (.tmp 137) = .int .i64 (j : Int) := hD 36 rfl
                  unfold execOp
                  simp only [h136, h137]
                  simp [go_sem, hjk]
                · refine stepG_val rfl fun a w hF hB hD => ⟨rg_on (d := 131) rfl rfl (hD 30 rfl), ?_⟩
                  have h138 : a.eval (.tmp 138) = .pointer (some ⟨g2, j * 3, none⟩) := hD 37 rfl
                  unfold execOp
                  simp only [h138]
                  simp [go_sem]
                · refine stepG_val rfl fun a w hF hB hD => ⟨rg_on (d := 131) rfl rfl (hD 30 rfl), ?_⟩
                  have h139 : a.eval (.tmp 139) = .pointer (some ⟨g2, j * 3 + 2, none⟩) := hD 38 rfl
                  have c0 := HF2.out w hB
                  unfold execOp
                  simp only [h139]
                  simp [go_sem, c0]
                · refine stepG_val rfl fun a w hF hB hD => ⟨rg_on (d := 131) rfl rfl (hD 30 rfl), ?_⟩
                  have h10 : a.eval (.tmp 10) = .slice (some ⟨g, 0, none⟩) n c := (hF 10 (by decide)).trans rfl
                  unfold execOp
                  simp only [h10]
                  simp [go_sem]
                · refine stepG_val rfl fun a w hF hB hD => ⟨rg_on (d := 131) rfl rfl (hD 30 rfl), ?_⟩
                  have h12 : a.eval (.tmp 12) = .int .i64 (i : Int) := (hF 12 (by decide)).trans rfl
                  unfold execOp
                  simp only [h12]
                  simp [go_sem]
                · refine stepG_val rfl fun a w hF hB hD => ⟨rg_on (d := 131) rfl rfl (hD 30 rfl), ?_⟩
                  have h141 : a.eval (.tmp 141) = .slice (some ⟨g, 0, none⟩) n c := hD 40 rfl
                  have h142 : a.eval (.tmp 142) = .int .i64 (i : Int) := hD 41 rfl
                  unfold execOp
                  simp only [h141, h142]
                  simp [go_sem, hin]
                · refine stepG_val rfl fun a w hF hB hD => ⟨rg_on (d := 131) rfl rfl (hD 30 rfl), ?_⟩
                  have h143 : a.eval (.tmp 143) = .pointer (some ⟨g, i, none⟩) := hD 42 rfl
                  have c0 := HF0.out w hB
                  unfold execOp
                  simp only [h143]
                  simp [go_sem, c0]
                · refine stepG_val rfl fun a w hF hB hD => ⟨rg_on (d := 131) rfl rfl (hD 30 rfl), ?_⟩
                  have h13 : a.eval (.tmp 13) = .int .i64 (j : Int) := (hF 13 (by decide)).trans rfl
                  unfold execOp
                  simp only [h13]
                  simp [go_sem]
                · refine stepG_val rfl fun a w hF hB hD => ⟨rg_on (d := 131) rfl rfl (hD 30 rfl), ?_⟩
                  have h144 : a.eval (.tmp 144) = .slice (some ⟨g2, 0, none⟩) k cq := hD 43 rfl
                  have h145 : a.eval (.tmp 145) = .int .i64 (j : Int) := hD 44 rfl
                  unfold execOp
                  simp only [h144, h145]
                  simp [go_sem, hjk]
                · refine stepG_val rfl fun a w hF hB hD => ⟨rg_on (d := 131) rfl rfl (hD 30 rfl), ?_⟩
                  have h146 : a.eval (.tmp 146) = .pointer (some ⟨g2, j * 3, none⟩) := hD 45 rfl
                  unfold execOp
                  simp only [h146]
                  simp [go_sem]
                · refine stepG_val rfl fun a w hF hB hD => ⟨rg_on (d := 131) rfl rfl (hD 30 rfl), ?_⟩
                  have h147 : a.eval (.tmp 147) = .pointer (some ⟨g2, j * 3 + 2, none⟩) := hD 46 rfl
                  have c0 := HF2.out w hB
                  unfold execOp
                  simp only [h147]
                  simp [go_sem, c0]
                · refine stepG_val rfl fun a w hF hB hD => ⟨rg_on (d := 131) rfl rfl (hD 30 rfl), ?_⟩
                  have h148 : a.eval (.tmp 148) = .int .i64 (a8 : Int) := hD 47 rfl
                  unfold execOp
                  simp only [h148]
                  simp [go_sem, hs3]
                · refine stepG_val rfl fun a w hF hB hD => ⟨rg_on (d := 131) rfl rfl (hD 30 rfl), ?_⟩
                  have h132 : a.eval (.tmp 132) = .string ST := hD 31 rfl
                  have h140 : a.eval (.tmp 140) = .int .i64 (a8 : Int) := hD 39 rfl
                  have h149 : a.eval (.tmp 149) = .int .i64 (a2 : Int) := hD 48 rfl
                  unfold execOp
                  simp only [h132]
                  simp [go_sem, rg_tmp h140, rg_tmp h149, hs2]
                · refine stepG_val rfl fun a w hF hB hD => ⟨rg_on (d := 131) rfl rfl (hD 30 rfl), ?_⟩
                  have h10 : a.eval (.tmp 10) = .slice (some ⟨g, 0, none⟩) n c := (hF 10 (by decide)).trans rfl
                  unfold execOp
                  simp only [h10]
                  simp [go_sem]
                · refine stepG_val rfl fun a w hF hB hD => ⟨rg_on (d := 131) rfl rfl (hD 30 rfl), ?_⟩
                  have h12 : a.eval (.tmp 12) = .int .i64 (i : Int) := (hF 12 (by decide)).trans rfl
                  unfold execOp
                  simp only [h12]
                  simp [go_sem]
                · refine stepG_val rfl fun a w hF hB hD => ⟨rg_on (d := 131) rfl rfl (hD 30 rfl), ?_⟩
                  have h151 : a.eval (.tmp 151) = .slice (some ⟨g, 0, none⟩) n c := hD 50 rfl
                  have h152 : a.eval (.tmp 152) = .int .i64 (i : Int) := hD 51 rfl
                  unfold execOp
                  simp only [h151, h152]
                  simp [go_sem, hin]
                · refine stepG_val rfl fun a w hF hB hD => ⟨rg_on (d := 131) rfl rfl (hD 30 rfl), ?_⟩
                  have h153 : a.eval (.tmp 153) = .pointer (some ⟨g, i, none⟩) := hD 52 rfl
                  have c0 := HF0.out w hB
                  unfold execOp
                  simp only [h153]
                  simp [go_sem, c0]
                · refine stepG_val rfl fun a w hF hB hD => ⟨rg_on (d := 131) rfl rfl (hD 30 rfl), ?_⟩
                  have h13 : a.eval (.tmp 13) = .int .i64 (j : Int) := (hF 13 (by decide)).trans rfl
                  unfold execOp
                  simp only [h13]
                  simp [go_sem]
                · refine stepG_val rfl fun a w hF hB hD => ⟨rg_on (d := 131) rfl rfl (hD 30 rfl), ?_⟩
                  have h154 : a.eval (.tmp 154) = .slice (some ⟨g2, 0, none⟩) k cq := hD 53 rfl
                  have h155 : a.eval (.tmp 155) = .int .i64 (j : Int) := hD 54 rfl
                  unfold execOp
                  simp only [h154, h155]
                  simp [go_sem, hjk]
                · refine stepG_val rfl fun a w hF hB hD => ⟨rg_on (d := 131) rfl rfl (hD 30 rfl), ?_⟩
                  have h156 : a.eval (.tmp 156) = .pointer (some ⟨g2, j * 3, none⟩) := hD 55 rfl
                  unfold execOp
                  simp only [h156]
                  simp [go_sem]
                · refine stepG_val rfl fun a w hF hB hD => ⟨rg_on (d := 131) rfl rfl (hD 30 rfl), ?_⟩
                  have h157 : a.eval (.tmp 157) = .pointer (some ⟨g2, j * 3 + 1, none⟩) := hD 56 rfl
                  have c0 := HF1.out w hB
                  unfold execOp
                  simp only [h157]
                  simp [go_sem, c0]
                · refine stepG_val rfl fun a w hF hB hD => ⟨rg_on (d := 131) rfl rfl (hD 30 rfl), ?_⟩
                  have h150 : a.eval (.tmp 150) = .string U := hD 49 rfl
                  have h158 : a.eval (.tmp 158) = .string U := hD 57 rfl
                  unfold execOp
                  simp only [h150, h158]
                  simp [go_sem]
                · refine stepG_val rfl fun a w hF hB hD => ⟨rg_free rfl _, ?_⟩
                  have h131 : a.eval (.tmp 131) = .bool false := hD 30 rfl
                  have h159 : a.eval (.tmp 159) = .bool false := hD 58 rfl
                  unfold execOp
                  simp only [h131, h159]
                  simp [go_sem]
              · intro u9 w7 hsp hb7
                have h160 : u9 160 = .bool false := hsp 59 (by decide)
                have B7 := below_next hby hb7
                clear hsp
                simp only [updG, Nat.reduceAdd, Nat.reduceLeDiff, Nat.reduceLT, and_true, and_false, ↓reduceIte, h160]
                go_wp2_with fail
                exact ⟨⟨j + 1, by simp, by omega, B7⟩, by simp [intN]; omega⟩
            · have hjn3 : ¬ ((j : Int) < (k : Int)) := by omega
              go_wp2_with fail
              exact ⟨⟨i + 1, by simp, by omega, hby⟩, by simp [intN]; omega⟩
        · have hin3 : ¬ ((i : Int) < (n : Int)) := by omega
          have B8 := below_next B3 hbx
          go_wp2_with fail
          refine (awake9_x _ (HG.out.below B8)).mono ?_
          rintro e w9 ⟨rfl, hb9⟩
          go_wp2
          go_ret
          exact ⟨rfl, below_next B8 hb9⟩
theorem cends_walk (n k z : Int) (w : World) (hg : Gl w) :
    Calls Tryd.prog 5 #[.int .i64 n, .int .i64 k, .int .i64 z] w fun e w' => e = .returned (.bool true) ∧ Below w.heap.size w w' := by
  have h1 : ∃ m : Nat, (1 ≤ m ∧ m ≤ 8) ∧ bits BinOp.and IntKind.i64 n 7 = (m : Int) - 1 := by
    rw [i64_and7]
    exact ⟨(n % 8).toNat + 1, by omega, by omega⟩
  have h2 : ∃ m : Nat, (1 ≤ m ∧ m ≤ 4) ∧ bits BinOp.and IntKind.i64 k 3 = (m : Int) - 1 := by
    rw [i64_and3]
    exact ⟨(k % 4).toNat + 1, by omega, by omega⟩
  obtain ⟨m, hm, hn⟩ := h1
  obtain ⟨l, hl, hk⟩ := h2
  exact cends_row n k z m l w hg hm hl hn hk
end Go.Proofs.YtcfminkmidaaoaaDoor
