/- IsctTells: whatever bytes, whatever numbers, the law answers true. -/
import Derived.Test.YtbbaeipobgomdaaLIF
import Derived.Test.YtbbaeipobgomdaaTh
import Derived.Test.YtbbaeipobgomdaaTj
import Derived.Test.YtbbaeipobgomdaaTl
import Derived.Test.YtbbaeipobgomdaaRg
import Derived.Laws.AppendOwnNone
import Derived.Deep.RegionWith
namespace Go.Proofs.Ytbbaeipobgomdaa
open Go.ChangeShapes Go.WideShapes Go.RowKit Go.Sort
theorem run_v {P : Program} {s : Sem Value} {w w' : World} {v : Value} (h : s.run P w = .ok v w') : (do pure (Next.value (← s)) : Sem Next).run P w = .ok (.value v) w' := by
  simp [go_sem, h]
/-- What Tokens answers, in one form. -/
def outV : TR → List Tk × Nat × Nat
  | .ok L => (L, 0, 0)
  | .bad k a => ([], k, a)
theorem TokensE.out {w w' : World} {l : Bs} {e : Ending} {L : List Tk} {K A : Nat} (h : TokensE w l e w') (ho : outV (tokV l) = (L, K, A)) : ∃ p c, e = .returned (.tuple #[.slice p L.length c, .agg #[.int .i64 (K : Int), .int .i64 (A : Int)]]) ∧ TokK w' p L ∧ L.length ≤ l.length ∧ Below w.heap.size w w' := by
  unfold TokensE at h
  cases ht : tokV l with
  | ok M =>
    rw [ht] at h ho
    unfold outV at ho
    cases ho
    obtain ⟨⟨p, c, e1, e2, e3⟩, hb⟩ := h
    exact ⟨p, c, e1, e2, e3, hb⟩
  | bad k a =>
    rw [ht] at h ho
    unfold outV at ho
    cases ho
    exact ⟨none, 0, h.1, TokK.nil _, Nat.zero_le _, h.2⟩
/-- Bytes put behind bytes. -/
theorem appB {ops : Array Oper} {rest : List Oper} {o : Oper} {a : Act} {Q : Exit → Act → World → Prop} (w : World) (hgd : o.guard = none) (s x : Operand)
    (ho : o.op = .call { callee := .builtin .append, args := #[s, x], argTypes := #[29, 29] }) (base : Nat) (p : Option Addr) (q : Nat) (acc : Bs) (ax : Option Addr) (c : Nat) (t : Bs) (hs : a.eval s = .slice p acc.length q) (hown : w.ownsRow base 5 1 (.slice p acc.length q) acc.length (cellsB acc))
    (hx : a.eval x = .slice ax t.length c) (hc : ax = none → c = 0) (hB : BytesAt w ax t) (hlen : acc.length ≤ 1000000) (hlt : t.length ≤ 1000000) (hbase : base ≤ w.heap.size)
    (h : ∀ p' q' w', AppT w base (acc ++ t) p' q' w' → wpList Try.prog ops Q rest (a.put o.dst (.slice p' (acc.length + t.length) q')) w') : wpList Try.prog ops Q (o :: rest) a w := by
  obtain ⟨i0, hi, hz0, hz1, hz2⟩ := info_parts infoB8
  cases ax with
  | none =>
    have ht : t = [] := by
      cases t with
      | nil => rfl
      | cons a r => obtain ⟨ad, e, _⟩ := hB 0 a rfl; cases e
    subst ht
    obtain rfl := hc rfl
    refine wpList_append_own_none hgd s x 29 ho base 5 i0 1 Try.underlying29 hi _ _ _ hs hown hx ?_
    exact h p q w ⟨by rw [List.append_nil]; exact hown, fun B X _ hX => hX⟩
  | some ad =>
    refine wpList_append_own w hgd s x 29 ho base 5 i0 (.int .u8 0) 1 1 Try.underlying29 hi hz0 hz1 hz2 rfl (by decide) _ _ _ hs hown ad t.length c (cellsB t) hx (by rw [cellsB_len, Nat.mul_one]) (fun j u hj => ?_) (fun u hu => ?_) (by unfold maxLen; omega) (by omega) hbase ?_
    · unfold cellsB at hj
      rw [List.getElem?_map] at hj
      cases hb : t[j]? with
      | none => rw [hb] at hj; cases hj
      | some b =>
        rw [hb] at hj
        obtain ⟨ad', e, _, hcell⟩ := hB j b hb
        cases e; cases hj; exact hcell
    · unfold cellsB at hu
      obtain ⟨b, _, rfl⟩ := List.mem_map.1 hu
      rfl
    · intro v' w' hown' hgrow _
      obtain ⟨p', q', rfl⟩ : ∃ p' q', v' = .slice p' (acc.length + t.length) q' := by
        rcases hown'.2 with ⟨h1, h2⟩ | ⟨g, cap, cur, h1, _⟩
        · exact ⟨none, 0, by rw [h1, h2]⟩
        · exact ⟨some ⟨g, 0, none⟩, cap, h1⟩
      refine h p' q' w' ⟨?_, fun B X hB hX => hX.grown hgrow (by omega) (fun k hk => Nat.le_trans hB (hown.lt k hk).1)⟩
      rw [List.length_append, show cellsB (acc ++ t) = cellsB acc ++ cellsB t by simp [cellsB]]
      exact hown'
/-- A text that lies in memory, and is not too long. -/
def Lies8 (V : World) (v : Value) : Prop := ∃ (p : Option Addr) (x : Bs) (q : Nat), v = .slice p x.length q ∧ BytesAt V p x ∧ x.length ≤ q ∧ x.length ≤ 2000
set_option maxHeartbeats 16000000 in
set_option maxRecDepth 100000 in
theorem itells_walk (la : Option Addr) (l : Bs) (c : Nat) (b : Option Addr) (zs : List Int) (d : Nat) (w : World) (hc : l.length ≤ c ∧ (la = none → c = 0)) (hr : BytesAt w la l) (hi : IntsAt w b zs) (hz : ∀ z ∈ zs, (Lit.int .i64 z).wf = true) :
    Calls Try.prog 5 #[.slice la l.length c, .slice b zs.length d] w fun e w' => e = .returned (.bool true) ∧ Below w.heap.size w w' := by
  have HR := Lib.hid hr
  have HI := Lib.hid hi
  have HZ := Lib.hid hz
  have HC := Lib.hid hc
  clear hr hi hz hc
  by_cases hbig : 600 < l.length
  · go_enter Try.func5, Try.ntmps5
    go_wp2_with fail
    refine (awake8_x w).mono ?_
    rintro e w' ⟨rfl, hb⟩
    go_wp2
    go_ret
    exact ⟨rfl, hb⟩
  · have hll : l.length ≤ 600 := by omega
    clear hbig
    have htl := textZ_len zs
    go_enter Try.func5, Try.ntmps5
    go_wp2_with fail
    refine (textZ_x zs b d w HI.out HZ.out).mono ?_
    rintro e w1 ⟨hb1, p1, q1, rfl, hown1⟩
    have HI1 := Lib.hid (HI.out.below hb1)
    have KB1 := Lib.hid (bytes_own hown1)
    have cap1 := own_cap hown1
    clear hown1
    go_wp2_with fail
    refine (textZ_x zs b d w1 HI1.out HZ.out).mono ?_
    rintro e w2 ⟨hb2, p2, q2, rfl, hown2⟩
    have B2 := below_next hb1 hb2
    have HR2 := Lib.hid (HR.out.below B2)
    have HO2 := Lib.hid hown2
    have z12 := hb1.size
    have z2 := hb2.size
    clear hown2 HI1
    go_wp2_with (at_builtin; refine appB _ (by rfl) _ _ (by rfl) w1.heap.size p2 q2 (textZ zs) la c l (by rfl) HO2.out (by rfl) HC.out.2 HR2.out (by omega) (by omega) z2 ?_)
    intro p3 q3 w3 hA
    obtain ⟨hown3, hbel⟩ := hA
    have B3 : Below w.heap.size w w3 := hbel _ _ z12 B2
    have B13 : Below w1.heap.size w1 w3 := hbel _ _ (Nat.le_refl _) hb2
    have KB3 := Lib.hid (bytes_own hown3)
    have cap3 := own_cap hown3
    have len3 : (textZ zs ++ l).length = (textZ zs).length + l.length := List.length_append
    clear hown3 hbel B2 hb2 HO2 HR2
    have r0 : ∀ V, Below w3.heap.size w3 V → Lies8 V (.slice la l.length c) := fun V hV => ⟨la, l, c, rfl, HR.out.below (below_next B3 hV), HC.out.1, by omega⟩
    have r1 : ∀ V, Below w3.heap.size w3 V → Lies8 V (.slice p1 (textZ zs).length q1) := fun V hV => ⟨p1, textZ zs, q1, rfl, KB1.out.below (below_next B13 hV), cap1, by omega⟩
    have r2 : ∀ V, Below w3.heap.size w3 V → Lies8 V (.slice p3 ((textZ zs).length + l.length) q3) := fun V hV => ⟨p3, textZ zs ++ l, q3, by rw [len3], KB3.out.below hV, cap3, by omega⟩
    have R0 := Lib.hid r0
    have R1 := Lib.hid r1
    have R2 := Lib.hid r2
    clear r0 r1 r2 cap3 len3 KB1 KB3
    go_upto_region 4 with fail
    generalize hw4 : w3.alloc _ = w4
    have B34 : Below w3.heap.size w3 w4 := hw4 ▸ ball (Below.refl _ _)
    have B4 : Below w.heap.size w w4 := below_next B3 B34
    have HRW : Hid (∀ V, Below w4.heap.size w4 V → ∀ j, j < 3 → ∃ v, V.cell? ⟨w3.heap.size, j, none⟩ = some v ∧ Lies8 V v) := by
      intro V hV j hj
      have hl : w3.heap.size < w4.heap.size := by subst hw4; simp [go_sem]
      rw [olds hV _ _ hl]
      have B3V := below_next B34 hV
      subst hw4
      match j, hj with
      | 0, _ => exact ⟨_, by simp [go_sem], R0.out V B3V⟩
      | 1, _ => exact ⟨_, by simp [go_sem], R1.out V B3V⟩
      | 2, _ => exact ⟨_, by simp [go_sem], R2.out V B3V⟩
    clear hw4 R0 R1 R2 B13 hb1 z12 z2
    generalize w3.heap.size = G at *
    go_wp2_with fail
    go_loopw [24] (fun iv wr => ∃ j : Nat, iv = .int .i64 (j : Int) ∧ j ≤ 3 ∧ Below w4.heap.size w4 wr) (fun iv _ => 4 - intN iv)
    case atStart => exact ⟨0, rfl, Nat.zero_le _, Below.refl _ _⟩
    case round =>
      obtain ⟨j, rfl, hj3, hb⟩ := hrel
      by_cases hlt : j < 3
      · obtain ⟨v, hcell, p, x, q, rfl, hx, hxq, hxl⟩ := HRW.out wr hb j hlt
        obtain ⟨L, K, A, hout⟩ : ∃ L K A, outV (tokV x) = (L, K, A) := ⟨_, _, _, rfl⟩
        have HO := Lib.hid hout
        have HX := Lib.hid hx
        clear hout hx
        go_wp2_with fail
        refine (tokens_x x p q wr HX.out hxq (by omega)).mono ?_
        intro e w5 h5
        obtain ⟨pa, ca, rfl, ha, hla, hb5⟩ := h5.out HO.out
        have HX5 := Lib.hid (HX.out.below hb5)
        have B5 := below_next hb hb5
        clear h5 hcell HX hb5
        go_upto_region 7 with fail
        generalize hw6 : w5.alloc _ = w6
        have B6 : Below w4.heap.size w4 w6 := hw6 ▸ B5.alloc B5.size _
        have X6 : ErrC w6 w5.heap.size K A := by subst hw6; exact ⟨by simp [go_sem], by simp [go_sem], by simp [go_sem]⟩
        have T6 : Hid (TokK w6 pa L) := Lib.hid (hw6 ▸ ha.below (ball (Below.refl _ _)))
        have HX6 : Hid (BytesAt w6 p x) := Lib.hid (hw6 ▸ HX5.out.below (ball (Below.refl _ _)))
        clear hw6 B5 ha HX5
        generalize w5.heap.size = X at *
        go_wp2_with fail
        refine (tokensR_x x p q w6 HX6.out hxq (by omega)).mono ?_
        intro e w7 h7
        obtain ⟨pb, cb, rfl, hb', _, hb7⟩ := h7.out HO.out
        have B7 := below_next B6 hb7
        have X7 := X6.next hb7
        have T7 := Lib.hid (T6.out.below hb7)
        clear h7 HX6 hb7 B6 X6 T6 HO
        go_upto_region 8 with fail
        generalize hw8 : w7.alloc _ = w8
        have B8 : Below w4.heap.size w4 w8 := hw8 ▸ B7.alloc B7.size _
        have X8 : ErrC w8 X K A := hw8 ▸ X7.next (ball (Below.refl _ _))
        have Y8 : ErrC w8 w7.heap.size K A := by subst hw8; exact ⟨by simp [go_sem], by simp [go_sem], by simp [go_sem]⟩
        have T8 : Hid (TokK w8 pa L) := Lib.hid (hw8 ▸ T7.out.below (ball (Below.refl _ _)))
        have U8 : Hid (TokK w8 pb L) := Lib.hid (hw8 ▸ hb'.below (ball (Below.refl _ _)))
        clear hw8 B7 X7 T7 hb'
        generalize w7.heap.size = Y at *
        have x0 := X8.c0
        have x1 := X8.c1
        have y0 := Y8.c0
        have y1 := Y8.c1
        clear X8 Y8
        go_wp2_with fail
        refine (same_k L pa pb ca cb w8 T8.out U8.out (by omega)).mono ?_
        rintro e w9 ⟨rfl, hb9⟩
        have B9 := below_next B8 hb9
        clear hb9 B8 T8 U8 x0 x1 y0 y1
        go_wp2
        exact ⟨⟨j + 1, by simp, by omega, B9⟩, by simp [intN]; omega⟩
      · obtain rfl : j = 3 := by omega
        have BW : Below w.heap.size w wr := below_next B4 hb
        have HRr := Lib.hid (HR.out.below BW)
        have HCV : Hid (∀ V, Below wr.heap.size wr V → (convert 29 9 (.slice la l.length c)).run Try.prog V = .ok (.string (baS l)) V) := Lib.hid (fun V hV => conv_bytes c (HRr.out.below hV))
        have HQ1 := Lib.hid (fun V => quote_x l V (by omega))
        have HQ2 := Lib.hid (fun V => quoteR_x l V (by omega))
        clear HRr HRW HR HI HZ HC B3 B4 hb B34
        generalize baS l = S at *
        generalize baS (quoteV l) = Q at *
        go_upto_region 11 with fail
        refine region_go [48, 49, 50, 51, 52, 53, 54, 55, 56, 57, 4]
          [.eqv (.slice la l.length c), .eqv (.string S), .eqv (.string Q), .eqv (.slice la l.length c), .eqv (.string S), .eqv (.string Q), .eqv (.bool true), .eqv (.bool true), .eqv (.bool true), .eqv (.bool true), .eqv (.bool true)]
          (by kernel_rfl) (by kernel_rfl) rfl (by decide) (of_decide_eq_true (by kernel_rfl)) ?_ ?_
        · refine ⟨?_, ?_, ?_, ?_, ?_, ?_, ?_, ?_, ?_, ?_, ?_, True.intro⟩
          · refine stepG_val rfl fun a w hF hB hD => ⟨rg_free rfl _, ?_⟩
            have h0 : a.eval (.tmp 0) = .slice la l.length c := (hF 0 (by decide)).trans rfl
            unfold execOp
            simp only [h0]
            simp [go_sem]
          · refine stepG_val rfl fun a w hF hB hD => ⟨rg_free rfl _, ?_⟩
            have h48 : a.eval (.tmp 48) = .slice la l.length c := hD 0 rfl
            unfold execOp
            simp only [h48]
            exact run_v (HCV.out w hB)
          · refine stepG_call fun a w hF hB hD => ⟨rg_free rfl _, 12, ?_⟩
            have h49 : a.eval (.tmp 49) = .string S := hD 1 rfl
            refine ⟨#[.string S], ?_, ?_⟩
            · unfold execOp
              simp [go_sem, rg_tmp h49]
            · exact (HQ1.out w).mono fun e w' ⟨h, k⟩ => ⟨_, h, rfl, k⟩
          · refine stepG_val rfl fun a w hF hB hD => ⟨rg_free rfl _, ?_⟩
            have h0 : a.eval (.tmp 0) = .slice la l.length c := (hF 0 (by decide)).trans rfl
            unfold execOp
            simp only [h0]
            simp [go_sem]
          · refine stepG_val rfl fun a w hF hB hD => ⟨rg_free rfl _, ?_⟩
            have h51 : a.eval (.tmp 51) = .slice la l.length c := hD 3 rfl
            unfold execOp
            simp only [h51]
            exact run_v (HCV.out w hB)
          · refine stepG_call fun a w hF hB hD => ⟨rg_free rfl _, 13, ?_⟩
            have h52 : a.eval (.tmp 52) = .string S := hD 4 rfl
            refine ⟨#[.string S], ?_, ?_⟩
            · unfold execOp
              simp [go_sem, rg_tmp h52]
            · exact (HQ2.out w).mono fun e w' ⟨h, k⟩ => ⟨_, h, rfl, k⟩
          · refine stepG_val rfl fun a w hF hB hD => ⟨rg_free rfl _, ?_⟩
            have h50 : a.eval (.tmp 50) = .string Q := hD 2 rfl
            have h53 : a.eval (.tmp 53) = .string Q := hD 5 rfl
            unfold execOp
            simp only [h50, h53]
            simp [go_sem]
          · refine stepG_val rfl fun a w hF hB hD => ⟨rg_free rfl _, ?_⟩
            have h54 : a.eval (.tmp 54) = .bool true := hD 6 rfl
            unfold execOp
            simp only [h54]
            simp [go_sem]
          · refine stepG_call fun a w hF hB hD => ⟨rg_on (d := 55) rfl rfl (hD 7 rfl), 8, #[], ?_, (awake8_x w).mono fun e w' ⟨h, k⟩ => ⟨_, h, rfl, k⟩⟩
            unfold execOp
            simp [go_sem]
          · refine stepG_val rfl fun a w hF hB hD => ⟨rg_free rfl _, ?_⟩
            have h55 : a.eval (.tmp 55) = .bool true := hD 7 rfl
            have h56 : a.eval (.tmp 56) = .bool true := hD 8 rfl
            unfold execOp
            simp only [h55, h56]
            simp [go_sem]
          · refine stepG_val rfl fun a w hF hB hD => ⟨rg_free rfl _, ?_⟩
            have h57 : a.eval (.tmp 57) = .bool true := hD 9 rfl
            unfold execOp
            simp only [h57]
            simp [go_sem]
        · rintro ⟨T, Df⟩ w7 hd _ _ hsp hb7
          obtain rfl : Df = [] := hd
          have h4 : T.getD 4 undef = .bool true := hsp 10 (by decide)
          clear hsp
          go_wp2
          go_ret
          exact ⟨by rw [h4], below_next BW hb7⟩
end Go.Proofs.Ytbbaeipobgomdaa
