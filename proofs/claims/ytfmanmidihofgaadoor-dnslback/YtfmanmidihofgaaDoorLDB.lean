/- DnslBack: whatever numbers, whatever parts, the law answers true: texts that are rows. -/
import Derived.Test.YtfmanmidihofgaaDoorXp
import Derived.Test.YtfmanmidihofgaaDoorXu
import Derived.Test.YtfmanmidihofgaaDoorXw
import Derived.Test.YtfmanmidihofgaaDoorXq
import Derived.Test.YtfmanmidihofgaaDoorXt
import Derived.Test.YtfmanmidihofgaaDoorRg2
import Derived.Test.YtfmanmidihofgaaDoorLb10
import Derived.Test.YtfmanmidihofgaaDoorXj
import Derived.Deep.QuietTactic
import Derived.Deep.CutBlock
import Derived.Deep.RegionWith
namespace Go.Proofs.YtfmanmidihofgaaDoor
open Go.ChangeShapes Go.WideShapes Go.RowKit Go.Sort
/-- The signs of the law's own parts. -/
def letts : Bs := [97, 98, 32, 48, 49, 35, 61, 45, 46, 58]
def lettB (c : UInt8) : UInt8 := letts.getD (c.toNat % 10) 0
theorem lett_ok (c : UInt8) : partB (lettB c) = true := by
  have : ∀ k, k < 10 → partB (letts.getD k 0) = true := by decide
  exact this _ (by omega)
theorem lett_take {l : Bs} {k : Nat} {c : UInt8} (h : l[k]? = some c) : (l.take (k + 1)).map lettB = (l.take k).map lettB ++ [lettB c] := by
  rw [List.take_add_one, h, List.map_append]; rfl
theorem lett_at (m : Nat) (hm : m < 10) (V : World) : (Instr.index 9 (.string ⟨#[97, 98, 32, 48, 49, 35, 61, 45, 46, 58]⟩) (.int .u8 (m : Int))).run Tryd.prog V = .ok (.int .u8 ((letts.getD m 0).toNat : Int)) V := by
  have e : (⟨#[97, 98, 32, 48, 49, 35, 61, 45, 46, 58]⟩ : ByteArray) = baS letts := rfl
  rw [e, run_index_string V 9 (baS letts) .u8 (m : Int) Tryd.underlying9, dif_pos ⟨by omega, by rw [baS_size]; show (m : Int) < 10; omega⟩]
  match m, hm with
  | 0, _ => rfl
  | 1, _ => rfl
  | 2, _ => rfl
  | 3, _ => rfl
  | 4, _ => rfl
  | 5, _ => rfl
  | 6, _ => rfl
  | 7, _ => rfl
  | 8, _ => rfl
  | 9, _ => rfl
theorem u8_and255' (n : Nat) (h : n < 256) : (bits BinOp.and IntKind.u8 (n : Int) 255).tmod 10 = ((n % 10 : Nat) : Int) := by
  have : ∀ n : Nat, n < 256 → (bits BinOp.and IntKind.u8 (n : Int) 255).tmod 10 = ((n % 10 : Nat) : Int) := by decide +kernel
  exact this n h
theorem grown_drew {W w4 : World} {row : Option Nat} (h : W.grownBy w4 row) : W.drew.grownBy w4 row := ⟨h.os, h.tape, h.output, h.size, h.block⟩
/-- What is known of the law's own parts. -/
def okTs (ts : List Tk) : Prop := ∀ t ∈ ts, t.1 = 6 ∧ t.2.1.length ≤ 200 ∧ ∀ c ∈ t.2.1, partB c = true
theorem okTs_snoc {ts : List Tk} {s : Bs} (h : okTs ts) (h1 : s.length ≤ 200) (h2 : ∀ c ∈ s, partB c = true) : okTs (ts ++ [(6, s, 0)]) := fun t ht => by
  rcases List.mem_append.1 ht with h3 | h3
  · exact h t h3
  · simp at h3; subst h3; exact ⟨rfl, h1, h2⟩
theorem okRw_of {ts : List Tk} (h : okTs ts) (hne : ts ≠ []) : okRw ([107, 101, 121], ts, 0) :=
  ⟨by simp, (by decide : ∀ c ∈ ([107, 101, 121] : Bs), keyB c = true), hne, fun t ht => ⟨(h t ht).1, by have := (h t ht).2.1; omega, (h t ht).2.2⟩⟩
theorem okTs_len {ts : List Tk} (h : okTs ts) : (rowT (([107, 101, 121], ts, 0) : Rw)).length ≤ 4 + 201 * ts.length := by
  have h2 := joinP_sum (ts.map fun t => t.2.1)
  have h3 : ((ts.map fun t => t.2.1).map fun s => s.length + 1).sum ≤ 201 * ts.length := by
    induction ts with
    | nil => simp
    | cons a q ih =>
      have := ih (fun t ht => h t (by simp [ht])) (joinP_sum _)
      have h4 := (h a (by simp)).2.1
      rw [List.map_cons, List.map_cons, List.sum_cons, List.length_cons]; omega
  unfold rowT
  rw [List.length_append, List.length_cons]; simp at h2 h3 ⊢; omega
theorem same_texts {ts us : List Tk} (h : ts.map (fun t => t.2.1) = us.map (fun t => t.2.1)) : ts.length = us.length ∧ ∀ (j : Nat) (t u : Tk), ts[j]? = some t → us[j]? = some u → t.2.1 = u.2.1 := by
  refine ⟨by have := congrArg List.length h; simpa using this, fun j t u h1 h2 => ?_⟩
  have := congrArg (·[j]?) h
  simpa [h1, h2] using this
set_option maxRecDepth 100000 in
theorem stepS10r {ops : Array Oper} {o : Oper} {a : Act} {K : Act → World → Prop} {Q : Exit → Act → World → Prop} {E : Prop} (w : World) (hgd : o.guard = none) (s x : Operand)
    (ho : o.op = .call { callee := .builtin .append, args := #[s, x], argTypes := #[29, 9] }) (base : Nat) (p : Option Addr) (q : Nat) (acc t R : Bs) (hR : acc ++ t = R) (hs : a.eval s = .slice p acc.length q) (hown : w.ownsRow base 5 1 (.slice p acc.length q) acc.length (cellsB acc))
    (hx : a.eval x = .string (baS t)) (hlen : acc.length ≤ 1000000) (hlt : t.length ≤ 1000000) (hbase : base ≤ w.heap.size)
    (h : ∀ p' q' w', AppT w base R p' q' w' → K (a.put o.dst (.slice p' R.length q')) w') : if Region.wanted o (yielded ops a.tmps) = true then Oper.wp Tryd.prog o a w K Q else E := by
  subst hR
  exact stepS10 w hgd s x ho base p q acc t hs hown hx hlen hlt hbase (fun p' q' w' hT => by have := h p' q' w' hT; rwa [List.length_append] at this)
set_option maxRecDepth 100000 in
theorem stepB10r {ops : Array Oper} {o : Oper} {a : Act} {K : Act → World → Prop} {Q : Exit → Act → World → Prop} {E : Prop} (w : World) (hgd : o.guard = none) (s x : Operand)
    (ho : o.op = .call { callee := .builtin .append, args := #[s, x], argTypes := #[29, 29] }) (base : Nat) (p : Option Addr) (q : Nat) (acc : Bs) (ax : Option Addr) (c : Nat) (t R : Bs) (hR : acc ++ t = R) (hs : a.eval s = .slice p acc.length q) (hown : w.ownsRow base 5 1 (.slice p acc.length q) acc.length (cellsB acc))
    (hx : a.eval x = .slice ax t.length c) (base2 : Nat) (hB : w.ownsRow base2 5 1 (.slice ax t.length c) t.length (cellsB t)) (hlen : acc.length ≤ 1000000) (hlt : t.length ≤ 1000000) (hbase : base ≤ w.heap.size)
    (h : ∀ p' q' w', AppT w base R p' q' w' → K (a.put o.dst (.slice p' R.length q')) w') : if Region.wanted o (yielded ops a.tmps) = true then Oper.wp Tryd.prog o a w K Q else E := by
  subst hR
  exact stepB10 w hgd s x ho base p q acc ax c t hs hown hx base2 hB hlen hlt hbase (fun p' q' w' hT => by have := h p' q' w' hT; rwa [List.length_append] at this)
theorem below_size {w V : World} (h : Below w.heap.size w V) : w.heap.size ≤ V.heap.size := h.size
theorem row_parts_le {L : List Rw} (h : (printD L).length ≤ 20000) {j : Nat} {r : Rw} (hj : L[j]? = some r) : r.2.1.length ≤ 1000000 := by
  have h1 := printD_take hj
  have h2 := printD_le L (j + 1)
  have h3 := joinP_ge (fun s => s) (textsOf r.2.1)
  rw [texts_len] at h3
  rw [h1, rowT_is, List.length_append, List.length_append, List.length_append, List.length_append] at h2
  omega
set_option maxHeartbeats 32000000 in
set_option maxRecDepth 100000 in
theorem dback_ok (b : Option Addr) (zs : List Int) (d : Nat) (fa : Option Addr) (F : List Bs) (fc : Nat) (z : Int) (w : World) (hi : IntsAt w b zs) (hz : ∀ z ∈ zs, (Lit.int .i64 z).wf = true) (hF : BytessAt w fa F) (L : List Rw) (hok : rowsV (textQ zs) = .ok L) :
    Calls Tryd.prog 6 #[.slice b zs.length d, .slice fa F.length fc, .int .i64 z] w fun e w' => e = .returned (.bool true) ∧ Below w.heap.size w w' := by
  have HI := Lib.hid hi
  have HZ := Lib.hid hz
  have HF := Lib.hid hF
  have HOK := Lib.hid hok
  have htl := textQ_len zs
  have hLok := Lib.hid (rowsV_ok hok)
  have hfit := (rows_fit hok).1
  have hLlen : L.length ≤ 10000 := by have := printD_ge L; omega
  clear hi hz hF hok
  go_enter Tryd.func6, Tryd.ntmps6
  go_wp2_with fail
  refine (textQ_x zs b d w HI.out HZ.out).mono ?_
  rintro e w1 ⟨hb1, p1, q1, rfl, hown1⟩
  have KB1 := Lib.hid (bytes_own hown1)
  have cap1 := own_cap hown1
  clear hown1
  go_wp2_with fail
  refine (parse10o_x (textQ zs) p1 q1 w1 KB1.out cap1 (by omega)).mono ?_
  intro e w2 h2
  unfold RowsO at h2
  rw [HOK.out] at h2
  obtain ⟨⟨p, c, vs, base, rfl, hout, hbase, hbase0, _⟩, hb2⟩ := h2
  have B2 := below_next hb1 hb2
  have hz12 := hb1.size
  have HBW0 : Hid (w.heap.size ≤ base) := Lib.hid (by omega)
  clear hbase0
  go_upto_region 2 with fail
  generalize hw3 : w2.alloc _ = w3
  have B3 : Below w.heap.size w w3 := hw3 ▸ ball B2
  have x0 : w3.cell? ⟨w2.heap.size, 0, none⟩ = some (.int .i64 0) := by subst hw3; simp [go_sem]
  have o3 : OutW w3 base p c L vs := hw3 ▸ hout.below (ball (Below.refl _ _))
  have HB3 : Hid (base ≤ w3.heap.size) := Lib.hid (by subst hw3; simp; omega)
  clear hw3 hb1 hb2 B2 hout KB1 cap1
  generalize w2.heap.size = XE at *
  go_upto_region 5 with fail
  generalize hw4 : w3.alloc _ = w4
  have b34 : Below w3.heap.size w3 w4 := hw4 ▸ ball (Below.refl _ _)
  have R4 : RowB w3.heap.size w4 [107, 101, 121] (.slice none 0 0) 0 := by subst hw4; exact ⟨by simp [go_sem]; rfl, by simp [go_sem], by simp [go_sem], fun o => by simp [go_sem], by simp⟩
  have hz4 : w4.heap.size = w3.heap.size + 1 := by subst hw4; simp
  have HBW : Hid (w.heap.size ≤ base) := HBW0
  have HZ4 := Lib.hid hz4
  clear hw4 x0 hz4
  go_upto_block 0 with fail
  go_cut [10] (fun _ wx => ∃ (ts : List Tk) (p5 : Option Addr) (c5 : Nat), RowB w3.heap.size wx [107, 101, 121] (.slice p5 ts.length c5) 0 ∧ wx.ownsRow w4.heap.size 36 3 (.slice p5 ts.length c5) ts.length (ts.flatMap cellsK) ∧ Hid (okTs ts) ∧ ts.length ≤ 10 ∧ w4.heap.size ≤ wx.heap.size ∧ Below w3.heap.size w3 wx)
  case first =>
    obtain ⟨i0, hi, hz0, hz1, hz2⟩ := info_parts infoT10
    go_wp2_with fail
    go_loopw [10] (fun iv wr => ∃ (ts : List Tk) (p5 : Option Addr) (c5 : Nat), iv = .int .i64 (ts.length : Int) ∧ ts.length ≤ F.length ∧ RowB w3.heap.size wr [107, 101, 121] (.slice p5 ts.length c5) 0 ∧ wr.ownsRow w4.heap.size 36 3 (.slice p5 ts.length c5) ts.length (ts.flatMap cellsK) ∧ Hid (okTs ts) ∧ ts.length ≤ 10 ∧ w4.heap.size ≤ wr.heap.size ∧ Below w3.heap.size w3 wr) (fun iv _ => F.length + 1 - intN iv)
    case atStart => exact ⟨[], none, 0, rfl, Nat.zero_le _, R4, World.ownsRow_nil _ _ _ _, Lib.hid (fun t ht => by simp at ht), by simp, Nat.le_refl _, b34⟩
    case round =>
      clear R4 b34
      obtain ⟨ts, p5, c5, rfl, hiF, hR, hown, hts, ht10, hzr, hb⟩ := hrel
      by_cases hgo : ts.length < F.length ∧ ts.length < 10
      · obtain ⟨hlt, hlt10⟩ := hgo
        obtain ⟨ad, lp, lc, hfa, hadb, hcell0, hcap, hby⟩ := HF.out ts.length _ (List.getElem?_eq_getElem hlt)
        generalize F[ts.length]'hlt = l at *
        subst hfa
        have HCE : Hid (∀ V, Below w3.heap.size w3 V → V.cell? (ad.add ts.length) = some (.slice lp l.length lc)) := Lib.hid (fun V hV => ((below_next B3 hV).cell (p := ad.add ts.length) (by rw [add_block]; exact hadb)).trans hcell0)
        have HB := Lib.hid (fun V (hV : Below w3.heap.size w3 V) => hby.below (below_next B3 hV))
        have hcell := HCE.out wr hb
        generalize hn : ts.length = n at *
        have HN := Lib.hid hn
        clear hcell0 hby hn hcap
        have hlt10' : (n : Int) < 10 := by omega
        go_wp2_with fail
        go_loopw [11, 12] (fun sv kv wx => ∃ k : Nat, kv = .int .i64 (k : Int) ∧ k ≤ l.length ∧ k ≤ 200 ∧ sv = .string (baS ((l.take k).map lettB)) ∧ Below wr.heap.size wr wx) (fun _ kv _ => l.length + 1 - intN kv)
        case atStart => exact ⟨0, rfl, Nat.zero_le _, Nat.zero_le _, by simp [baS], Below.refl _ _⟩
        case round =>
          clear hcell
          obtain ⟨k, rfl, hk, hk200, rfl, hbx⟩ := hrel
          have hbw : Below w3.heap.size w3 wr := below_next hb hbx
          have hcell := HCE.out wr hbw
          by_cases hkl : k < l.length ∧ k < 200
          · obtain ⟨hkl1, hkl2⟩ := hkl
            have hkl2' : (k : Int) < 200 := by omega
            obtain ⟨ad2, hlp⟩ : ∃ ad2, lp = some ad2 := by
              obtain ⟨ad2, e, _⟩ := (HB.out wr hbw) k _ (List.getElem?_eq_getElem hkl1)
              exact ⟨ad2, e⟩
            subst hlp
            have hcb := bytesAt_cell (HB.out wr hbw) k hkl1
            have HT := Lib.hid (lett_take (List.getElem?_eq_getElem hkl1))
            generalize l[k]'hkl1 = cb at *
            have hma := u8_and255' cb.toNat cb.toNat_lt
            have hxx := lett_at (cb.toNat % 10) (by omega)
            have hll : letts.getD (cb.toNat % 10) 0 = lettB cb := rfl
            rw [hll] at hxx
            have hadd := fun V => addS ((l.take k).map lettB) [lettB cb] (by simp; omega) (by simp) V
            have HNN : Hid (baS ((l.take (k + 1)).map lettB) = baS ((l.take k).map lettB ++ [lettB cb])) := Lib.hid (by rw [HT.out])
            have hbe1 : (convert 29 9 (.slice (some ⟨wr.heap.size, 0, none⟩) 1 1)).run Tryd.prog (wr.alloc (.cells #[.int .u8 ((lettB cb).toNat : Int)] 5)) = .ok (.string (baS [lettB cb])) (wr.alloc (.cells #[.int .u8 ((lettB cb).toNat : Int)] 5)) := by
              have := byteE wr (lettB cb).toNat (lettB cb).toNat_lt
              rwa [show UInt8.ofNat (lettB cb).toNat = lettB cb by simp] at this
            clear HT hll
            generalize baS ((l.take k).map lettB ++ [lettB cb]) = S2 at *
            generalize baS ((l.take k).map lettB) = S1 at *
            generalize baS [lettB cb] = S0 at *
            generalize (lettB cb).toNat = u at *
            generalize cb.toNat % 10 = m at *
            generalize cb.toNat = cu at *
            go_wp2_with fail
            exact ⟨⟨k + 1, by simp, by omega, by omega, by rw [HNN.out], ball hbx⟩, by simp [intN]; omega⟩
          · have hsl : ((l.take k).map lettB).length ≤ 200 := by simp; omega
            have hsq : ∀ c ∈ (l.take k).map lettB, partB c = true := fun c hc => by
              obtain ⟨d, _, rfl⟩ := List.mem_map.1 hc
              exact lett_ok d
            have hRx := hR.next (hbx.mono (by have := hR.lt; omega))
            have hownx := own_next hown hbx
            have hzx := hbx.size
            have HSS := Lib.hid hsl
            have HSQ := Lib.hid hsq
            clear hsl hsq hown hR
            generalize (l.take k).map lettB = s at *
            go_upto_region 10 with fail
            go_cut [68] (fun bv wx => bv = .bool false ∧ wx = wr)
            case first =>
              by_cases hx : k < l.length
              · have h200 : ¬ ((k : Int) < 200) := by omega
                clear hkl
                go_wp2_with fail
                go_meet
                exact ⟨by first | rfl | trivial | simp, by first | rfl | trivial⟩
              · have hx2 : ¬ ((k : Int) < (l.length : Int)) := by omega
                clear hkl hx
                go_wp2_with fail
                go_meet
                exact ⟨by first | rfl | trivial | simp, by first | rfl | trivial⟩
            case rest =>
              obtain ⟨rfl, hwc⟩ := hcut
              rw [hwc]
              clear hwc hkl hcell
              have hd1 := hRx.c1
              have hdf := hRx.fz 1
              have HE : Hid (cellsK (6, s, 0) = [.int .i64 6, .string (baS s), .int .i64 0]) := Lib.hid rfl
              generalize hS : baS s = S at *
              have HS := Lib.hid hS
              clear hS
              have htl10 : ts.length ≤ 9 := by have := HN.out; omega
              rw [← HN.out] at hd1 hownx ⊢
              go_wp2_with (at_builtin; refine wpList_append_lies _ (by rfl) _ _ 30 (by rfl) w4.heap.size 36 i0 (.agg #[.int .i64 0, .string .empty, .int .i64 0]) 3 32 Tryd.underlying30 hi hz0 hz1 hz2 rfl (by decide) _ _ _ (by rfl) (hownx.alloc _) ⟨wr.heap.size, 0, none⟩ 1 1 [.int .i64 6, .string S, .int .i64 0] (by rfl) (by rfl) three10 (fun x hx => by simp at hx; rcases hx with rfl | rfl | rfl <;> rfl) (by decide) (by unfold maxLen; omega) (by omega) (by simp; omega) (wr.heap.size + 1) (by simp) ?_)
              intro g3 cap w6 hown6 hgrow hat hlt6
              rw [← HN.out] at hRx
              obtain ⟨X6, hX6, R6, O6, S6, B6⟩ := growT (t := (6, s, 0)) (cs := [.int .i64 6, .string S, .int .i64 0]) hbw hRx hownx (by have := HZ4.out; omega) (by omega) (grown_drew hgrow) hown6 HE.out
              have ag : (Value.slice p5 ts.length c5).ownBlock ≠ some w3.heap.size := fun e => by
                have h1 := (hownx.lt _ e).1
                have h2 : w4.heap.size = w3.heap.size + 1 := HZ4.out
                omega
              have hlx : w3.heap.size < wr.heap.size := hRx.lt
              have hlx2 : w3.heap.size < (wr.alloc (.cells #[.int .i64 6, .string S, .int .i64 0] 36)).heap.size := by simp; omega
              have hd6 : w6.cell? ⟨w3.heap.size, 1, none⟩ = some (.slice p5 ts.length c5) := (hgrow.cell_far ⟨w3.heap.size, 1, none⟩ hlx2 (Ne.symm ag)).trans (((ball (Below.refl wr.heap.size wr)).cell (p := ⟨w3.heap.size, 1, none⟩) hlx).trans hd1)
              have hf6 : w6.frozen? ⟨w3.heap.size, 1, none⟩ = false := (hgrow.frozen_far ⟨w3.heap.size, 1, none⟩ hlx2 (Ne.symm ag)).trans (((ball (Below.refl wr.heap.size wr)).frozen (p := ⟨w3.heap.size, 1, none⟩) hlx).trans hdf)
              clear hgrow hat hown6 hd1 hdf
              go_wp2_with fail
              exact ⟨⟨ts ++ [(6, s, 0)], some ⟨g3, 0, none⟩, cap, by simp, by have := HN.out; rw [List.length_append]; simp; omega, R6, O6, Lib.hid (okTs_snoc hts.out HSS.out HSQ.out), by rw [List.length_append]; simp; omega, S6, B6⟩, by have := HN.out; simp [intN]; omega⟩
      · clear HF HZ HI
        go_upto_region 6 with fail
        go_cut [55] (fun bv wx => bv = .bool false ∧ wx = wr)
        case first =>
          by_cases hx : ts.length < F.length
          · have h10 : ¬ ((ts.length : Int) < 10) := by omega
            clear hgo
            go_wp2_with fail
            go_meet
            exact ⟨by first | rfl | trivial | simp, by first | rfl | trivial⟩
          · have hx2 : ¬ ((ts.length : Int) < (F.length : Int)) := by omega
            clear hgo hx
            go_wp2_with fail
            go_meet
            exact ⟨by first | rfl | trivial | simp, by first | rfl | trivial⟩
        case rest =>
          obtain ⟨rfl, hwc⟩ := hcut
          rw [hwc]
          clear hwc hgo
          go_wp2_with fail
          go_meet
          exact ⟨ts, p5, c5, hR, hown, hts, ht10, hzr, hb⟩
  case rest =>
    clear R4 b34
    obtain ⟨ts, p5, c5, hR, hown, hts, ht10, hzr, hb⟩ := hcut
    have BW : Below w.heap.size w wc := below_next B3 hb
    have oW : OutW wc base p c L vs := o3.below hb
    have hTk := tokK_own hown
    have r0 := hR.c0
    have r1 := hR.c1
    have r2 := hR.c2
    have hzw := hb.size
    have hb3 : base ≤ w3.heap.size := HB3.out
    go_upto_if 95 with fail
    go_cut [7] (fun xv wx => ∃ (L2 : List Rw) (p2 : Option Addr) (c2 : Nat), xv = .slice p2 L2.length c2 ∧ Hid (RecW wx p2 L2 ∧ L2.length ≤ c2) ∧ Hid (∀ r ∈ L2, okRw r) ∧ L2.length ≤ 20000 ∧ Hid ((printD L2).length ≤ 20000) ∧ Below w.heap.size w wx)
    case first =>
      by_cases hp0 : 0 < ts.length
      · have hne : ts ≠ [] := fun e => by rw [e] at hp0; simp at hp0
        have hok2 := okRw_of hts.out hne
        have hl2 := okTs_len hts.out
        have hsep : ∀ g, p5 = some ⟨g, 0, none⟩ → base ≤ g ∧ g < wc.heap.size ∧ (Value.slice p L.length c).ownBlock ≠ some g := fun g hg => by
          subst hg
          have h1 := hown.lt g rfl
          have h2 : w4.heap.size = w3.heap.size + 1 := HZ4.out
          exact ⟨by omega, h1.2, fun e => by have := (o3.own.lt g e).2; omega⟩
        have hbw2 : base ≤ wc.heap.size := by omega
        have HSEP := Lib.hid hsep
        have HTK := Lib.hid hTk
        clear hsep hTk
        go_wp2_with (at_builtin; refine appW _ (by rfl) _ _ (by rfl) base p c L vs (by rfl) (oW.below (ball (Below.refl _ _))) wc.heap.size 1 p5 c5 ([107, 101, 121], ts, 0) (by rfl) (by exact three8) (HTK.out.below (ball (Below.refl _ _))) (fun g hg => ⟨(HSEP.out g hg).1, by have := (HSEP.out g hg).2.1; simp; omega, (HSEP.out g hg).2.2⟩) (by omega) (by simp; omega) ?_)
        intro g8 cap8 w8 hA
        obtain ⟨o8, hg8, hbel⟩ := hA
        have HP2 : Hid ((printD (L ++ [(([107, 101, 121], ts, 0) : Rw)])).length ≤ 20000) := Lib.hid (by
          have e : (printD (L ++ [(([107, 101, 121], ts, 0) : Rw)])).length = (printD L).length + ((rowT ([107, 101, 121], ts, 0)).length + 1) := by simp [printD]
          rw [e]; omega)
        have HO2 : Hid (∀ r ∈ L ++ [(([107, 101, 121], ts, 0) : Rw)], okRw r) := Lib.hid (fun r hr => by
          rcases List.mem_append.1 hr with h | h
          · exact hLok.out r h
          · rw [List.mem_singleton] at h; subst h; exact hok2)
        have B8 : Below w.heap.size w w8 := (BW.alloc BW.size _).grown hg8 (by simp; have := BW.size; omega) (fun j e => by have := (oW.own.lt j e).1; have := HBW.out; omega)
        clear hbel hg8 hok2 hl2
        go_wp2_with fail
        go_meet
        exact ⟨L ++ [([107, 101, 121], ts, 0)], some ⟨g8, 0, none⟩, cap8, by simp, Lib.hid ⟨o8.read, o8.cap⟩, HO2, by simp; omega, HP2, B8⟩
      · have hp00 : ¬ ((0 : Int) < (ts.length : Int)) := by omega
        clear hp0
        go_wp2_with fail
        go_meet
        exact ⟨L, p, c, rfl, Lib.hid ⟨oW.read, oW.cap⟩, hLok, by omega, Lib.hid (by omega), BW⟩
    case rest =>
      clear hTk r0 r1 r2 oW BW hzw hb3 hown hts hb o3 hLok HB3 HZ4 HBW hR B3 hLlen hfit HZ HI HOK htl
      obtain ⟨L2, p2, c2, rfl, hREC, hOK2, hl2, hp2, Bx⟩ := hcut
      go_wp2_with fail
      refine (print10_x L2 p2 c2 _ hREC.out.1 (by have := hp2.out; omega)).mono ?_
      rintro e w5 ⟨hb5, p6, q6, rfl, ho6⟩
      have B5 := below_next Bx hb5
      have R5 : Hid (RecW w5 p2 L2) := Lib.hid (hREC.out.1.below hb5)
      have C5 : L2.length ≤ c2 := hREC.out.2
      have HO6 := Lib.hid ho6
      clear ho6 hb5 hREC Bx
      go_upto_if 104 with fail
      go_cut [13] (fun bv wx => ∃ (p : Option Addr) (q : Nat) (Bt : Bs), bv = .slice p Bt.length q ∧ Hid (BytesAt wx p Bt) ∧ Bt.length ≤ q ∧ Bt.length ≤ 100000 ∧ Hid (∃ L', rowsV Bt = .ok L' ∧ L'.length = L2.length ∧ ∀ (j : Nat) (r : Rw), L2[j]? = some r → ∃ s, L'[j]? = some s ∧ SameRw r s) ∧ Hid (Below w5.heap.size w5 wx))
      case first =>
        by_cases hn0 : 0 < L2.length
        · have hn0' : (0 : Int) < (L2.length : Int) := by omega
          obtain ⟨k, hk, hkn⟩ : ∃ k : Nat, (bits BinOp.and IntKind.i64 z 255).tmod (L2.length : Int) = (k : Int) ∧ k < L2.length := ⟨((z % 256) % (L2.length : Int)).toNat, by
            rw [i64_and255, Int.tmod_eq_emod_of_nonneg (by omega), Int.toNat_of_nonneg (Int.emod_nonneg _ (by omega))], by
            have := Int.emod_lt_of_pos (z % 256) hn0'
            have := Int.emod_nonneg (z % 256) (show (L2.length : Int) ≠ 0 by omega)
            omega⟩
          obtain ⟨r, hr⟩ : ∃ r, L2[0]? = some r := ⟨_, List.getElem?_eq_getElem hn0⟩
          obtain ⟨g, _, _, rfl, hg5, _⟩ := R5.out 0 r hr
          have hne0 : ¬ ((L2.length : Int) = 0) := by omega
          have hs1 := fun V => rowsTo g L2.length c2 k (by omega) V
          have hs2 := fun V => rowsFrom g L2.length c2 k (by omega) (by omega) V
          have hlk : (L2.take k).length = k := by simp; omega
          have hld : (L2.drop k).length = L2.length - k := by simp
          have hAl := Lib.hid (printD_le L2 k)
          have hDl : Hid ((printD (L2.drop k)).length ≤ (printD L2).length) := Lib.hid (by
            have e : printD L2 = printD (L2.take k) ++ printD (L2.drop k) := by
              unfold printD; rw [← List.flatMap_append, List.take_append_drop]
            rw [e, List.length_append]; omega)
          have HPA : Hid (∀ V, Below w5.heap.size w5 V → Calls Tryd.prog 12 #[.slice (some ⟨g, 0, none⟩) k c2] V fun e w' => ∃ p q, e = .returned (.slice p (printD (L2.take k)).length q) ∧ w'.ownsRow V.heap.size 5 1 (.slice p (printD (L2.take k)).length q) (printD (L2.take k)).length (cellsB (printD (L2.take k))) ∧ Below V.heap.size V w') := Lib.hid (fun V hV => by
            have h := print10_x (L2.take k) (some ⟨g, 0, none⟩) c2 V (RecW.take (R5.out.below hV) k) (by have := hAl.out; have := hp2.out; omega)
            rw [hlk] at h
            exact h.mono fun e w' ⟨hbb, pp, qq, he, ho⟩ => ⟨pp, qq, he, ho, hbb⟩)
          have HPB : Hid (∀ V, Below w5.heap.size w5 V → Calls Tryd.prog 12 #[.slice (some ⟨g, k * 3, none⟩) (L2.length - k) (c2 - k)] V fun e w' => ∃ p q, e = .returned (.slice p (printD (L2.drop k)).length q) ∧ w'.ownsRow V.heap.size 5 1 (.slice p (printD (L2.drop k)).length q) (printD (L2.drop k)).length (cellsB (printD (L2.drop k))) ∧ Below V.heap.size V w') := Lib.hid (fun V hV => by
            have h := print10o_x (L2.drop k) g (k * 3) (c2 - k) V (RecW.drop (R5.out.below hV) k) (by have := hDl.out; have := hp2.out; omega)
            rw [hld] at h
            exact h.mono fun e w' ⟨hbb, pp, qq, he, ho⟩ => ⟨pp, qq, he, ho, hbb⟩)
          have HBK := Lib.hid (back_all L2 k hOK2.out)
          have hA2 : (printD (L2.take k)).length ≤ 20000 := by have := hAl.out; have := hp2.out; omega
          have hB2 : (printD (L2.drop k)).length ≤ 20000 := by have := hDl.out; have := hp2.out; omega
          clear hlk hld hAl hDl hr HO6
          generalize printD (L2.take k) = PA at *
          generalize printD (L2.drop k) = PB at *
          generalize k * 3 = k3 at *
          generalize L2.length - k = nk at *
          generalize c2 - k = ck at *
          generalize L2.length = n2 at *
          go_upto_region 20 with fail
          have BX := Below.refl w5.heap.size w5

          obtain ⟨PS, ePS⟩ : ∃ PS, PA ++ [10, 35, 32, 97, 61, 98, 10, 10] = PS := ⟨_, rfl⟩
          obtain ⟨Bt, eBt⟩ : ∃ Bt, PS ++ PB = Bt := ⟨_, rfl⟩
          have hS2 : PS.length ≤ 20008 := by rw [← ePS, List.length_append]; simp; omega
          have hBt2 : Bt.length ≤ 100000 := by rw [← eBt, List.length_append]; omega
          have HBT : Hid (PA ++ [10, 35, 32, 97, 61, 98, 10, 10] ++ PB = Bt) := Lib.hid (by rw [ePS, eBt])
          go_region_held3 (fun _ => True) (trivial)
            (first
              | (go_at_call 12; with_reducible refine Calls.mono (HPA.out _ (by first | exact BX | exact Below.drew BX | exact ball BX | exact Below.drew (ball BX))) ?_; rintro e w9 ⟨pa, qa, rfl, oA, hbA⟩; have BX := below_next (W := w5) (by first | exact BX | exact Below.drew BX | exact ball BX | exact Below.drew (ball BX)) hbA; try (have R0 := own_next (own_next (emptyB10 w5 w5.heap.size (Nat.le_refl _)) (by first | exact Below.refl _ _ | exact Below.drew (Below.refl _ _) | exact ball (Below.refl _ _) | exact Below.drew (ball (Below.refl _ _)))) hbA))
              | (go_at_call 12; with_reducible refine Calls.mono (HPB.out _ BX) ?_; rintro e w9 ⟨pb, qb, rfl, oB, hbB⟩; have BX := below_next BX hbB; have oT := own_next oT hbB)
              | (refine stepB10r _ (by rfl) (.tmp 110) (.tmp 114) (by rfl) w5.heap.size _ _ [] _ _ PA PA (List.nil_append PA) (by rfl) R0 (by rfl) _ oA (by simp) (by omega) BX.size ?_; rintro p7 q7 w7 ⟨oT, hT⟩; have BX := hT w5.heap.size w5 (Nat.le_refl _) BX)
              | (refine stepB10r _ (by rfl) (.tmp 110) (.tmp 114) (by rfl) w5.heap.size _ _ [] _ _ PA PA (List.nil_append PA) (by rfl) (own_next (emptyB10 w9 w5.heap.size BX.size) (by first | exact Below.refl _ _ | exact Below.drew (Below.refl _ _) | exact ball (Below.refl _ _) | exact Below.drew (ball (Below.refl _ _)))) (by rfl) _ (own_next oA (by first | exact Below.refl _ _ | exact Below.drew (Below.refl _ _) | exact ball (Below.refl _ _) | exact Below.drew (ball (Below.refl _ _)))) (by simp) (by omega) (below_size (by first | exact BX | exact Below.drew BX | exact ball BX | exact Below.drew (ball BX))) ?_; rintro p7 q7 w7 ⟨oT, hT⟩; have BX := hT w5.heap.size w5 (Nat.le_refl _) (by first | exact BX | exact Below.drew BX | exact ball BX | exact Below.drew (ball BX)))
              | (refine stepS10r _ (by rfl) (.tmp 115) (.const (.string ⟨#[10, 35, 32, 97, 61, 98, 10, 10]⟩)) (by rfl) w5.heap.size _ _ PA [10, 35, 32, 97, 61, 98, 10, 10] PS ePS (by rfl) oT (by rfl) (by omega) (by simp) BX.size ?_; rintro p8 q8 w8 ⟨oT, hT⟩; have BX := hT w5.heap.size w5 (Nat.le_refl _) BX)
              | (refine stepB10r _ (by rfl) (.tmp 116) (.tmp 120) (by rfl) w5.heap.size _ _ PS _ _ PB Bt eBt (by rfl) oT (by rfl) _ oB (by omega) (by omega) BX.size ?_; rintro p8 q8 w8 ⟨oT, hT⟩; have BX := hT w5.heap.size w5 (Nat.le_refl _) BX))
          all_goals
            go_wp2_with fail
            go_meet
            exact ⟨p8, q8, Bt, rfl, Lib.hid (bytes_own oT), own_cap oT, hBt2, Lib.hid (HBT.out ▸ HBK.out), Lib.hid BX⟩
        · have h00 : ¬ ((0 : Int) < (L2.length : Int)) := by omega
          clear hn0
          go_wp2_with fail
          go_meet
          have hL2 : L2 = [] := List.length_eq_zero_iff.1 (by omega)
          refine ⟨p6, q6, printD L2, rfl, Lib.hid (bytes_own HO6.out), own_cap HO6.out, by have := hp2.out; omega, Lib.hid ?_, Lib.hid (Below.refl _ _)⟩
          subst hL2
          exact ⟨[], by kernel_rfl, rfl, fun j r h => by simp at h⟩
      case rest =>
        clear HO6
        obtain ⟨p8, q8, Bt, rfl, HB8, hcap8, hBt, HBK, HBX⟩ := hcut
        have B8 := below_next B5 HBX.out
        have R8 : Hid (RecW wc p2 L2) := Lib.hid (R5.out.below HBX.out)
        clear R5 HBX B5
        obtain ⟨L', hL', hLl, hLs⟩ := HBK.out
        have HREC := Lib.hid hL'
        have HLS := Lib.hid hLs
        have HLl := Lib.hid hLl
        have HPL : Hid (∀ (j : Nat) (r : Rw), L2[j]? = some r → r.2.1.length ≤ 1000000) := Lib.hid (fun j r hj => row_parts_le hp2.out hj)
        clear hL' hLs hLl HBK
        go_wp2_with fail
        refine (parse10_x Bt p8 q8 _ HB8.out hcap8 (by omega)).mono ?_
        rintro e w9 h9
        obtain ⟨⟨p9, q9, rfl, hr9⟩, hb9⟩ := h9.yes HREC.out
        have B9 := below_next B8 hb9
        have R9 := R8.out.below hb9
        clear h9 HB8 hb9 R8 B8
        go_upto_region 22 with fail
        generalize hw10 : w9.alloc _ = w10
        have B10 : Below w.heap.size w w10 := hw10 ▸ ball B9
        have x0 : w10.cell? ⟨w9.heap.size, 0, none⟩ = some (.int .i64 0) := by subst hw10; simp [go_sem]
        have RL : Hid (RecW w10 p9 L') := Lib.hid (hw10 ▸ hr9.below (ball (Below.refl _ _)))
        have RS : Hid (RecW w10 p2 L2) := Lib.hid (hw10 ▸ R9.below (ball (Below.refl _ _)))
        clear hw10 B9 R9 hr9
        generalize w9.heap.size = N at *
        rw [HLl.out]
        have hll : (((L2.length : Nat) : Int) != ((L2.length : Nat) : Int)) = false := by simp
        go_wp2_with fail
        go_loopw [139] (fun iv wx => ∃ i : Nat, iv = .int .i64 (i : Int) ∧ i ≤ L2.length ∧ Below w10.heap.size w10 wx) (fun iv _ => L2.length + 1 - intN iv)
        case atStart => exact ⟨0, rfl, Nat.zero_le _, Below.refl _ _⟩
        case round =>
          clear x0
          obtain ⟨i, rfl, hi, hbx⟩ := hrel
          by_cases hir : i < L2.length
          · have hri := List.getElem?_eq_getElem hir
            generalize L2[i]'hir = row at *
            obtain ⟨o, ho, hsk, hst0⟩ := HLS.out i row hri
            obtain ⟨hsl, hst⟩ := same_texts hst0
            have hrl := HPL.out i row hri
            obtain ⟨g, qo, co, rfl, hg4, hk1, hc1, _, hl1⟩ := RL.out i o ho
            obtain ⟨h, qs, cs, rfl, hh4, hk2, hc2, _, hl2⟩ := RS.out i row hri
            rw [← hsl] at hc1
            rw [← hsk] at hk1
            have HST := Lib.hid hst
            have HL1 := Lib.hid hl1
            have HL2 := Lib.hid hl2
            have HOL := Lib.hid hsl
            clear hri ho hst hsl hsk hst0 hl1 hl2
            generalize hm : row.2.1.length = m at *
            have HM := Lib.hid hm
            clear hm
            generalize baS row.1 = KS at *
            have HF0 : Hid (∀ V, Below w10.heap.size w10 V → V.cell? ⟨g, i * 3, none⟩ = some (.string KS)) := Lib.hid (fun V hV => (olds hV g _ hg4).trans hk1)
            have HF1 : Hid (∀ V, Below w10.heap.size w10 V → V.cell? ⟨g, i * 3 + 1, none⟩ = some (.slice qo m co)) := Lib.hid (fun V hV => (olds hV g _ hg4).trans hc1)
            have HF2 : Hid (∀ V, Below w10.heap.size w10 V → V.cell? ⟨h, i * 3, none⟩ = some (.string KS)) := Lib.hid (fun V hV => (olds hV h _ hh4).trans hk2)
            have HF3 : Hid (∀ V, Below w10.heap.size w10 V → V.cell? ⟨h, i * 3 + 1, none⟩ = some (.slice qs m cs)) := Lib.hid (fun V hV => (olds hV h _ hh4).trans hc2)
            clear hk1 hc1 hk2 hc2
            go_upto_region 27 with fail
            refine region_go2 142 168 [142, 143, 144, 145, 146, 147, 148, 149, 150, 151, 152, 153, 154, 155, 156, 157, 158, 159, 160, 161, 162, 163, 164, 165, 166, 167]
              [.eqv (.slice (some ⟨g, 0, none⟩) L2.length q9), .eqv (.int .i64 (i : Int)), .eqv (.pointer (some ⟨g, i * 3, none⟩)), .eqv (.pointer (some ⟨g, i * 3, none⟩)), .eqv (.string KS), .eqv (.slice (some ⟨h, 0, none⟩) L2.length c2), .eqv (.int .i64 (i : Int)), .eqv (.pointer (some ⟨h, i * 3, none⟩)), .eqv (.pointer (some ⟨h, i * 3, none⟩)), .eqv (.string KS), .eqv (.bool false), .eqv (.bool false), .eqv (.slice (some ⟨g, 0, none⟩) L2.length q9), .eqv (.int .i64 (i : Int)), .eqv (.pointer (some ⟨g, i * 3, none⟩)), .eqv (.pointer (some ⟨g, i * 3 + 1, none⟩)), .eqv (.slice qo m co), .eqv (.int .i64 (m : Int)), .eqv (.slice (some ⟨h, 0, none⟩) L2.length c2), .eqv (.int .i64 (i : Int)), .eqv (.pointer (some ⟨h, i * 3, none⟩)), .eqv (.pointer (some ⟨h, i * 3 + 1, none⟩)), .eqv (.slice qs m cs), .eqv (.int .i64 (m : Int)), .eqv (.bool false), .eqv (.bool false)]
              (by kernel_rfl) (by kernel_rfl) rfl (by decide) (of_decide_eq_true (by kernel_rfl)) (by decide) ?_ ?_
            · refine ⟨?_, ?_, ?_, ?_, ?_, ?_, ?_, ?_, ?_, ?_, ?_, ?_, ?_, ?_, ?_, ?_, ?_, ?_, ?_, ?_, ?_, ?_, ?_, ?_, ?_, ?_, True.intro⟩
              · refine stepG_val rfl fun a w hF hB hD => ⟨rg_free rfl _, ?_⟩
                have h15 : a.eval (.tmp 15) = .slice (some ⟨g, 0, none⟩) L2.length q9 := (hF 15 (by decide)).trans rfl
                unfold execOp
                simp only [h15]
                simp [go_sem]
              · refine stepG_val rfl fun a w hF hB hD => ⟨rg_free rfl _, ?_⟩
                have h17 : a.eval (.tmp 17) = .int .i64 (i : Int) := (hF 17 (by decide)).trans rfl
                unfold execOp
                simp only [h17]
                simp [go_sem]
              · refine stepG_val rfl fun a w hF hB hD => ⟨rg_free rfl _, ?_⟩
                have h142 : a.eval (.tmp 142) = .slice (some ⟨g, 0, none⟩) L2.length q9 := hD 0 rfl
                have h143 : a.eval (.tmp 143) = .int .i64 (i : Int) := hD 1 rfl
                unfold execOp
                simp only [h142, h143]
                simp [go_sem, hir]
              · refine stepG_val rfl fun a w hF hB hD => ⟨rg_free rfl _, ?_⟩
                have h144 : a.eval (.tmp 144) = .pointer (some ⟨g, i * 3, none⟩) := hD 2 rfl
                unfold execOp
                simp only [h144]
                simp [go_sem]
              · refine stepG_val rfl fun a w hF hB hD => ⟨rg_free rfl _, ?_⟩
                have h145 : a.eval (.tmp 145) = .pointer (some ⟨g, i * 3, none⟩) := hD 3 rfl
                have c0 := HF0.out w (below_next hbx hB)
                unfold execOp
                simp only [h145]
                simp [go_sem, c0]
              · refine stepG_val rfl fun a w hF hB hD => ⟨rg_free rfl _, ?_⟩
                have h7 : a.eval (.tmp 7) = .slice (some ⟨h, 0, none⟩) L2.length c2 := (hF 7 (by decide)).trans rfl
                unfold execOp
                simp only [h7]
                simp [go_sem]
              · refine stepG_val rfl fun a w hF hB hD => ⟨rg_free rfl _, ?_⟩
                have h17 : a.eval (.tmp 17) = .int .i64 (i : Int) := (hF 17 (by decide)).trans rfl
                unfold execOp
                simp only [h17]
                simp [go_sem]
              · refine stepG_val rfl fun a w hF hB hD => ⟨rg_free rfl _, ?_⟩
                have h147 : a.eval (.tmp 147) = .slice (some ⟨h, 0, none⟩) L2.length c2 := hD 5 rfl
                have h148 : a.eval (.tmp 148) = .int .i64 (i : Int) := hD 6 rfl
                unfold execOp
                simp only [h147, h148]
                simp [go_sem, hir]
              · refine stepG_val rfl fun a w hF hB hD => ⟨rg_free rfl _, ?_⟩
                have h149 : a.eval (.tmp 149) = .pointer (some ⟨h, i * 3, none⟩) := hD 7 rfl
                unfold execOp
                simp only [h149]
                simp [go_sem]
              · refine stepG_val rfl fun a w hF hB hD => ⟨rg_free rfl _, ?_⟩
                have h150 : a.eval (.tmp 150) = .pointer (some ⟨h, i * 3, none⟩) := hD 8 rfl
                have c0 := HF2.out w (below_next hbx hB)
                unfold execOp
                simp only [h150]
                simp [go_sem, c0]
              · refine stepG_val rfl fun a w hF hB hD => ⟨rg_free rfl _, ?_⟩
                have h146 : a.eval (.tmp 146) = .string KS := hD 4 rfl
                have h151 : a.eval (.tmp 151) = .string KS := hD 9 rfl
                unfold execOp
                simp only [h146, h151]
                simp [go_sem]
              · refine stepG_val rfl fun a w hF hB hD => ⟨rg_free rfl _, ?_⟩
                have h152 : a.eval (.tmp 152) = .bool false := hD 10 rfl
                unfold execOp
                simp only [h152]
                simp [go_sem]
              · refine stepG_val rfl fun a w hF hB hD => ⟨rg_on (d := 153) rfl rfl (hD 11 rfl), ?_⟩
                have h15 : a.eval (.tmp 15) = .slice (some ⟨g, 0, none⟩) L2.length q9 := (hF 15 (by decide)).trans rfl
                unfold execOp
                simp only [h15]
                simp [go_sem]
              · refine stepG_val rfl fun a w hF hB hD => ⟨rg_on (d := 153) rfl rfl (hD 11 rfl), ?_⟩
                have h17 : a.eval (.tmp 17) = .int .i64 (i : Int) := (hF 17 (by decide)).trans rfl
                unfold execOp
                simp only [h17]
                simp [go_sem]
              · refine stepG_val rfl fun a w hF hB hD => ⟨rg_on (d := 153) rfl rfl (hD 11 rfl), ?_⟩
                have h154 : a.eval (.tmp 154) = .slice (some ⟨g, 0, none⟩) L2.length q9 := hD 12 rfl
                have h155 : a.eval (.tmp 155) = .int .i64 (i : Int) := hD 13 rfl
                unfold execOp
                simp only [h154, h155]
                simp [go_sem, hir]
              · refine stepG_val rfl fun a w hF hB hD => ⟨rg_on (d := 153) rfl rfl (hD 11 rfl), ?_⟩
                have h156 : a.eval (.tmp 156) = .pointer (some ⟨g, i * 3, none⟩) := hD 14 rfl
                unfold execOp
                simp only [h156]
                simp [go_sem]
              · refine stepG_val rfl fun a w hF hB hD => ⟨rg_on (d := 153) rfl rfl (hD 11 rfl), ?_⟩
                have h157 : a.eval (.tmp 157) = .pointer (some ⟨g, i * 3 + 1, none⟩) := hD 15 rfl
                have c0 := HF1.out w (below_next hbx hB)
                unfold execOp
                simp only [h157]
                simp [go_sem, c0]
              · refine stepG_val rfl fun a w hF hB hD => ⟨rg_on (d := 153) rfl rfl (hD 11 rfl), ?_⟩
                have h158 : a.eval (.tmp 158) = .slice qo m co := hD 16 rfl
                unfold execOp
                simp [go_sem, rg_tmp h158, Builtin.len_]
              · refine stepG_val rfl fun a w hF hB hD => ⟨rg_on (d := 153) rfl rfl (hD 11 rfl), ?_⟩
                have h7 : a.eval (.tmp 7) = .slice (some ⟨h, 0, none⟩) L2.length c2 := (hF 7 (by decide)).trans rfl
                unfold execOp
                simp only [h7]
                simp [go_sem]
              · refine stepG_val rfl fun a w hF hB hD => ⟨rg_on (d := 153) rfl rfl (hD 11 rfl), ?_⟩
                have h17 : a.eval (.tmp 17) = .int .i64 (i : Int) := (hF 17 (by decide)).trans rfl
                unfold execOp
                simp only [h17]
                simp [go_sem]
              · refine stepG_val rfl fun a w hF hB hD => ⟨rg_on (d := 153) rfl rfl (hD 11 rfl), ?_⟩
                have h160 : a.eval (.tmp 160) = .slice (some ⟨h, 0, none⟩) L2.length c2 := hD 18 rfl
                have h161 : a.eval (.tmp 161) = .int .i64 (i : Int) := hD 19 rfl
                unfold execOp
                simp only [h160, h161]
                simp [go_sem, hir]
              · refine stepG_val rfl fun a w hF hB hD => ⟨rg_on (d := 153) rfl rfl (hD 11 rfl), ?_⟩
                have h162 : a.eval (.tmp 162) = .pointer (some ⟨h, i * 3, none⟩) := hD 20 rfl
                unfold execOp
                simp only [h162]
                simp [go_sem]
              · refine stepG_val rfl fun a w hF hB hD => ⟨rg_on (d := 153) rfl rfl (hD 11 rfl), ?_⟩
                have h163 : a.eval (.tmp 163) = .pointer (some ⟨h, i * 3 + 1, none⟩) := hD 21 rfl
                have c0 := HF3.out w (below_next hbx hB)
                unfold execOp
                simp only [h163]
                simp [go_sem, c0]
              · refine stepG_val rfl fun a w hF hB hD => ⟨rg_on (d := 153) rfl rfl (hD 11 rfl), ?_⟩
                have h164 : a.eval (.tmp 164) = .slice qs m cs := hD 22 rfl
                unfold execOp
                simp [go_sem, rg_tmp h164, Builtin.len_]
              · refine stepG_val rfl fun a w hF hB hD => ⟨rg_on (d := 153) rfl rfl (hD 11 rfl), ?_⟩
                have h159 : a.eval (.tmp 159) = .int .i64 (m : Int) := hD 17 rfl
                have h165 : a.eval (.tmp 165) = .int .i64 (m : Int) := hD 23 rfl
                unfold execOp
                simp only [h159, h165]
                simp [go_sem]
              · refine stepG_val rfl fun a w hF hB hD => ⟨rg_free rfl _, ?_⟩
                have h153 : a.eval (.tmp 153) = .bool false := hD 11 rfl
                have h166 : a.eval (.tmp 166) = .bool false := hD 24 rfl
                unfold execOp
                simp only [h153, h166]
                simp [go_sem]
            · intro u9 w11 hsp hb11
              have h167 : u9 167 = .bool false := hsp 25 (by decide)
              have B11 := below_next hbx hb11
              clear hsp hbx hb11
              simp only [updG, Nat.reduceAdd, Nat.reduceLeDiff, Nat.reduceLT, and_true, and_false, ↓reduceIte, h167]
              have d1 := HF1.out _ B11
              go_wp2_with fail
              go_loopw [174] (fun jv wy => ∃ j : Nat, jv = .int .i64 (j : Int) ∧ j ≤ m ∧ Below w10.heap.size w10 wy) (fun jv _ => m + 1 - intN jv)
              case atStart => exact ⟨0, rfl, Nat.zero_le _, B11⟩
              case round =>
                clear d1 B11
                obtain ⟨j, rfl, hj, hby⟩ := hrel
                by_cases hjr : j < m
                · have hsj : row.2.1[j]? = some _ := List.getElem?_eq_getElem (by rw [HM.out]; exact hjr)
                  generalize row.2.1[j]'_ = t at *
                  obtain ⟨u, hu⟩ : ∃ u, o.2.1[j]? = some u := ⟨_, List.getElem?_eq_getElem (by rw [← HOL.out]; exact hjr)⟩
                  have htu := HST.out j t u hsj hu
                  obtain ⟨g2, hqo, hg2, _, k1, _⟩ := HL1.out j u hu
                  obtain ⟨h2, hqs, hh2, _, k2, _⟩ := HL2.out j t hsj
                  rw [← htu] at k1
                  have e1 := HF1.out wr hby
                  have e2 := HF3.out wr hby
                  rw [hqo] at e1
                  rw [hqs] at e2
                  have e3 : wr.cell? ⟨g2, j * 3 + 1, none⟩ = some (.string (baS t.2.1)) := (olds hby g2 _ hg2).trans k1
                  have e4 : wr.cell? ⟨h2, j * 3 + 1, none⟩ = some (.string (baS t.2.1)) := (olds hby h2 _ hh2).trans k2
                  clear hu hsj k1 k2 htu hqo hqs
                  generalize baS t.2.1 = S at *
                  go_wp2_with fail
                  go_quiet (fail)
                  go_wp2_with fail
                  exact ⟨⟨j + 1, by simp, by omega, bdrew hby _⟩, by simp [intN]; omega⟩
                · have hjn : ¬ ((j : Int) < (m : Int)) := by omega
                  go_wp2_with fail
                  exact ⟨⟨i + 1, by simp, by omega, hby⟩, by simp [intN]; omega⟩
          · have hin : ¬ ((i : Int) < (L2.length : Int)) := by omega
            have B11 := below_next B10 hbx
            go_wp2_with fail
            refine (awake10_x _).mono ?_
            rintro e w12 ⟨rfl, hb12⟩
            go_wp2
            go_ret
            exact ⟨rfl, below_next B11 hb12⟩
set_option maxHeartbeats 16000000 in
set_option maxRecDepth 100000 in
theorem dback_bad (b : Option Addr) (zs : List Int) (d : Nat) (fa : Option Addr) (F : List Bs) (fc : Nat) (z : Int) (w : World) (hi : IntsAt w b zs) (hz : ∀ z ∈ zs, (Lit.int .i64 z).wf = true) (k x : Nat) (hbad : rowsV (textQ zs) = .bad k x) :
    Calls Tryd.prog 6 #[.slice b zs.length d, .slice fa F.length fc, .int .i64 z] w fun e w' => e = .returned (.bool true) ∧ Below w.heap.size w w' := by
  have HI := Lib.hid hi
  have HZ := Lib.hid hz
  have htl := textQ_len zs
  have hkx := rowsV_bad hbad
  have HB := Lib.hid hbad
  have hxn : x ≤ (textQ zs).length := hkx.1
  have hkz : ¬ ((k : Int) = 0) := by have := hkx.2; omega
  clear hi hz hbad hkx
  go_enter Tryd.func6, Tryd.ntmps6
  go_wp2_with fail
  refine (textQ_x zs b d w HI.out HZ.out).mono ?_
  rintro e w1 ⟨hb1, p1, q1, rfl, hown1⟩
  have KB1 := Lib.hid (bytes_own hown1)
  have cap1 := own_cap hown1
  clear hown1
  go_wp2_with fail
  refine (parse10_x (textQ zs) p1 q1 w1 KB1.out cap1 (by omega)).mono ?_
  intro e w2 h2
  obtain ⟨rfl, hb2⟩ := h2.no HB.out
  have B2 := below_next hb1 hb2
  clear h2 KB1 hb1 hb2 HB
  go_upto_region 2 with fail
  generalize hw3 : w2.alloc _ = w3
  have B3 : Below w.heap.size w w3 := hw3 ▸ ball B2
  have x0 : w3.cell? ⟨w2.heap.size, 0, none⟩ = some (.int .i64 (k : Int)) := by subst hw3; simp [go_sem]
  have x1 : w3.cell? ⟨w2.heap.size, 1, none⟩ = some (.int .i64 (x : Int)) := by subst hw3; simp [go_sem]
  have hlt : w2.heap.size < w3.heap.size := by subst hw3; simp
  clear hw3 B2
  generalize w2.heap.size = X at *
  have HX : Hid (∀ V, Below w3.heap.size w3 V → V.cell? ⟨X, 1, none⟩ = some (.int .i64 (x : Int))) := Lib.hid (fun V hV => (olds hV X 1 hlt).trans x1)
  have HT : Hid (∀ V, Below w3.heap.size w3 V → Calls Tryd.prog 9 #[.slice b zs.length d] V fun e w' => (∃ pp qq, e = .returned (.slice pp (textQ zs).length qq)) ∧ Below V.heap.size V w') := Lib.hid (fun V hV => (textQ_x zs b d V (HI.out.below (below_next B3 hV)) HZ.out).mono fun e w' ⟨k1, pp, qq, k2, _⟩ => ⟨⟨pp, qq, k2⟩, k1⟩)
  clear x1 HI HZ hlt htl cap1
  generalize (textQ zs).length = n at *
  go_upto_region 3 with fail
  refine region_go [28, 29, 30, 31, 32, 33, 34, 35, 36, 37, 38, 39, 40, 41, 42, 43, 44, 45, 46, 6]
    [.eqv (.slice none 0 0), .eqv (.int .i64 0), .eqv (.bool true), .eqv (.bool true), .eqv (.pointer (some ⟨X, 1, none⟩)), .eqv (.int .i64 (x : Int)), .eqv (.bool true), .eqv (.bool true), .eqv (.bool true), .eqv (.pointer (some ⟨X, 1, none⟩)), .eqv (.int .i64 (x : Int)), .eqv (.slice b zs.length d), ⟨fun v _ => ∃ pp qq, v = .slice pp n qq, fun _ _ _ h _ => h⟩, .eqv (.int .i64 (n : Int)), .eqv (.bool true), .eqv (.bool true), .eqv (.bool true), .eqv (.bool true), .eqv (.bool true), .eqv (.bool true)]
    (by kernel_rfl) (by kernel_rfl) rfl (by decide) (of_decide_eq_true (by kernel_rfl)) ?_ ?_
  · refine ⟨?_, ?_, ?_, ?_, ?_, ?_, ?_, ?_, ?_, ?_, ?_, ?_, ?_, ?_, ?_, ?_, ?_, ?_, ?_, ?_, True.intro⟩
    · refine stepG_val rfl fun a w hF hB hD => ⟨rg_free rfl _, ?_⟩
      have h7 : a.eval (.tmp 7) = .slice none 0 0 := (hF 7 (by decide)).trans rfl
      unfold execOp
      simp only [h7]
      simp [go_sem]
    · refine stepG_val rfl fun a w hF hB hD => ⟨rg_free rfl _, ?_⟩
      have h28 : a.eval (.tmp 28) = .slice none 0 0 := hD 0 rfl
      unfold execOp
      simp [go_sem, rg_tmp h28, Builtin.len_]
    · refine stepG_val rfl fun a w hF hB hD => ⟨rg_free rfl _, ?_⟩
      have h29 : a.eval (.tmp 29) = .int .i64 0 := hD 1 rfl
      unfold execOp
      simp only [h29]
      simp [go_sem]
    · refine stepG_val rfl fun a w hF hB hD => ⟨rg_free rfl _, ?_⟩
      have h30 : a.eval (.tmp 30) = .bool true := hD 2 rfl
      unfold execOp
      simp only [h30]
      simp [go_sem]
    · refine stepG_val rfl fun a w hF hB hD => ⟨rg_on (d := 31) rfl rfl (hD 3 rfl), ?_⟩
      have h8 : a.eval (.tmp 8) = .pointer (some ⟨X, 0, none⟩) := (hF 8 (by decide)).trans rfl
      unfold execOp
      simp only [h8]
      simp [go_sem]
    · refine stepG_val rfl fun a w hF hB hD => ⟨rg_on (d := 31) rfl rfl (hD 3 rfl), ?_⟩
      have h32 : a.eval (.tmp 32) = .pointer (some ⟨X, 1, none⟩) := hD 4 rfl
      have c0 := HX.out w hB
      unfold execOp
      simp only [h32]
      simp [go_sem, c0]
    · refine stepG_val rfl fun a w hF hB hD => ⟨rg_on (d := 31) rfl rfl (hD 3 rfl), ?_⟩
      have h33 : a.eval (.tmp 33) = .int .i64 (x : Int) := hD 5 rfl
      unfold execOp
      simp only [h33]
      simp [go_sem]
    · refine stepG_val rfl fun a w hF hB hD => ⟨rg_free rfl _, ?_⟩
      have h31 : a.eval (.tmp 31) = .bool true := hD 3 rfl
      have h34 : a.eval (.tmp 34) = .bool true := hD 6 rfl
      unfold execOp
      simp only [h31, h34]
      simp [go_sem]
    · refine stepG_val rfl fun a w hF hB hD => ⟨rg_free rfl _, ?_⟩
      have h35 : a.eval (.tmp 35) = .bool true := hD 7 rfl
      unfold execOp
      simp only [h35]
      simp [go_sem]
    · refine stepG_val rfl fun a w hF hB hD => ⟨rg_on (d := 36) rfl rfl (hD 8 rfl), ?_⟩
      have h8 : a.eval (.tmp 8) = .pointer (some ⟨X, 0, none⟩) := (hF 8 (by decide)).trans rfl
      unfold execOp
      simp only [h8]
      simp [go_sem]
    · refine stepG_val rfl fun a w hF hB hD => ⟨rg_on (d := 36) rfl rfl (hD 8 rfl), ?_⟩
      have h37 : a.eval (.tmp 37) = .pointer (some ⟨X, 1, none⟩) := hD 9 rfl
      have c0 := HX.out w hB
      unfold execOp
      simp only [h37]
      simp [go_sem, c0]
    · refine stepG_val rfl fun a w hF hB hD => ⟨rg_on (d := 36) rfl rfl (hD 8 rfl), ?_⟩
      have h0 : a.eval (.tmp 0) = .slice b zs.length d := (hF 0 (by decide)).trans rfl
      unfold execOp
      simp only [h0]
      simp [go_sem]
    · refine stepG_call fun a w hF hB hD => ⟨rg_on (d := 36) rfl rfl (hD 8 rfl), 9, ?_⟩
      have h39 : a.eval (.tmp 39) = .slice b zs.length d := hD 11 rfl
      refine ⟨#[.slice b zs.length d], ?_, ?_⟩
      · unfold execOp
        simp [go_sem, rg_tmp h39]
      · exact (HT.out w hB).mono fun e w' ⟨⟨pp, qq, h⟩, k⟩ => ⟨_, h, ⟨pp, qq, rfl⟩, k⟩
    · refine stepG_val rfl fun a w hF hB hD => ⟨rg_on (d := 36) rfl rfl (hD 8 rfl), ?_⟩
      obtain ⟨pp, qq, h40⟩ : ∃ pp qq, a.eval (.tmp 40) = .slice pp n qq := hD 12 rfl
      unfold execOp
      simp [go_sem, rg_tmp h40, Builtin.len_]
    · refine stepG_val rfl fun a w hF hB hD => ⟨rg_on (d := 36) rfl rfl (hD 8 rfl), ?_⟩
      have h38 : a.eval (.tmp 38) = .int .i64 (x : Int) := hD 10 rfl
      have h41 : a.eval (.tmp 41) = .int .i64 (n : Int) := hD 13 rfl
      unfold execOp
      simp only [h38, h41]
      simp [go_sem, hxn]
    · refine stepG_val rfl fun a w hF hB hD => ⟨rg_free rfl _, ?_⟩
      have h36 : a.eval (.tmp 36) = .bool true := hD 8 rfl
      have h42 : a.eval (.tmp 42) = .bool true := hD 14 rfl
      unfold execOp
      simp only [h36, h42]
      simp [go_sem]
    · refine stepG_val rfl fun a w hF hB hD => ⟨rg_free rfl _, ?_⟩
      have h43 : a.eval (.tmp 43) = .bool true := hD 15 rfl
      unfold execOp
      simp only [h43]
      simp [go_sem]
    · refine stepG_call fun a w hF hB hD => ⟨rg_on (d := 44) rfl rfl (hD 16 rfl), 8, #[], ?_, (awake10_x w).mono fun e w' ⟨h, k⟩ => ⟨_, h, rfl, k⟩⟩
      unfold execOp
      simp [go_sem]
    · refine stepG_val rfl fun a w hF hB hD => ⟨rg_free rfl _, ?_⟩
      have h44 : a.eval (.tmp 44) = .bool true := hD 16 rfl
      have h45 : a.eval (.tmp 45) = .bool true := hD 17 rfl
      unfold execOp
      simp only [h44, h45]
      simp [go_sem]
    · refine stepG_val rfl fun a w hF hB hD => ⟨rg_free rfl _, ?_⟩
      have h46 : a.eval (.tmp 46) = .bool true := hD 18 rfl
      unfold execOp
      simp only [h46]
      simp [go_sem]
  · rintro ⟨T9, Df⟩ w8 hd _ _ hsp hb8
    obtain rfl : Df = [] := hd
    have h6 : T9.getD 6 undef = .bool true := hsp 19 (by decide)
    clear hsp
    go_wp2
    go_ret
    exact ⟨by rw [h6], below_next B3 hb8⟩
theorem dback_walk (b : Option Addr) (zs : List Int) (d : Nat) (fa : Option Addr) (F : List Bs) (fc : Nat) (z : Int) (w : World) (hi : IntsAt w b zs) (hz : ∀ z ∈ zs, (Lit.int .i64 z).wf = true) (hF : BytessAt w fa F) :
    Calls Tryd.prog 6 #[.slice b zs.length d, .slice fa F.length fc, .int .i64 z] w fun e w' => e = .returned (.bool true) ∧ Below w.heap.size w w' := by
  cases h : rowsV (textQ zs) with
  | ok L => exact dback_ok b zs d fa F fc z w hi hz hF L h
  | bad k x => exact dback_bad b zs d fa F fc z w hi hz k x h
end Go.Proofs.YtfmanmidihofgaaDoor
