/- The checker's own Print, told exactly: it is what tellV tells. -/
import Derived.Test.YtmnemjhkmllniaaGreatDoorzXz
import Derived.Test.YtmnemjhkmllniaaGreatDoorzRq
namespace Go.Proofs.YtmnemjhkmllniaaGreatDoor
open Go.ChangeShapes Go.WideShapes Go.RowKit Go.Sort

theorem and8n (a : Nat) (h : a < 18446744073709551616) : bits .and .u64 (a : Int) 255 = ((a % 256 : Nat) : Int) := by
  rw [show (255 : Int) = ((255 : Nat) : Int) by rfl, u64_and_nat _ _ h (by omega), show (255 : Nat) = 2 ^ 8 - 1 by rfl, Nat.and_two_pow_sub_one_eq_mod]
theorem textE_at (z : Int) (n : Nat) (h : z = (n : Int)) (w : World) (hn : n < 256) :
    Calls Tryz.prog 51 #[.int .u64 z] w fun e w' => e = .returned (.string (baS (decS n))) ∧ Below w.heap.size w w' := h ▸ textE_x n w hn
set_option maxHeartbeats 4000000 in
set_option maxRecDepth 100000 in
theorem printE4_x (x : Nat) (w : World) (hx : x < 4294967296) :
    Calls Tryz.prog 31 #[.agg #[.int .i64 4, .int .u64 0, .int .u64 x]] w fun e w' => e = .returned (.string (baS (tellFour x))) ∧ Below w.heap.size w w' := by
  have ho := fun w => refOkA_is 4 x w (by omega) true (by simp [okV, hx])
  rw [hiQ_small hx, loQ_small hx] at ho
  have HO := Lib.hid ho
  have H1 := Lib.hid (textE_at ((x : Int) / 16777216) (x / 16777216 % 256) (by omega))
  have H2 := Lib.hid (textE_at (bits .and .u64 ((x : Int) / 65536) 255) (x / 65536 % 256) (by have := and8n (x / 65536) (by omega); rw [← this]; rfl))
  have H3 := Lib.hid (textE_at (bits .and .u64 ((x : Int) / 256) 255) (x / 256 % 256) (by have := and8n (x / 256) (by omega); rw [← this]; rfl))
  have H4 := Lib.hid (textE_at (bits .and .u64 (x : Int) 255) (x % 256) (and8n x (by omega)))
  have he := tellFour_eq x
  have n1 := (decS_len (x / 16777216 % 256)).2; have n2 := (decS_len (x / 65536 % 256)).2; have n3 := (decS_len (x / 256 % 256)).2; have n4 := (decS_len (x % 256)).2
  have m1 : x / 16777216 % 256 < 256 := by omega
  have m2 : x / 65536 % 256 < 256 := by omega
  have m3 : x / 256 % 256 < 256 := by omega
  have m4 : x % 256 < 256 := by omega
  obtain ⟨s1, e1⟩ : ∃ s, decS (x / 16777216 % 256) = s := ⟨_, rfl⟩
  obtain ⟨s2, e2⟩ : ∃ s, decS (x / 65536 % 256) = s := ⟨_, rfl⟩
  obtain ⟨s3, e3⟩ : ∃ s, decS (x / 256 % 256) = s := ⟨_, rfl⟩
  obtain ⟨s4, e4⟩ : ∃ s, decS (x % 256) = s := ⟨_, rfl⟩
  rw [e1] at he n1 H1; rw [e2] at he n2 H2; rw [e3] at he n3 H3; rw [e4] at he n4 H4
  have HM := Lib.hid (And.intro m1 (And.intro m2 (And.intro m3 m4)))
  have a1 := addS s1 [46] (by omega) (by decide)
  have a2 := addS (s1 ++ [46]) s2 (by simp; omega) (by omega)
  have a3 := addS (s1 ++ [46] ++ s2) [46] (by simp; omega) (by decide)
  have a4 := addS (s1 ++ [46] ++ s2 ++ [46]) s3 (by simp; omega) (by omega)
  have a5 := addS (s1 ++ [46] ++ s2 ++ [46] ++ s3) [46] (by simp; omega) (by decide)
  have a6 := addS (s1 ++ [46] ++ s2 ++ [46] ++ s3 ++ [46]) s4 (by simp; omega) (by omega)
  rw [← he] at a6
  generalize s1 ++ [46] ++ s2 ++ [46] ++ s3 ++ [46] = t5 at *
  generalize s1 ++ [46] ++ s2 ++ [46] ++ s3 = t4 at *
  generalize s1 ++ [46] ++ s2 ++ [46] = t3 at *
  generalize s1 ++ [46] ++ s2 = t2 at *
  generalize s1 ++ [46] = t1 at *
  have a1' : ∀ V, (Op.stringOp .add (baS s1) ⟨#[46]⟩).run Tryz.prog V = .ok (.string (baS t1)) V := a1
  have a3' : ∀ V, (Op.stringOp .add (baS t2) ⟨#[46]⟩).run Tryz.prog V = .ok (.string (baS t3)) V := a3
  have a5' : ∀ V, (Op.stringOp .add (baS t4) ⟨#[46]⟩).run Tryz.prog V = .ok (.string (baS t5)) V := a5
  generalize tellFour x = T at *
  obtain ⟨W, hW⟩ : ∃ W, W = w.alloc (.cells #[.int .i64 4, .int .u64 0, .int .u64 (x : Int)] 28) := ⟨_, rfl⟩
  have B : Below w.heap.size w W := hW ▸ (Below.refl _ _).alloc (Nat.le_refl _) _
  have HC : Hid (W.cell? ⟨w.heap.size, 0, none⟩ = some (.int .i64 4) ∧ W.cell? ⟨w.heap.size, 1, none⟩ = some (.int .u64 0) ∧ W.cell? ⟨w.heap.size, 2, none⟩ = some (.int .u64 (x : Int)) ∧ w.heap.size < W.heap.size) := ⟨by rw [hW]; simp [go_sem], by rw [hW]; simp [go_sem], by rw [hW]; simp [go_sem], by rw [hW]; simp⟩
  clear ho hx he m1 m2 m3 m4 e1 e2 e3 e4 n1 n2 n3 n4 a1 a3 a5
  go_enter Tryz.func31, Tryz.ntmps31
  go_wp2_with fail
  rw [← hW]
  clear hW
  refine (HO.out W).mono ?_
  rintro e w1 ⟨rfl, hb1⟩
  obtain ⟨k0, f0, l0⟩ := keepf hb1 w.heap.size HC.out.2.2.2
  have c0 : w1.cell? ⟨w.heap.size, 0, none⟩ = some (.int .i64 4) := (k0 0).trans HC.out.1
  have c1 : w1.cell? ⟨w.heap.size, 1, none⟩ = some (.int .u64 0) := (k0 1).trans HC.out.2.1
  have c2 : w1.cell? ⟨w.heap.size, 2, none⟩ = some (.int .u64 x) := (k0 2).trans HC.out.2.2.1
  clear k0 f0
  go_wp2_with fail
  refine (H1.out _ HM.out.1).mono ?_
  rintro e w2 ⟨rfl, hb2⟩
  go_wp2_with fail
  refine (H2.out _ HM.out.2.1).mono ?_
  rintro e w3 ⟨rfl, hb3⟩
  go_wp2_with fail
  refine (H3.out _ HM.out.2.2.1).mono ?_
  rintro e w4 ⟨rfl, hb4⟩
  go_wp2_with fail
  refine (H4.out _ HM.out.2.2.2).mono ?_
  rintro e w5 ⟨rfl, hb5⟩
  go_wp2
  go_ret
  exact ⟨rfl, below_next (below_next (below_next (below_next (below_next B hb1) hb2) hb3) hb4) hb5⟩
theorem stepS_last {s : Bs} {n : Nat} (hn : s.length = n + 1) (c : UInt8) (hc : ∀ h, (baS s)[n]'h = c) : s.getLast? = some c := by
  have h := hc (by rw [baS_len]; omega)
  rw [List.getLast?_eq_getElem?, hn, Nat.add_sub_cancel, List.getElem?_eq_getElem (by omega)]
  rw [← h]; rfl
set_option maxHeartbeats 8000000 in
set_option maxRecDepth 100000 in
theorem printE6_x (x : Nat) (w : World) (hx : x < 340282366920938463463374607431768211456) :
    Calls Tryz.prog 31 #[.agg #[.int .i64 6, .int .u64 (hiQ x), .int .u64 (loQ x)]] w fun e w' => e = .returned (.string (baS (tellSix (groupsOf x)))) ∧ Below w.heap.size w w' := by
  have HO := Lib.hid (fun w => refOkA_is 6 x w hx true (by simp [okV]))
  have HX := Lib.hid hx
  have HZs := Lib.hid (fun w => zerosE_x x w hx)
  obtain ⟨a, L, hz⟩ : ∃ a L, zst (groupsOf x) 8 = (a, L) := ⟨_, _, rfl⟩
  have hbd := zst_bounds (groupsOf x) (groupsOf_len x) 8 (by omega)
  have hend := told_end (groupsOf x) (groupsOf_len x)
  have hlong := zst_longest (groupsOf x) (groupsOf_len x)
  have hall := longest_all (groupsOf x)
  rw [groupsOf_len] at hall
  rw [hz] at HZs hbd hend hlong
  have haL : a < 0 ∨ a + L ≤ 8 := by rcases hlong with ⟨_, h⟩ | ⟨_, h1, h2⟩ <;> simp at * <;> omega
  have HE := Lib.hid hend
  obtain ⟨a0, a1, l0, l1⟩ := hbd
  simp only at a0 a1 l0 l1
  clear hend hlong hall hz
  obtain ⟨W, hW⟩ : ∃ W, W = w.alloc (.cells #[.int .i64 6, .int .u64 (hiQ x), .int .u64 (loQ x)] 28) := ⟨_, rfl⟩
  have B : Below w.heap.size w W := hW ▸ (Below.refl _ _).alloc (Nat.le_refl _) _
  have HC : Hid (W.cell? ⟨w.heap.size, 0, none⟩ = some (.int .i64 6) ∧ W.cell? ⟨w.heap.size, 1, none⟩ = some (.int .u64 (hiQ x)) ∧ W.cell? ⟨w.heap.size, 2, none⟩ = some (.int .u64 (loQ x)) ∧ w.heap.size < W.heap.size) := ⟨by rw [hW]; simp [go_sem], by rw [hW]; simp [go_sem], by rw [hW]; simp [go_sem], by rw [hW]; simp⟩
  clear hx
  go_enter Tryz.func31, Tryz.ntmps31
  go_wp2_with fail
  rw [← hW]
  clear hW
  refine (HO.out W).mono ?_
  rintro e w1 ⟨rfl, hb1⟩
  obtain ⟨k0, f0, lk⟩ := keepf hb1 w.heap.size HC.out.2.2.2
  have c0 : w1.cell? ⟨w.heap.size, 0, none⟩ = some (.int .i64 6) := (k0 0).trans HC.out.1
  have c1 : w1.cell? ⟨w.heap.size, 1, none⟩ = some (.int .u64 (hiQ x)) := (k0 1).trans HC.out.2.1
  have c2 : w1.cell? ⟨w.heap.size, 2, none⟩ = some (.int .u64 (loQ x)) := (k0 2).trans HC.out.2.2.1
  clear k0 f0
  go_wp2_with fail
  refine (HZs.out _).mono ?_
  rintro e w2 ⟨rfl, hb2⟩
  have HB : Hid (Below W.heap.size W w2) := below_next hb1 hb2
  clear c0 c1 c2 hb1 hb2 lk HZs
  go_wp2
  go_loopw [6, 7] (fun sv iv wr => ∃ (s : Bs) (i : Nat), sv = .string (baS s) ∧ iv = .int .i64 i ∧ i ≤ 8 ∧ Hid (s = told (groupsOf x) a L i ∧ ((i : Int) ≤ a ∨ a < 0 ∨ a.toNat + L ≤ i)) ∧ Below W.heap.size W wr)
    (fun _ iv _ => 8 - (intOf iv).toNat)
  case atStart => exact ⟨[], 0, rfl, rfl, by omega, ⟨(told_start _ _ _).symm, by omega⟩, HB.out⟩
  case round =>
    obtain ⟨s, i, rfl, rfl, hi, hs, hb⟩ := hrel
    clear HB
    have hlen : s.length ≤ 100 := by rw [hs.out.1]; exact told_len _ _ _ _ (groupsOf_len x)
    by_cases hi8 : i < 8
    · have hi8' : (i : Int) < 8 := by omega
      by_cases hia : (i : Int) = a
      · subst hia
        have hadd : ∀ V, (Op.stringOp .add (baS s) ⟨#[58, 58]⟩).run Tryz.prog V = .ok (.string (baS (s ++ [58, 58]))) V := addS s [58, 58] (by omega) (by decide)
        go_wp2
        go_roundw
        case rel =>
          refine ⟨s ++ [58, 58], i + L, rfl, by go_num, by omega, ⟨?_, by omega⟩, hb⟩
          rw [hs.out.1, told_jump _ _ _ l0]
        case measure => simp [intOf]; omega
      · have hia' : ((i : Int) == a) = false := by simpa using hia
        obtain ⟨k0, f0, lk⟩ := keepf hb w.heap.size HC.out.2.2.2
        have c1 : wr.cell? ⟨w.heap.size, 1, none⟩ = some (.int .u64 (hiQ x)) := (k0 1).trans HC.out.2.1
        have c2 : wr.cell? ⟨w.heap.size, 2, none⟩ = some (.int .u64 (loQ x)) := (k0 2).trans HC.out.2.2.1
        clear k0 f0
        have hstep := told_step (groupsOf x) a L i (groupsOf_len x) (groupsOf_lt x) hi8 hia (by have := hs.out.2; omega)
        rw [← hs.out.1, show (groupsOf x).getD i 0 = gi x i from rfl] at hstep
        have hout : (((i + 1 : Nat) : Int) ≤ a ∨ a < 0 ∨ a.toNat + L ≤ i + 1) := by have := hs.out.2; omega
        have hg16 : gi x i < 65536 := groupsOf_lt x _ (by unfold gi; rw [List.getD, List.getElem?_eq_getElem (show i < (groupsOf x).length from hi8)]; exact List.getElem_mem _)
        have HGr := Lib.hid (fun w => groupE_x x i w HX.out hi8)
        have HHx := Lib.hid (fun w => hexE_x (gi x i) w hg16)
        have ht4 := (hexS_len (gi x i)).2
        have HST := Lib.hid (And.intro hstep hout)
        generalize gi x i = g at *
        obtain ⟨t, htt⟩ : ∃ t, hexS g = t := ⟨_, rfl⟩
        rw [htt] at HHx ht4 HST
        clear htt hstep hout hg16 hia
        by_cases hsn : s = []
        · subst hsn
          have e0 : baS [] = ⟨#[]⟩ := rfl
          rw [e0]
          have hadd : ∀ V, (Op.stringOp .add (⟨#[]⟩) (baS t)).run Tryz.prog V = .ok (.string (baS t)) V := addS [] t (by simp) (by omega)
          go_wp2_with fail
          refine (HGr.out _).mono ?_
          rintro e w3 ⟨rfl, hb3⟩
          go_wp2_with fail
          refine (HHx.out _).mono ?_
          rintro e w4 ⟨rfl, hb4⟩
          go_wp2
          go_roundw
          case rel => exact ⟨t, i + 1, rfl, by go_num, by omega, ⟨HST.out.1, HST.out.2⟩, below_next (below_next hb hb3) hb4⟩
          case measure => simp [intOf]; omega
        · have hq := ne_listS hsn
          obtain ⟨n, hn⟩ : ∃ n, s.length = n + 1 := ⟨s.length - 1, by have := List.length_pos_iff.2 hsn; omega⟩
          have hsz : (baS s).size = n + 1 := by rw [baS_len, hn]
          obtain ⟨c, hc⟩ : ∃ c : UInt8, ∀ h, (baS s)[n]'h = c := ⟨(baS s)[n]'(by rw [hsz]; omega), fun h => rfl⟩
          have hlast := stepS_last hn c hc
          have hn100 : n < 100 := by omega
          by_cases hc58 : c = 58
          · have hcc : ((c.toNat : Int) != 58) = false := by rw [hc58]; rfl
            have hst : stepS s = s := by unfold stepS; rw [if_neg hsn, if_pos (by rw [hlast, hc58])]
            rw [hst] at HST
            have hadd : ∀ V, (Op.stringOp .add (baS s) (baS t)).run Tryz.prog V = .ok (.string (baS (s ++ t))) V := addS s t (by omega) (by omega)
            clear hlast hst hc58 hn
            go_wp2_with fail
            refine (HGr.out _).mono ?_
            rintro e w3 ⟨rfl, hb3⟩
            go_wp2_with fail
            refine (HHx.out _).mono ?_
            rintro e w4 ⟨rfl, hb4⟩
            go_wp2
            go_roundw
            case rel => exact ⟨s ++ t, i + 1, rfl, by go_num, by omega, ⟨HST.out.1, HST.out.2⟩, below_next (below_next hb hb3) hb4⟩
            case measure => simp [intOf]; omega
          · have hcc : ((c.toNat : Int) != 58) = true := by
              rw [bne_iff_ne]; intro e; exact hc58 (UInt8.toNat_inj.1 (by simpa using Int.ofNat_inj.1 e))
            have hst : stepS s = s ++ [58] := by unfold stepS; rw [if_neg hsn, if_neg (by rw [hlast]; intro e; exact hc58 (by simpa using e))]
            rw [hst] at HST
            have haddc : ∀ V, (Op.stringOp .add (baS s) ⟨#[58]⟩).run Tryz.prog V = .ok (.string (baS (s ++ [58]))) V := addS s [58] (by omega) (by decide)
            have hadd : ∀ V, (Op.stringOp .add (baS (s ++ [58])) (baS t)).run Tryz.prog V = .ok (.string (baS (s ++ [58] ++ t))) V := addS (s ++ [58]) t (by simp; omega) (by omega)
            clear hlast hst hc58 hn
            go_wp2_with fail
            refine (HGr.out _).mono ?_
            rintro e w3 ⟨rfl, hb3⟩
            go_wp2_with fail
            refine (HHx.out _).mono ?_
            rintro e w4 ⟨rfl, hb4⟩
            go_wp2
            go_roundw
            case rel => exact ⟨_, i + 1, rfl, by go_num, by omega, ⟨by have := HST.out.1; simpa using this, HST.out.2⟩, below_next (below_next hb hb3) hb4⟩
            case measure => simp [intOf]; omega
    · obtain rfl : i = 8 := by omega
      go_wp2
      go_ret
      exact ⟨by rw [← HE.out, ← hs.out.1]; rfl, below_next B hb⟩
set_option maxHeartbeats 1000000 in
theorem printE_no (v : Int) (x : Nat) (w : World) (h : okV v x = false) (hx : x < 340282366920938463463374607431768211456) :
    Calls Tryz.prog 31 #[.agg #[.int .i64 v, .int .u64 (hiQ x), .int .u64 (loQ x)]] w fun e w' => e = .returned (.string ⟨#[]⟩) ∧ Below w.heap.size w w' := by
  have HO := Lib.hid (fun w => refOkA_is v x w hx false h)
  clear h hx
  go_enter Tryz.func31, Tryz.ntmps31
  go_wp2_with fail
  refine (HO.out _).mono ?_
  rintro e w1 ⟨rfl, hb1⟩
  go_wp2
  go_ret
  exact ⟨rfl, below_next (ball (Below.refl _ _)) hb1⟩
/-- The checker tells each address as tellV does; of none it tells nothing. -/
theorem printE_x (v : Int) (x : Nat) (w : World) (hx : x < 340282366920938463463374607431768211456) :
    Calls Tryz.prog 31 #[.agg #[.int .i64 v, .int .u64 (hiQ x), .int .u64 (loQ x)]] w fun e w' => e = .returned (.string (baS (tellV v x))) ∧ Below w.heap.size w w' := by
  cases h : okV v x
  · rw [show tellV v x = [] by simp [tellV, h]]; exact printE_no v x w h hx
  · rcases okV_cases h with rfl | ⟨rfl, hx4⟩
    · rw [show tellV 6 x = tellSix (groupsOf x) by simp [tellV, h]]; exact printE6_x x w hx
    · rw [show tellV 4 x = tellFour x by simp [tellV, h], hiQ_small hx4, loQ_small hx4]; exact printE4_x x w hx4
theorem printE_is (v : Int) (x : Nat) (w : World) (hx : x < 340282366920938463463374607431768211456) (s : ByteArray) (h : baS (tellV v x) = s) :
    Calls Tryz.prog 31 #[.agg #[.int .i64 v, .int .u64 (hiQ x), .int .u64 (loQ x)]] w fun e w' => e = .returned (.string s) ∧ Below w.heap.size w w' := h ▸ printE_x v x w hx
end Go.Proofs.YtmnemjhkmllniaaGreatDoor
