/- The checker's own Print: some string of at most 100 bytes. -/
import Derived.Test.YtmlhlidjgiofkaaDoorRz
namespace Go.Proofs.YtmlhlidjgiofkaaDoor
open Go.ChangeShapes Go.WideShapes Go.RowKit Go.Sort

theorem refText_s (z : Int) (w : World) (h0 : 0 ≤ z) (h1 : z < 256) :
    Calls Tryd.prog 37 #[.int .u64 z] w fun e w' => Told 3 e ∧ Below w.heap.size w w' := by
  obtain ⟨n, rfl⟩ := Int.eq_ofNat_of_zero_le h0
  exact refText_x n w (by omega)
theorem and8 (a : Int) (h0 : 0 ≤ a) (h1 : a < 18446744073709551616) : 0 ≤ bits .and .u64 a 255 ∧ bits .and .u64 a 255 < 256 := by
  rw [u64_and a 255 h0 h1 (by decide) (by decide)]
  have : a.toNat &&& (255 : Int).toNat ≤ 255 := Nat.and_le_right
  omega
set_option maxHeartbeats 4000000 in
set_option maxRecDepth 100000 in
theorem refPrint4_x (x : Nat) (w : World) (hx : x < 4294967296) :
    Calls Tryd.prog 24 #[.agg #[.int .i64 4, .int .u64 0, .int .u64 x]] w fun e w' => Told 100 e ∧ Below w.heap.size w w' := by
  have ho := refOk_x 4 x
  rw [hiQ_small hx, loQ_small hx] at ho
  have HO := Lib.hid (fun w => ho w (by simp [okV]; omega))
  have H1 : Hid (0 ≤ (x : Int) / 16777216 ∧ (x : Int) / 16777216 < 256) := ⟨by omega, by omega⟩
  have H2 : Hid _ := Lib.hid (and8 ((x : Int) / 65536) (by omega) (by omega))
  have H3 : Hid _ := Lib.hid (and8 ((x : Int) / 256) (by omega) (by omega))
  have H4 : Hid _ := Lib.hid (and8 (x : Int) (by omega) (by omega))
  obtain ⟨W, hW⟩ : ∃ W, W = w.alloc (.cells #[.int .i64 4, .int .u64 0, .int .u64 (x : Int)] 28) := ⟨_, rfl⟩
  have B : Below w.heap.size w W := hW ▸ (Below.refl _ _).alloc (Nat.le_refl _) _
  have HC : Hid (W.cell? ⟨w.heap.size, 0, none⟩ = some (.int .i64 4) ∧ W.cell? ⟨w.heap.size, 1, none⟩ = some (.int .u64 0) ∧ W.cell? ⟨w.heap.size, 2, none⟩ = some (.int .u64 (x : Int)) ∧ w.heap.size < W.heap.size) := ⟨by rw [hW]; simp [go_sem], by rw [hW]; simp [go_sem], by rw [hW]; simp [go_sem], by rw [hW]; simp⟩
  clear ho hx
  go_enter Tryd.func24, Tryd.ntmps24
  go_wp2_with fail
  rw [← hW]
  clear hW
  refine (HO.out W).mono ?_
  rintro e w1 ⟨rfl, hb1⟩
  obtain ⟨k0, f0, l0⟩ := keepf hb1 w.heap.size HC.out.2.2.2
  have c0 : w1.cell? ⟨w.heap.size, 0, none⟩ = some (.int .i64 4) := (k0 0).trans HC.out.1
  have c1 : w1.cell? ⟨w.heap.size, 1, none⟩ = some (.int .u64 0) := (k0 1).trans HC.out.2.1
  have c2 : w1.cell? ⟨w.heap.size, 2, none⟩ = some (.int .u64 x) := (k0 2).trans HC.out.2.2.1
  clear k0 f0
  go_wp2_with fail
  refine (refText_s _ _ H1.out.1 H1.out.2).mono ?_
  rintro e w2 ⟨⟨s1, rfl, n1⟩, hb2⟩
  have hadd1 : ∀ V, (Op.stringOp .add (baS s1) ⟨#[46]⟩).run Tryd.prog V = .ok (.string (baS (s1 ++ [46]))) V := addS s1 [46] (by omega) (by decide)
  obtain ⟨t1, ht1⟩ : ∃ t, t = s1 ++ [46] := ⟨_, rfl⟩
  have m1 : t1.length ≤ 4 := by rw [ht1]; simp; omega
  rw [← ht1] at hadd1
  clear ht1
  go_wp2_with fail
  refine (refText_s _ _ H2.out.1 H2.out.2).mono ?_
  rintro e w3 ⟨⟨s2, rfl, n2⟩, hb3⟩
  have hadd2 : ∀ V, (Op.stringOp .add (baS t1) (baS s2)).run Tryd.prog V = .ok (.string (baS (t1 ++ s2))) V := addS t1 s2 (by omega) (by omega)
  obtain ⟨t2, ht2⟩ : ∃ t, t = t1 ++ s2 := ⟨_, rfl⟩
  have m2 : t2.length ≤ 7 := by rw [ht2]; simp; omega
  rw [← ht2] at hadd2
  have hadd3 : ∀ V, (Op.stringOp .add (baS t2) ⟨#[46]⟩).run Tryd.prog V = .ok (.string (baS (t2 ++ [46]))) V := addS t2 [46] (by omega) (by decide)
  obtain ⟨t3, ht3⟩ : ∃ t, t = t2 ++ [46] := ⟨_, rfl⟩
  have m3 : t3.length ≤ 8 := by rw [ht3]; simp; omega
  rw [← ht3] at hadd3
  clear ht2 ht3
  go_wp2_with fail
  refine (refText_s _ _ H3.out.1 H3.out.2).mono ?_
  rintro e w4 ⟨⟨s3, rfl, n3⟩, hb4⟩
  have hadd4 : ∀ V, (Op.stringOp .add (baS t3) (baS s3)).run Tryd.prog V = .ok (.string (baS (t3 ++ s3))) V := addS t3 s3 (by omega) (by omega)
  obtain ⟨t4, ht4⟩ : ∃ t, t = t3 ++ s3 := ⟨_, rfl⟩
  have m4 : t4.length ≤ 11 := by rw [ht4]; simp; omega
  rw [← ht4] at hadd4
  have hadd5 : ∀ V, (Op.stringOp .add (baS t4) ⟨#[46]⟩).run Tryd.prog V = .ok (.string (baS (t4 ++ [46]))) V := addS t4 [46] (by omega) (by decide)
  obtain ⟨t5, ht5⟩ : ∃ t, t = t4 ++ [46] := ⟨_, rfl⟩
  have m5 : t5.length ≤ 12 := by rw [ht5]; simp; omega
  rw [← ht5] at hadd5
  clear ht4 ht5
  go_wp2_with fail
  refine (refText_s _ _ H4.out.1 H4.out.2).mono ?_
  rintro e w5 ⟨⟨s4, rfl, n4⟩, hb5⟩
  have hadd6 : ∀ V, (Op.stringOp .add (baS t5) (baS s4)).run Tryd.prog V = .ok (.string (baS (t5 ++ s4))) V := addS t5 s4 (by omega) (by omega)
  go_wp2
  go_ret
  exact ⟨⟨_, rfl, by simp; omega⟩, below_next (below_next (below_next (below_next (below_next B hb1) hb2) hb3) hb4) hb5⟩
set_option maxHeartbeats 4000000 in
set_option maxRecDepth 100000 in
theorem refPrint6_x (x : Nat) (w : World) (hx : x < 340282366920938463463374607431768211456) :
    Calls Tryd.prog 24 #[.agg #[.int .i64 6, .int .u64 (hiQ x), .int .u64 (loQ x)]] w fun e w' => Told 100 e ∧ Below w.heap.size w w' := by
  have HO := Lib.hid (fun w => refOk_x 6 x w (by simp [okV]))
  have HX := Lib.hid hx
  obtain ⟨W, hW⟩ : ∃ W, W = w.alloc (.cells #[.int .i64 6, .int .u64 (hiQ x), .int .u64 (loQ x)] 28) := ⟨_, rfl⟩
  have B : Below w.heap.size w W := hW ▸ (Below.refl _ _).alloc (Nat.le_refl _) _
  have HC : Hid (W.cell? ⟨w.heap.size, 0, none⟩ = some (.int .i64 6) ∧ W.cell? ⟨w.heap.size, 1, none⟩ = some (.int .u64 (hiQ x)) ∧ W.cell? ⟨w.heap.size, 2, none⟩ = some (.int .u64 (loQ x)) ∧ w.heap.size < W.heap.size) := ⟨by rw [hW]; simp [go_sem], by rw [hW]; simp [go_sem], by rw [hW]; simp [go_sem], by rw [hW]; simp⟩
  clear hx
  go_enter Tryd.func24, Tryd.ntmps24
  go_wp2_with fail
  rw [← hW]
  clear hW
  refine (HO.out W).mono ?_
  rintro e w1 ⟨rfl, hb1⟩
  obtain ⟨k0, f0, l0⟩ := keepf hb1 w.heap.size HC.out.2.2.2
  have c0 : w1.cell? ⟨w.heap.size, 0, none⟩ = some (.int .i64 6) := (k0 0).trans HC.out.1
  have c1 : w1.cell? ⟨w.heap.size, 1, none⟩ = some (.int .u64 (hiQ x)) := (k0 1).trans HC.out.2.1
  have c2 : w1.cell? ⟨w.heap.size, 2, none⟩ = some (.int .u64 (loQ x)) := (k0 2).trans HC.out.2.2.1
  clear k0 f0
  go_wp2_with fail
  refine (refZeros_x x _ HX.out).mono ?_
  rintro e w2 ⟨⟨a, l, rfl, a0, a1, l1, l2⟩, hb2⟩
  have HB : Hid (Below W.heap.size W w2) := below_next hb1 hb2
  clear c0 c1 c2 hb1 hb2 l0
  go_wp2
  go_loopw [6, 7] (fun sv iv wr => ∃ (s : Bs) (i : Nat), sv = .string (baS s) ∧ iv = .int .i64 i ∧ i ≤ 20 ∧ Hid (s.length ≤ 5 * i) ∧ Below W.heap.size W wr)
    (fun _ iv _ => 20 - (intOf iv).toNat)
  case atStart => exact ⟨[], 0, rfl, rfl, by omega, by show _ ≤ _; simp, HB.out⟩
  case round =>
    obtain ⟨s, i, rfl, rfl, hi, hs, hb⟩ := hrel
    clear HB
    by_cases hi8 : i < 8
    · have hi8' : (i : Int) < 8 := by omega
      by_cases hia : (i : Int) = a
      · subst hia
        have hadd : ∀ V, (Op.stringOp .add (baS s) ⟨#[58, 58]⟩).run Tryd.prog V = .ok (.string (baS (s ++ [58, 58]))) V := addS s [58, 58] (by have := hs.out; omega) (by decide)
        go_wp2
        go_roundw
        case rel => exact ⟨s ++ [58, 58], i + l.toNat, rfl, by go_num, by omega, by show _ ≤ _; have := hs.out; simp; omega, hb⟩
        case measure => simp [intOf]; omega
      · have hia' : ((i : Int) == a) = false := by simpa using hia
        obtain ⟨k0, f0, l0⟩ := keepf hb w.heap.size HC.out.2.2.2
        have c1 : wr.cell? ⟨w.heap.size, 1, none⟩ = some (.int .u64 (hiQ x)) := (k0 1).trans HC.out.2.1
        have c2 : wr.cell? ⟨w.heap.size, 2, none⟩ = some (.int .u64 (loQ x)) := (k0 2).trans HC.out.2.2.1
        clear k0 f0
        by_cases hsn : s = []
        · subst hsn
          have e0 : baS [] = ⟨#[]⟩ := rfl
          rw [e0]
          go_wp2_with fail
          refine (refGroup_x x i wr HX.out hi8).mono ?_
          rintro e w3 ⟨⟨g, rfl, hg⟩, hb3⟩
          go_wp2_with fail
          refine (refHex_x g w3 hg).mono ?_
          rintro e w4 ⟨⟨t, rfl, ht⟩, hb4⟩
          have hadd : ∀ V, (Op.stringOp .add (⟨#[]⟩) (baS t)).run Tryd.prog V = .ok (.string (baS ([] ++ t))) V := addS ([]) t (by have := hs.out; simp at *; try omega) (by omega)
          go_wp2
          go_roundw
          case rel => exact ⟨[] ++ t, i + 1, rfl, by go_num, by omega, by show _ ≤ _; have := hs.out; simp at *; omega, below_next (below_next hb hb3) hb4⟩
          case measure => simp [intOf]; omega
        · have hq := ne_listR hsn
          have hlen : 1 ≤ s.length := by cases s with | nil => exact absurd rfl hsn | cons _ _ => simp
          obtain ⟨n, hn⟩ : ∃ n, s.length = n + 1 := ⟨s.length - 1, by omega⟩
          have hsz : (baS s).size = n + 1 := by rw [baS_size, hn]
          obtain ⟨c, hc⟩ : ∃ c : UInt8, ∀ h, (baS s)[n]'h = c := ⟨(baS s)[n]'(by rw [hsz]; omega), fun h => rfl⟩
          have hn100 : n < 100 := by have := hs.out; omega
          cases hcc : ((c.toNat : Int) != 58)
          · 
            go_wp2_with fail
            refine (refGroup_x x i wr HX.out hi8).mono ?_
            rintro e w3 ⟨⟨g, rfl, hg⟩, hb3⟩
            go_wp2_with fail
            refine (refHex_x g w3 hg).mono ?_
            rintro e w4 ⟨⟨t, rfl, ht⟩, hb4⟩
            have hadd : ∀ V, (Op.stringOp .add (baS s) (baS t)).run Tryd.prog V = .ok (.string (baS (s ++ t))) V := addS (s) t (by have := hs.out; simp at *; try omega) (by omega)
            go_wp2
            go_roundw
            case rel => exact ⟨s ++ t, i + 1, rfl, by go_num, by omega, by show _ ≤ _; have := hs.out; simp at *; omega, below_next (below_next hb hb3) hb4⟩
            case measure => simp [intOf]; omega
          · have haddc : ∀ V, (Op.stringOp .add (baS s) ⟨#[58]⟩).run Tryd.prog V = .ok (.string (baS (s ++ [58]))) V := addS s [58] (by omega) (by decide)
            go_wp2_with fail
            refine (refGroup_x x i wr HX.out hi8).mono ?_
            rintro e w3 ⟨⟨g, rfl, hg⟩, hb3⟩
            go_wp2_with fail
            refine (refHex_x g w3 hg).mono ?_
            rintro e w4 ⟨⟨t, rfl, ht⟩, hb4⟩
            have hadd : ∀ V, (Op.stringOp .add (baS (s ++ [58])) (baS t)).run Tryd.prog V = .ok (.string (baS (s ++ [58] ++ t))) V := addS (s ++ [58]) t (by have := hs.out; simp at *; try omega) (by omega)
            go_wp2
            go_roundw
            case rel => exact ⟨_, i + 1, rfl, by go_num, by omega, by show _ ≤ _; have := hs.out; simp at *; omega, below_next (below_next hb hb3) hb4⟩
            case measure => simp [intOf]; omega
    · have hi8' : ¬ (i : Int) < 8 := by omega
      go_wp2
      go_ret
      exact ⟨⟨s, rfl, by have := hs.out; omega⟩, below_next B hb⟩
/-- The checker's own Print tells every address that may stand as some string of at most 100 bytes. -/
theorem refPrint_x (v : Int) (x : Nat) (w : World) (h : okV v x = true) (hx : x < 340282366920938463463374607431768211456) :
    Calls Tryd.prog 24 #[.agg #[.int .i64 v, .int .u64 (hiQ x), .int .u64 (loQ x)]] w fun e w' => Told 100 e ∧ Below w.heap.size w w' := by
  rcases okV_cases h with rfl | ⟨rfl, hx4⟩
  · exact refPrint6_x x w hx
  · rw [hiQ_small hx4, loQ_small hx4]; exact refPrint4_x x w hx4
end Go.Proofs.YtmlhlidjgiofkaaDoor
