/- JsonDeep: whatever is asked for, the law answers true. -/
import Derived.Test.YtgiihljiekagdaaDoorLx
namespace Go.Proofs.YtgiihljiekagdaaDoor
open Go.ChangeShapes Go.WideShapes Go.RowKit Go.Sort
set_option maxHeartbeats 8000000 in
set_option maxRecDepth 100000 in
theorem deep_0 (n m : Int) (k : Nat) (w0 : World) (hg : Gl w0) (hn : bits BinOp.and IntKind.i64 n 127 = 0) (hm : bits BinOp.and IntKind.i64 m 511 = (k : Int)) (hk : k < 512) :
    Calls Tryd.prog 4 #[.int .i64 n, .bool false, .int .i64 m] w0 fun e w' => e = .returned (.bool true) ∧ Below w0.heap.size w0 w' := by
  have HG := Lib.hid hg
  clear hg
  have HL2 : Hid (∀ j, j < 512 → ∀ V, (Op.stringOp .add (baS (longX j)) ⟨#[120]⟩).run Tryd.prog V = .ok (.string (baS (longX (j + 1)))) V) := Lib.hid (fun j hj V => by
    have := addS (longX j) [120] (by rw [longX_len]; omega) (by decide) V
    rw [longX_snoc] at this; exact this)
  have HL3 : Hid (∀ V, (Op.stringOp .add (baS (longX k)) ⟨#[34, 93]⟩).run Tryd.prog V = .ok (.string (baS (longX k ++ [34, 93]))) V) := Lib.hid (fun V => addS (longX k) [34, 93] (by rw [longX_len]; omega) (by decide) V)
  have HQ := Lib.hid (fun V hV => parse_s (longX k ++ [34, 93]) V (by simp [longX_len]; omega) hV)
  have kc : ∀ (V : World) (s : ByteArray), (convert 9 29 (.string s)).run Tryd.prog V = .ok (.slice (some ⟨V.heap.size, 0, none⟩) s.size (grownCap V s.size 0 5)) (Lib.bytesWorld V 5 s) := fun V s =>
    Lib.run_convert_string_bytes V 9 29 5 s Tryd.underlying9 Tryd.underlying29 Tryd.underlying5
  have HPS := Lib.hid (fun V hV => parse_s [49] V (by decide) hV)
  go_enter Tryd.func4, Tryd.ntmps4
  go_wp2_with fail
  go_loopw [7, 8, 9] (fun sv ev iv wr => iv = .int .i64 0 ∧ sv = .string ⟨#[]⟩ ∧ ev = .string ⟨#[]⟩ ∧ wr = w0) (fun _ _ iv _ => 1 - intN iv)
  case atStart => exact ⟨rfl, rfl, rfl, rfl⟩
  case round =>
    obtain ⟨rfl, rfl, rfl, hwr⟩ := hrel
    subst wr
    have hadd : ∀ V, (Op.stringOp .add ⟨#[]⟩ ⟨#[49]⟩).run Tryd.prog V = .ok (.string (baS [49])) V := fun V => addS [] [49] (by decide) (by decide) V
    have hadd3 : ∀ V, (Op.stringOp .add (baS [49]) ⟨#[]⟩).run Tryd.prog V = .ok (.string (baS [49])) V := fun V => addS [49] [] (by decide) (by decide) V
    have HP1 := Lib.hid (fun V hV => (HPS.out V hV).mono fun e w' h => ok1 h (v := .mk 4 1 [] [] [] 0) (by kernel_rfl))
    have h64 : True := trivial
    have hd : True := trivial
    clear HPS
    generalize baS [49] = S1 at *
    go_wp2_with fail
    unfold Ok1 at HP1
    refine (HP1.out _ (HG.out)).mono ?_
    rintro e w1 ⟨hb1, kx, xx, tx, pl, nl, cl, pq, nq, cq, ax, rfl⟩
    go_upto_region 12 with fail
    generalize hw2 : (w1.alloc _).alloc _ = w2
    have hn2 : Below w1.heap.size w1 w2 := hw2 ▸ ball (ball (Below.refl _ _))
    have B2 : Below w0.heap.size w0 w2 := below_next hb1 hn2
    have E2 : ErrC w2 (w1.heap.size + 1) 0 0 := by subst hw2; exact ⟨by simp [go_sem], by simp [go_sem], by simp [go_sem]⟩
    have J2 : w2.cell? ⟨w1.heap.size, 0, none⟩ = some (.int .i64 kx) := by subst hw2; simp [go_sem]
    clear hw2 hn2 hb1 HP1
    generalize w1.heap.size = N1 at *
    obtain ⟨e0, e1, el⟩ := E2
    go_wp2_with fail
    clear e0 e1 el J2 h64 hd
    have HB2 := Lib.hid B2
    go_loopw [13, 14] (fun tv iv wr => ∃ j : Nat, iv = .int .i64 (j : Int) ∧ j ≤ k ∧ tv = .string (baS (longX j)) ∧ wr = w2) (fun _ iv _ => k + 1 - intN iv)
    case atStart => exact ⟨0, rfl, Nat.zero_le _, rfl, rfl⟩
    case round =>
      obtain ⟨j, rfl, hj, rfl, hwr⟩ := hrel
      subst wr
      by_cases hlt : j < k
      · have hlt2 : (j : Int) < (k : Int) := by omega
        have hadd := HL2.out j (by omega)
        generalize baS (longX j) = SJ at *
        generalize hj1 : j + 1 = j1 at *
        have HJ1 := Lib.hid hj1
        clear hj1
        go_wp2_with fail
        exact ⟨⟨j1, by simp [← HJ1.out], by have := HJ1.out; omega, rfl, trivial⟩, by have := HJ1.out; simp [intN]; omega⟩
      · have hlt2 : ¬ ((j : Int) < (k : Int)) := by omega
        obtain rfl : j = k := by omega
        have hadd := HL3.out
        have HGW := Lib.hid (HG.out.below HB2.out)
        clear HL2 HL3 hlt HG
        by_cases h255 : 255 < j
        · have h255' : (255 : Int) < (j : Int) := by omega
          have HP2 := Lib.hid (fun V hV => (HQ.out V hV).mono fun e w' h => (h.no ((json_long j).trans (if_pos h255))).symm)
          clear HQ
          generalize longX j ++ [34, 93] = L2 at *
          generalize baS L2 = S2 at *
          generalize baS (longX j) = SJ at *
          go_wp2_with fail
          refine (HP2.out _ HGW.out).mono ?_
          rintro e w3 ⟨hb3, rfl⟩
          go_upto_region 23 with fail
          generalize hw4 : (w3.alloc _).alloc _ = w4
          have hn4 : Below w3.heap.size w3 w4 := hw4 ▸ ball (ball (Below.refl _ _))
          have B4 := below_next HB2.out (below_next hb3 hn4)
          have E4 : ErrC w4 (w3.heap.size + 1) 2 1 := by subst hw4; exact ⟨by simp [go_sem], by simp [go_sem], by simp [go_sem]⟩
          have HA := Lib.hid (awake11_x w4 (HGW.out.below (below_next hb3 hn4)))
          clear hw4 hn4 hb3 HP2 hadd kc
          generalize w3.heap.size = N3 at *
          obtain ⟨f0, f1, fl⟩ := E4
          go_wp2_with fail
          refine HA.out.mono ?_
          rintro e w5 ⟨rfl, hb5⟩
          have B5 := below_next B4 hb5
          clear HA f0 f1 fl
          go_wp2_with fail
          go_ret
          exact ⟨rfl, B5⟩
        · have h255' : ¬ ((255 : Int) < (j : Int)) := by omega
          have HP2 := Lib.hid (fun V hV => (HQ.out V hV).mono fun e w' h => ok2 h (k := j) ((json_long j).trans (if_neg h255)))
          clear HQ
          unfold Ok2 at HP2
          have hX := baS_size (List.replicate j (120 : UInt8))
          rw [List.length_replicate] at hX
          generalize baS (List.replicate j (120 : UInt8)) = XS at *
          generalize longX j ++ [34, 93] = L2 at *
          generalize baS L2 = S2 at *
          generalize baS (longX j) = SJ at *
          go_wp2_with fail
          refine (HP2.out _ HGW.out).mono ?_
          rintro e w3 ⟨hb3, g, o, cl, pq, cq, rfl, hcl, hgl, hgc⟩
          go_upto_region 23 with fail
          generalize hw4 : (w3.alloc _).alloc _ = w4
          have hn4 : Below w3.heap.size w3 w4 := hw4 ▸ ball (ball (Below.refl _ _))
          have B4 := below_next HB2.out (below_next hb3 hn4)
          have E4 : ErrC w4 (w3.heap.size + 1) 0 0 := by subst hw4; exact ⟨by simp [go_sem], by simp [go_sem], by simp [go_sem]⟩
          have J4 : w4.cell? ⟨w3.heap.size, 3, none⟩ = some (.slice (some ⟨g, o, none⟩) 1 cl) := by subst hw4; simp [go_sem]
          have X4 : w4.cell? ⟨g, o + 2, none⟩ = some (.string XS) := (olds hn4 g (o + 2) hgl).trans hgc
          have HA := Lib.hid (awake11_x w4 (HGW.out.below (below_next hb3 hn4)))
          clear hw4 hn4 hb3 HP2 hadd kc hgc hgl
          generalize w3.heap.size = N3 at *
          obtain ⟨f0, f1, fl⟩ := E4
          go_wp2_with fail
          refine HA.out.mono ?_
          rintro e w5 ⟨rfl, hb5⟩
          have B5 := below_next B4 hb5
          clear HA f0 f1 fl J4 X4
          go_wp2_with fail
          go_ret
          exact ⟨rfl, B5⟩
set_option maxHeartbeats 8000000 in
set_option maxRecDepth 100000 in
theorem deep_m (n m : Int) (d k : Nat) (w0 : World) (hg : Gl w0) (hn : bits BinOp.and IntKind.i64 n 127 = (d : Int)) (hm : bits BinOp.and IntKind.i64 m 511 = (k : Int)) (hd : d < 128) (hk : k < 512) :
    Calls Tryd.prog 4 #[.int .i64 n, .bool true, .int .i64 m] w0 fun e w' => e = .returned (.bool true) ∧ Below w0.heap.size w0 w' := by
  have HG := Lib.hid hg
  clear hg
  have HL1 := Lib.hid (fun j (hj : j < 128) V => addS (openM j) unitM (by rw [openM_len]; omega) (by decide) V)
  have HL1e := Lib.hid (fun j (hj : j < 128) V => addS [125] (List.replicate j 125) (by decide) (by simp; omega) V)
  have HL2 : Hid (∀ j, j < 512 → ∀ V, (Op.stringOp .add (baS (longX j)) ⟨#[120]⟩).run Tryd.prog V = .ok (.string (baS (longX (j + 1)))) V) := Lib.hid (fun j hj V => by
    have := addS (longX j) [120] (by rw [longX_len]; omega) (by decide) V
    rw [longX_snoc] at this; exact this)
  have HL3 : Hid (∀ V, (Op.stringOp .add (baS (longX k)) ⟨#[34, 93]⟩).run Tryd.prog V = .ok (.string (baS (longX k ++ [34, 93]))) V) := Lib.hid (fun V => addS (longX k) [34, 93] (by rw [longX_len]; omega) (by decide) V)
  have HQ := Lib.hid (fun V hV => parse_s (longX k ++ [34, 93]) V (by simp [longX_len]; omega) hV)
  have kc : ∀ (V : World) (s : ByteArray), (convert 9 29 (.string s)).run Tryd.prog V = .ok (.slice (some ⟨V.heap.size, 0, none⟩) s.size (grownCap V s.size 0 5)) (Lib.bytesWorld V 5 s) := fun V s =>
    Lib.run_convert_string_bytes V 9 29 5 s Tryd.underlying9 Tryd.underlying29 Tryd.underlying5
  have HADD : Hid (∀ V, (Op.stringOp .add (baS (openM d)) ⟨#[49]⟩).run Tryd.prog V = .ok (.string (baS (openM d ++ [49]))) V) := Lib.hid (fun V => addS (openM d) [49] (by rw [openM_len]; omega) (by decide) V)
  have HADE : Hid (∀ V, (Op.stringOp .add (baS (openM d ++ [49])) (baS (List.replicate d 125))).run Tryd.prog V = .ok (.string (baS (openM d ++ 49 :: List.replicate d 125))) V) := Lib.hid (fun V => by
    have := addS (openM d ++ [49]) (List.replicate d 125) (by rw [List.length_append, openM_len]; simp; omega) (by simp; omega) V
    rw [List.append_assoc] at this; exact this)
  have HPS := Lib.hid (fun V hV => parse_s (openM d ++ 49 :: List.replicate d 125) V (by rw [List.length_append, openM_len]; simp; omega) hV)
  go_enter Tryd.func4, Tryd.ntmps4
  go_wp2_with fail
  go_loopw [7, 8, 9] (fun sv ev iv wr => ∃ j : Nat, iv = .int .i64 (j : Int) ∧ j ≤ d ∧ sv = .string (baS (openM j)) ∧ ev = .string (baS (List.replicate j 125)) ∧ wr = w0) (fun _ _ iv _ => d + 1 - intN iv)
  case atStart => exact ⟨0, rfl, Nat.zero_le _, rfl, rfl, rfl⟩
  case round =>
    obtain ⟨j, rfl, hj, rfl, rfl, hwr⟩ := hrel
    subst wr
    by_cases hlt : j < d
    · have hlt2 : (j : Int) < (d : Int) := by omega
      have hadd : ∀ V, (Op.stringOp .add (baS (openM j)) ⟨#[123, 34, 97, 34, 58]⟩).run Tryd.prog V = .ok (.string (baS (openM (j + 1)))) V := fun V => by
        have := HL1.out j (by omega) V
        rw [openM_snoc] at this; exact this
      have hadd2 : ∀ V, (Op.stringOp .add ⟨#[125]⟩ (baS (List.replicate j 125))).run Tryd.prog V = .ok (.string (baS (List.replicate (j + 1) 125))) V := fun V => HL1e.out j (by omega) V
      generalize baS (openM j) = SJ at *
      generalize baS (List.replicate j (125 : UInt8)) = EJ at *
      generalize hj1 : j + 1 = j1 at *
      have HJ1 := Lib.hid hj1
      clear hj1
      go_wp2_with fail
      exact ⟨⟨j1, by simp [← HJ1.out], by have := HJ1.out; omega, rfl, rfl, trivial⟩, by have := HJ1.out; simp [intN]; omega⟩
    · have hlt2 : ¬ ((j : Int) < (d : Int)) := by omega
      have hjd : j = d := by omega
      rw [hjd] at hlt2 ⊢
      clear hjd hlt hj HL1 HL1e
      have hadd := HADD.out
      have hadd3 := HADE.out
      clear HADD HADE
      by_cases h64 : 64 < d
      · have h64' : (64 : Int) < (d : Int) := by omega
        have h64n : ¬ ((d : Int) ≤ 64) := by omega
        have hd0 : ¬ ((d : Int) = 0) := by omega
        have HP1 := Lib.hid (fun V hV => (HPS.out V hV).mono fun e w' h => (h.no (json_deepM_bad d h64 (List.replicate d 125))).symm)
        clear HPS
        generalize openM d ++ 49 :: List.replicate d (125 : UInt8) = L1 at *
        generalize baS L1 = S1 at *
        generalize baS (openM d ++ [49]) = TJ at *
        generalize baS (openM d) = SJ at *
        generalize baS (List.replicate d (125 : UInt8)) = EJ at *
        go_wp2_with fail
        refine (HP1.out _ (HG.out)).mono ?_
        rintro e w1 ⟨hb1, rfl⟩
        go_upto_region 12 with fail
        generalize hw2 : (w1.alloc _).alloc _ = w2
        have hn2 : Below w1.heap.size w1 w2 := hw2 ▸ ball (ball (Below.refl _ _))
        have B2 : Below w0.heap.size w0 w2 := below_next hb1 hn2
        have E2 : ErrC w2 (w1.heap.size + 1) 2 320 := by subst hw2; exact ⟨by simp [go_sem], by simp [go_sem], by simp [go_sem]⟩
        have J2 : w2.cell? ⟨w1.heap.size, 0, none⟩ = some (.int .i64 0) := by subst hw2; simp [go_sem]
        clear hw2 hn2 hb1 HP1
        generalize w1.heap.size = N1 at *
        obtain ⟨e0, e1, el⟩ := E2
        go_wp2_with fail
        clear e0 e1 el J2 h64 hd
        have HB2 := Lib.hid B2
        go_loopw [13, 14] (fun tv iv wr => ∃ j : Nat, iv = .int .i64 (j : Int) ∧ j ≤ k ∧ tv = .string (baS (longX j)) ∧ wr = w2) (fun _ iv _ => k + 1 - intN iv)
        case atStart => exact ⟨0, rfl, Nat.zero_le _, rfl, rfl⟩
        case round =>
          obtain ⟨j, rfl, hj, rfl, hwr⟩ := hrel
          subst wr
          by_cases hlt : j < k
          · have hlt2 : (j : Int) < (k : Int) := by omega
            have hadd := HL2.out j (by omega)
            generalize baS (longX j) = SJ at *
            generalize hj1 : j + 1 = j1 at *
            have HJ1 := Lib.hid hj1
            clear hj1
            go_wp2_with fail
            exact ⟨⟨j1, by simp [← HJ1.out], by have := HJ1.out; omega, rfl, trivial⟩, by have := HJ1.out; simp [intN]; omega⟩
          · have hlt2 : ¬ ((j : Int) < (k : Int)) := by omega
            obtain rfl : j = k := by omega
            have hadd := HL3.out
            have HGW := Lib.hid (HG.out.below HB2.out)
            clear HL2 HL3 hlt HG
            by_cases h255 : 255 < j
            · have h255' : (255 : Int) < (j : Int) := by omega
              have HP2 := Lib.hid (fun V hV => (HQ.out V hV).mono fun e w' h => (h.no ((json_long j).trans (if_pos h255))).symm)
              clear HQ
              generalize longX j ++ [34, 93] = L2 at *
              generalize baS L2 = S2 at *
              generalize baS (longX j) = SJ at *
              go_wp2_with fail
              refine (HP2.out _ HGW.out).mono ?_
              rintro e w3 ⟨hb3, rfl⟩
              go_upto_region 23 with fail
              generalize hw4 : (w3.alloc _).alloc _ = w4
              have hn4 : Below w3.heap.size w3 w4 := hw4 ▸ ball (ball (Below.refl _ _))
              have B4 := below_next HB2.out (below_next hb3 hn4)
              have E4 : ErrC w4 (w3.heap.size + 1) 2 1 := by subst hw4; exact ⟨by simp [go_sem], by simp [go_sem], by simp [go_sem]⟩
              have HA := Lib.hid (awake11_x w4 (HGW.out.below (below_next hb3 hn4)))
              clear hw4 hn4 hb3 HP2 hadd kc
              generalize w3.heap.size = N3 at *
              obtain ⟨f0, f1, fl⟩ := E4
              go_wp2_with fail
              refine HA.out.mono ?_
              rintro e w5 ⟨rfl, hb5⟩
              have B5 := below_next B4 hb5
              clear HA f0 f1 fl
              go_wp2_with fail
              go_ret
              exact ⟨rfl, B5⟩
            · have h255' : ¬ ((255 : Int) < (j : Int)) := by omega
              have HP2 := Lib.hid (fun V hV => (HQ.out V hV).mono fun e w' h => ok2 h (k := j) ((json_long j).trans (if_neg h255)))
              clear HQ
              unfold Ok2 at HP2
              have hX := baS_size (List.replicate j (120 : UInt8))
              rw [List.length_replicate] at hX
              generalize baS (List.replicate j (120 : UInt8)) = XS at *
              generalize longX j ++ [34, 93] = L2 at *
              generalize baS L2 = S2 at *
              generalize baS (longX j) = SJ at *
              go_wp2_with fail
              refine (HP2.out _ HGW.out).mono ?_
              rintro e w3 ⟨hb3, g, o, cl, pq, cq, rfl, hcl, hgl, hgc⟩
              go_upto_region 23 with fail
              generalize hw4 : (w3.alloc _).alloc _ = w4
              have hn4 : Below w3.heap.size w3 w4 := hw4 ▸ ball (ball (Below.refl _ _))
              have B4 := below_next HB2.out (below_next hb3 hn4)
              have E4 : ErrC w4 (w3.heap.size + 1) 0 0 := by subst hw4; exact ⟨by simp [go_sem], by simp [go_sem], by simp [go_sem]⟩
              have J4 : w4.cell? ⟨w3.heap.size, 3, none⟩ = some (.slice (some ⟨g, o, none⟩) 1 cl) := by subst hw4; simp [go_sem]
              have X4 : w4.cell? ⟨g, o + 2, none⟩ = some (.string XS) := (olds hn4 g (o + 2) hgl).trans hgc
              have HA := Lib.hid (awake11_x w4 (HGW.out.below (below_next hb3 hn4)))
              clear hw4 hn4 hb3 HP2 hadd kc hgc hgl
              generalize w3.heap.size = N3 at *
              obtain ⟨f0, f1, fl⟩ := E4
              go_wp2_with fail
              refine HA.out.mono ?_
              rintro e w5 ⟨rfl, hb5⟩
              have B5 := below_next B4 hb5
              clear HA f0 f1 fl J4 X4
              go_wp2_with fail
              go_ret
              exact ⟨rfl, B5⟩

      · have h64' : ¬ ((64 : Int) < (d : Int)) := by omega
        have h64n : (d : Int) ≤ 64 := by omega
        have HP1 := Lib.hid (fun V hV => (HPS.out V hV).mono fun e w' h => ok1 h (json_deepM_ok d (by omega)).choose_spec)
        clear HPS
        generalize openM d ++ 49 :: List.replicate d (125 : UInt8) = L1 at *
        generalize baS L1 = S1 at *
        generalize baS (openM d ++ [49]) = TJ at *
        generalize baS (openM d) = SJ at *
        generalize baS (List.replicate d (125 : UInt8)) = EJ at *
        unfold Ok1 at HP1
        by_cases hd0 : (d : Int) = 0
        · go_wp2_with fail
          refine (HP1.out _ (HG.out)).mono ?_
          rintro e w1 ⟨hb1, kx, xx, tx, pl, nl, cl, pq, nq, cq, ax, rfl⟩
          go_upto_region 12 with fail
          generalize hw2 : (w1.alloc _).alloc _ = w2
          have hn2 : Below w1.heap.size w1 w2 := hw2 ▸ ball (ball (Below.refl _ _))
          have B2 : Below w0.heap.size w0 w2 := below_next hb1 hn2
          have E2 : ErrC w2 (w1.heap.size + 1) 0 0 := by subst hw2; exact ⟨by simp [go_sem], by simp [go_sem], by simp [go_sem]⟩
          have J2 : w2.cell? ⟨w1.heap.size, 0, none⟩ = some (.int .i64 kx) := by subst hw2; simp [go_sem]
          clear hw2 hn2 hb1 HP1
          generalize w1.heap.size = N1 at *
          obtain ⟨e0, e1, el⟩ := E2
          go_wp2_with fail
          clear e0 e1 el J2 h64 hd
          have HB2 := Lib.hid B2
          go_loopw [13, 14] (fun tv iv wr => ∃ j : Nat, iv = .int .i64 (j : Int) ∧ j ≤ k ∧ tv = .string (baS (longX j)) ∧ wr = w2) (fun _ iv _ => k + 1 - intN iv)
          case atStart => exact ⟨0, rfl, Nat.zero_le _, rfl, rfl⟩
          case round =>
            obtain ⟨j, rfl, hj, rfl, hwr⟩ := hrel
            subst wr
            by_cases hlt : j < k
            · have hlt2 : (j : Int) < (k : Int) := by omega
              have hadd := HL2.out j (by omega)
              generalize baS (longX j) = SJ at *
              generalize hj1 : j + 1 = j1 at *
              have HJ1 := Lib.hid hj1
              clear hj1
              go_wp2_with fail
              exact ⟨⟨j1, by simp [← HJ1.out], by have := HJ1.out; omega, rfl, trivial⟩, by have := HJ1.out; simp [intN]; omega⟩
            · have hlt2 : ¬ ((j : Int) < (k : Int)) := by omega
              obtain rfl : j = k := by omega
              have hadd := HL3.out
              have HGW := Lib.hid (HG.out.below HB2.out)
              clear HL2 HL3 hlt HG
              by_cases h255 : 255 < j
              · have h255' : (255 : Int) < (j : Int) := by omega
                have HP2 := Lib.hid (fun V hV => (HQ.out V hV).mono fun e w' h => (h.no ((json_long j).trans (if_pos h255))).symm)
                clear HQ
                generalize longX j ++ [34, 93] = L2 at *
                generalize baS L2 = S2 at *
                generalize baS (longX j) = SJ at *
                go_wp2_with fail
                refine (HP2.out _ HGW.out).mono ?_
                rintro e w3 ⟨hb3, rfl⟩
                go_upto_region 23 with fail
                generalize hw4 : (w3.alloc _).alloc _ = w4
                have hn4 : Below w3.heap.size w3 w4 := hw4 ▸ ball (ball (Below.refl _ _))
                have B4 := below_next HB2.out (below_next hb3 hn4)
                have E4 : ErrC w4 (w3.heap.size + 1) 2 1 := by subst hw4; exact ⟨by simp [go_sem], by simp [go_sem], by simp [go_sem]⟩
                have HA := Lib.hid (awake11_x w4 (HGW.out.below (below_next hb3 hn4)))
                clear hw4 hn4 hb3 HP2 hadd kc
                generalize w3.heap.size = N3 at *
                obtain ⟨f0, f1, fl⟩ := E4
                go_wp2_with fail
                refine HA.out.mono ?_
                rintro e w5 ⟨rfl, hb5⟩
                have B5 := below_next B4 hb5
                clear HA f0 f1 fl
                go_wp2_with fail
                go_ret
                exact ⟨rfl, B5⟩
              · have h255' : ¬ ((255 : Int) < (j : Int)) := by omega
                have HP2 := Lib.hid (fun V hV => (HQ.out V hV).mono fun e w' h => ok2 h (k := j) ((json_long j).trans (if_neg h255)))
                clear HQ
                unfold Ok2 at HP2
                have hX := baS_size (List.replicate j (120 : UInt8))
                rw [List.length_replicate] at hX
                generalize baS (List.replicate j (120 : UInt8)) = XS at *
                generalize longX j ++ [34, 93] = L2 at *
                generalize baS L2 = S2 at *
                generalize baS (longX j) = SJ at *
                go_wp2_with fail
                refine (HP2.out _ HGW.out).mono ?_
                rintro e w3 ⟨hb3, g, o, cl, pq, cq, rfl, hcl, hgl, hgc⟩
                go_upto_region 23 with fail
                generalize hw4 : (w3.alloc _).alloc _ = w4
                have hn4 : Below w3.heap.size w3 w4 := hw4 ▸ ball (ball (Below.refl _ _))
                have B4 := below_next HB2.out (below_next hb3 hn4)
                have E4 : ErrC w4 (w3.heap.size + 1) 0 0 := by subst hw4; exact ⟨by simp [go_sem], by simp [go_sem], by simp [go_sem]⟩
                have J4 : w4.cell? ⟨w3.heap.size, 3, none⟩ = some (.slice (some ⟨g, o, none⟩) 1 cl) := by subst hw4; simp [go_sem]
                have X4 : w4.cell? ⟨g, o + 2, none⟩ = some (.string XS) := (olds hn4 g (o + 2) hgl).trans hgc
                have HA := Lib.hid (awake11_x w4 (HGW.out.below (below_next hb3 hn4)))
                clear hw4 hn4 hb3 HP2 hadd kc hgc hgl
                generalize w3.heap.size = N3 at *
                obtain ⟨f0, f1, fl⟩ := E4
                go_wp2_with fail
                refine HA.out.mono ?_
                rintro e w5 ⟨rfl, hb5⟩
                have B5 := below_next B4 hb5
                clear HA f0 f1 fl J4 X4
                go_wp2_with fail
                go_ret
                exact ⟨rfl, B5⟩

        · go_wp2_with fail
          refine (HP1.out _ (HG.out)).mono ?_
          rintro e w1 ⟨hb1, kx, xx, tx, pl, nl, cl, pq, nq, cq, ax, rfl⟩
          go_upto_region 12 with fail
          generalize hw2 : (w1.alloc _).alloc _ = w2
          have hn2 : Below w1.heap.size w1 w2 := hw2 ▸ ball (ball (Below.refl _ _))
          have B2 : Below w0.heap.size w0 w2 := below_next hb1 hn2
          have E2 : ErrC w2 (w1.heap.size + 1) 0 0 := by subst hw2; exact ⟨by simp [go_sem], by simp [go_sem], by simp [go_sem]⟩
          have J2 : w2.cell? ⟨w1.heap.size, 0, none⟩ = some (.int .i64 kx) := by subst hw2; simp [go_sem]
          clear hw2 hn2 hb1 HP1
          generalize w1.heap.size = N1 at *
          obtain ⟨e0, e1, el⟩ := E2
          go_wp2_with fail
          clear e0 e1 el J2 h64 hd
          have HB2 := Lib.hid B2
          go_loopw [13, 14] (fun tv iv wr => ∃ j : Nat, iv = .int .i64 (j : Int) ∧ j ≤ k ∧ tv = .string (baS (longX j)) ∧ wr = w2) (fun _ iv _ => k + 1 - intN iv)
          case atStart => exact ⟨0, rfl, Nat.zero_le _, rfl, rfl⟩
          case round =>
            obtain ⟨j, rfl, hj, rfl, hwr⟩ := hrel
            subst wr
            by_cases hlt : j < k
            · have hlt2 : (j : Int) < (k : Int) := by omega
              have hadd := HL2.out j (by omega)
              generalize baS (longX j) = SJ at *
              generalize hj1 : j + 1 = j1 at *
              have HJ1 := Lib.hid hj1
              clear hj1
              go_wp2_with fail
              exact ⟨⟨j1, by simp [← HJ1.out], by have := HJ1.out; omega, rfl, trivial⟩, by have := HJ1.out; simp [intN]; omega⟩
            · have hlt2 : ¬ ((j : Int) < (k : Int)) := by omega
              obtain rfl : j = k := by omega
              have hadd := HL3.out
              have HGW := Lib.hid (HG.out.below HB2.out)
              clear HL2 HL3 hlt HG
              by_cases h255 : 255 < j
              · have h255' : (255 : Int) < (j : Int) := by omega
                have HP2 := Lib.hid (fun V hV => (HQ.out V hV).mono fun e w' h => (h.no ((json_long j).trans (if_pos h255))).symm)
                clear HQ
                generalize longX j ++ [34, 93] = L2 at *
                generalize baS L2 = S2 at *
                generalize baS (longX j) = SJ at *
                go_wp2_with fail
                refine (HP2.out _ HGW.out).mono ?_
                rintro e w3 ⟨hb3, rfl⟩
                go_upto_region 23 with fail
                generalize hw4 : (w3.alloc _).alloc _ = w4
                have hn4 : Below w3.heap.size w3 w4 := hw4 ▸ ball (ball (Below.refl _ _))
                have B4 := below_next HB2.out (below_next hb3 hn4)
                have E4 : ErrC w4 (w3.heap.size + 1) 2 1 := by subst hw4; exact ⟨by simp [go_sem], by simp [go_sem], by simp [go_sem]⟩
                have HA := Lib.hid (awake11_x w4 (HGW.out.below (below_next hb3 hn4)))
                clear hw4 hn4 hb3 HP2 hadd kc
                generalize w3.heap.size = N3 at *
                obtain ⟨f0, f1, fl⟩ := E4
                go_wp2_with fail
                refine HA.out.mono ?_
                rintro e w5 ⟨rfl, hb5⟩
                have B5 := below_next B4 hb5
                clear HA f0 f1 fl
                go_wp2_with fail
                go_ret
                exact ⟨rfl, B5⟩
              · have h255' : ¬ ((255 : Int) < (j : Int)) := by omega
                have HP2 := Lib.hid (fun V hV => (HQ.out V hV).mono fun e w' h => ok2 h (k := j) ((json_long j).trans (if_neg h255)))
                clear HQ
                unfold Ok2 at HP2
                have hX := baS_size (List.replicate j (120 : UInt8))
                rw [List.length_replicate] at hX
                generalize baS (List.replicate j (120 : UInt8)) = XS at *
                generalize longX j ++ [34, 93] = L2 at *
                generalize baS L2 = S2 at *
                generalize baS (longX j) = SJ at *
                go_wp2_with fail
                refine (HP2.out _ HGW.out).mono ?_
                rintro e w3 ⟨hb3, g, o, cl, pq, cq, rfl, hcl, hgl, hgc⟩
                go_upto_region 23 with fail
                generalize hw4 : (w3.alloc _).alloc _ = w4
                have hn4 : Below w3.heap.size w3 w4 := hw4 ▸ ball (ball (Below.refl _ _))
                have B4 := below_next HB2.out (below_next hb3 hn4)
                have E4 : ErrC w4 (w3.heap.size + 1) 0 0 := by subst hw4; exact ⟨by simp [go_sem], by simp [go_sem], by simp [go_sem]⟩
                have J4 : w4.cell? ⟨w3.heap.size, 3, none⟩ = some (.slice (some ⟨g, o, none⟩) 1 cl) := by subst hw4; simp [go_sem]
                have X4 : w4.cell? ⟨g, o + 2, none⟩ = some (.string XS) := (olds hn4 g (o + 2) hgl).trans hgc
                have HA := Lib.hid (awake11_x w4 (HGW.out.below (below_next hb3 hn4)))
                clear hw4 hn4 hb3 HP2 hadd kc hgc hgl
                generalize w3.heap.size = N3 at *
                obtain ⟨f0, f1, fl⟩ := E4
                go_wp2_with fail
                refine HA.out.mono ?_
                rintro e w5 ⟨rfl, hb5⟩
                have B5 := below_next B4 hb5
                clear HA f0 f1 fl J4 X4
                go_wp2_with fail
                go_ret
                exact ⟨rfl, B5⟩

end Go.Proofs.YtgiihljiekagdaaDoor
