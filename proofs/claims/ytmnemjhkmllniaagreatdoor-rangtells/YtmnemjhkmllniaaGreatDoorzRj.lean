/- The checker's reading of a range is rangV: what stands between dashes, two parts of it. -/
import Derived.Test.YtmnemjhkmllniaaGreatDoorzGk
import Derived.Test.YtmnemjhkmllniaaGreatDoorzYh
import Derived.Test.YtmnemjhkmllniaaGreatDoorzRg
namespace Go.Proofs.YtmnemjhkmllniaaGreatDoor

def rrang (s : Bs) : Option (Nat × Nat × Nat) := match splitV 45 s with
  | [p, q] => rangM (rparse p) (rparse q)
  | _ => none
theorem parseV_nil : parseV [] = none := by decide +kernel
theorem rangM_right (a : Option (Nat × Nat)) : rangM a none = none := by cases a <;> rfl
theorem rrang_is (s : Bs) : rrang s = rangV s := by
  unfold rrang rangV
  rw [splitV_cut 45 s]
  rcases cut1_cases 45 s with ⟨e, hf, hp⟩ | ⟨e, hp⟩
  · rw [if_pos hf, splitV_cut 45 (Lib.cut s [45]).2.1]
    generalize Lib.cut s [45] = c at *
    rcases cut1_cases 45 c.2.1 with ⟨e2, hf2, _⟩ | ⟨e2, _⟩
    · rw [if_pos hf2]
      have hn : parseV c.2.1 = none := by
        cases h : parseV c.2.1 with
        | none => rfl
        | some x => exact absurd rfl (parseV_plainD h 45 (by rw [e2]; simp))
      rw [hn, rangM_right]
      have hne := splitV_ne 45 (Lib.cut c.2.1 [45]).2.1
      cases hs : splitV 45 (Lib.cut c.2.1 [45]).2.1 with
      | nil => exact absurd hs hne
      | cons a r => rfl
    · rw [e2]
      simp only [Bool.false_eq_true, if_false]
      rw [rparse_is, rparse_is]
  · rw [e]
    simp only [Bool.false_eq_true, if_false]
    rw [parseV_nil, rangM_right]
theorem rrang_no {s : Bs} (h : (splitV 45 s).length ≠ 2) : rrang s = none := by
  unfold rrang
  split
  · rename_i p q e; rw [e] at h; exact absurd rfl h
  · rfl
theorem rrang_two {s p q : Bs} (h : splitV 45 s = [p, q]) : rrang s = rangM (rparse p) (rparse q) := by
  unfold rrang; rw [h]
end Go.Proofs.YtmnemjhkmllniaaGreatDoor

/- The checker's own reading of a range. -/
namespace Go.Proofs.YtmnemjhkmllniaaGreatDoor
open Go.ChangeShapes Go.WideShapes Go.RowKit Go.Sort

set_option maxHeartbeats 4000000 in
set_option maxRecDepth 100000 in
theorem refRange_x (l : Bs) (w : World) (hl : l.length ≤ 100000) :
    Calls Tryz.prog 10 #[.string (baS l)] w fun e w' => e = .returned (rangR (rangV l)) ∧ Below w.heap.size w w' := by
  rw [← rrang_is]
  obtain ⟨W, hW⟩ : ∃ W, W = w.alloc (.cells #[.int .i64 0, .int .u64 0, .int .u64 0, .int .i64 0, .int .u64 0, .int .u64 0] 30) := ⟨_, rfl⟩
  have R0 : Rl W w.heap.size 0 0 0 0 0 0 := hW ▸ rl_new w _ _ _ _ _ _
  have rf : ∀ o, W.frozen? ⟨w.heap.size, o, none⟩ = false := fun o => by rw [hW]; simp [go_sem]
  have BW : Below w.heap.size w W := hW ▸ (Below.refl _ _).alloc (Nat.le_refl _) _
  have HSp := Lib.hid (fun w => splitE_x 45 l w hl)
  have HPl : Hid (∀ p ∈ splitV 45 l, p.length ≤ 100000) := fun p hp => by have := splitV_len hp; omega
  obtain ⟨Q, hQ⟩ : ∃ Q, rangR (rrang l) = Q := ⟨_, rfl⟩
  rw [hQ]
  by_cases h2 : (splitV 45 l).length = 2
  · obtain ⟨A, B, hAB⟩ : ∃ A B, splitV 45 l = [A, B] := by
      match splitV 45 l, h2 with
      | [A, B], _ => exact ⟨A, B, rfl⟩
    rw [rrang_two hAB] at hQ
    have HPA : Hid (∀ w, Calls Tryz.prog 35 #[.string (baS A)] w fun e w' => e = .returned (.tuple #[.agg #[.int .i64 (pV (rparse A)), .int .u64 (hiQ (pX (rparse A))), .int .u64 (loQ (pX (rparse A)))], .bool (rparse A).isSome]) ∧ Below w.heap.size w w') := fun w => by
      rw [← parseR_parts]; exact refParse_x A w (HPl.out A (by rw [hAB]; simp))
    have HPB : Hid (∀ w, Calls Tryz.prog 35 #[.string (baS B)] w fun e w' => e = .returned (.tuple #[.agg #[.int .i64 (pV (rparse B)), .int .u64 (hiQ (pX (rparse B))), .int .u64 (loQ (pX (rparse B)))], .bool (rparse B).isSome]) ∧ Below w.heap.size w w') := fun w => by
      rw [← parseR_parts]; exact refParse_x B w (HPl.out B (by rw [hAB]; simp))
    have HB : Hid (pX (rparse A) < 340282366920938463463374607431768211456 ∧ pX (rparse B) < 340282366920938463463374607431768211456) := ⟨pX_lt A, pX_lt B⟩
    rw [hAB] at HSp
    have HQ := Lib.hid hQ
    generalize rparse A = a at *
    generalize rparse B = b at *
    clear h2 hAB hQ HPl hl
    go_enter Tryz.func10, Tryz.ntmps10
    go_wp2_with fail
    rw [← hW]
    clear hW
    refine (HSp.out _).mono ?_
    rintro e w1 ⟨hb1, g, c, rfl, hg0, hgl, hgc, hrow⟩
    have s0 := hrow 0 A rfl
    have s1 := hrow 1 B rfl
    simp only [List.length_cons, List.length_nil, Nat.zero_add, Nat.reduceAdd] at hgc ⊢
    clear hrow HSp hg0
    go_wp2_with fail
    refine (HPA.out _).mono ?_
    rintro e w2 ⟨rfl, hb2⟩
    have B2 := below_next hb1 hb2
    replace s1 := (olds hb2 g 1 hgl).trans s1
    have lg2 := (keep hb2 g hgl).2
    replace s1 : (w2.alloc (.cells #[.int .i64 (pV a), .int .u64 (hiQ (pX a)), .int .u64 (loQ (pX a))] 28)).cell? ⟨g, 1, none⟩ = some (.string (baS B)) := (olds ((Below.refl w2.heap.size w2).alloc (Nat.le_refl _) _) g 1 lg2).trans s1
    clear s0
    go_wp2_with fail
    refine (HPB.out _).mono ?_
    rintro e w3 ⟨rfl, hb3⟩
    have C3 := (cl_new w2 (pV a) (hiQ (pX a)) (loQ (pX a))).below hb3
    have B3 := below_next (ball B2) hb3
    obtain ⟨c0, c1, c2, cl⟩ := C3
    clear s1 hb1 hb2 hb3 B2 HPA HPB
    obtain ⟨k2, f2, j2⟩ := keepf B3 w.heap.size R0.lt
    have R3 : Rl w3 w.heap.size 0 0 0 0 0 0 := R0.below B3
    have sf : ∀ o, w3.frozen? ⟨w.heap.size, o, none⟩ = false := fun o => (f2 o).trans (rf o)
    have BB := below_next BW B3
    clear k2 f2 B3 BW R0 rf
    cases a with
    | none =>
      have HF : Hid (Q = .tuple #[.agg #[.int .i64 0, .int .u64 0, .int .u64 0, .int .i64 0, .int .u64 0, .int .u64 0], .bool false]) := HQ.out.symm
      obtain ⟨s0, s1, s2, s3, s4, s5, sl⟩ := R3
      simp only [Option.isSome_none]
      generalize pV none = v1 at *
      generalize pX none = x1 at *
      generalize pV b = v2 at *
      generalize pX b = x2 at *
      generalize b.isSome = b2 at *
      clear HQ
      go_wp2
      exact bodyPost_ret (v := .tuple #[.agg #[.int .i64 0, .int .u64 0, .int .u64 0, .int .i64 0, .int .u64 0, .int .u64 0], .bool false]) (by simp [results, Tryz.results10, go_sem, *]) rfl ⟨by rw [HF.out], by first | exact ball (ball (pset6 BB (Nat.le_refl _))) | exact pset6 (ball (ball BB)) (Nat.le_refl _)⟩
    | some p =>
      cases b with
      | none =>
        have HF : Hid (Q = .tuple #[.agg #[.int .i64 0, .int .u64 0, .int .u64 0, .int .i64 0, .int .u64 0, .int .u64 0], .bool false]) := HQ.out.symm
        obtain ⟨s0, s1, s2, s3, s4, s5, sl⟩ := R3
        simp only [Option.isSome_none, Option.isSome_some]
        generalize pV none = v2 at *
        generalize pX none = x2 at *
        generalize pV (some p) = v1 at *
        generalize pX (some p) = x1 at *
        clear HQ
        go_wp2
        exact bodyPost_ret (v := .tuple #[.agg #[.int .i64 0, .int .u64 0, .int .u64 0, .int .i64 0, .int .u64 0, .int .u64 0], .bool false]) (by simp [results, Tryz.results10, go_sem, *]) rfl ⟨by rw [HF.out], by first | exact ball (ball (pset6 BB (Nat.le_refl _))) | exact pset6 (ball (ball BB)) (Nat.le_refl _)⟩
      | some q =>
        obtain ⟨v, x⟩ := p
        obtain ⟨u, y⟩ := q
        simp only [Option.isSome_some]
        simp only [pV, pX] at c0 c1 c2 HB ⊢
        have R4 := (R3.alloc (.cells #[.int .i64 u, .int .u64 (hiQ y), .int .u64 (loQ y)] 28)).alloc (.cells #[.int .i64 v, .int .u64 (hiQ x), .int .u64 (loQ x), .int .i64 u, .int .u64 (hiQ y), .int .u64 (loQ y)] 30)
        have N4 := rl_new (w3.alloc (.cells #[.int .i64 u, .int .u64 (hiQ y), .int .u64 (loQ y)] 28)) v (hiQ x) (loQ x) u (hiQ y) (loQ y)
        have sf4 : ∀ o, ((w3.alloc (.cells #[.int .i64 u, .int .u64 (hiQ y), .int .u64 (loQ y)] 28)).alloc (.cells #[.int .i64 v, .int .u64 (hiQ x), .int .u64 (loQ x), .int .i64 u, .int .u64 (hiQ y), .int .u64 (loQ y)] 30)).frozen? ⟨w.heap.size, o, none⟩ = false := fun o => ((keepf (below2 w3 _ _) w.heap.size R3.lt).2.1 o).trans (sf o)
        have BB4 := ball (o := .cells #[.int .i64 v, .int .u64 (hiQ x), .int .u64 (loQ x), .int .i64 u, .int .u64 (hiQ y), .int .u64 (loQ y)] 30) (ball (o := .cells #[.int .i64 u, .int .u64 (hiQ y), .int .u64 (loQ y)] 28) BB)
        cases hk : okR v x u y
        · have HK := Lib.hid hk
          have HF : Hid (Q = .tuple #[.agg #[.int .i64 0, .int .u64 0, .int .u64 0, .int .i64 0, .int .u64 0, .int .u64 0], .bool false]) := by show _ = _; rw [← HQ.out]; simp [rangM, hk, rangR]
          clear hk HQ
          go_wp2_with fail
          refine (refOkR_is v x u y _ HB.out.1 HB.out.2 _ HK.out).mono ?_
          rintro e w5 ⟨rfl, hb5⟩
          obtain ⟨s0, s1, s2, s3, s4, s5, sl⟩ := R4.below hb5
          have sf5 : ∀ o, w5.frozen? ⟨w.heap.size, o, none⟩ = false := fun o => ((keepf hb5 w.heap.size R4.lt).2.1 o).trans (sf4 o)
          have B5 := below_next BB4 hb5
          clear R3 R4 N4 sf sf4 BB BB4 c0 c1 c2
          go_wp2
          exact bodyPost_ret (v := .tuple #[.agg #[.int .i64 0, .int .u64 0, .int .u64 0, .int .i64 0, .int .u64 0, .int .u64 0], .bool false]) (by simp [results, Tryz.results10, go_sem, *]) rfl ⟨by rw [HF.out], pset6 B5 (Nat.le_refl _)⟩
        · have HK := Lib.hid hk
          have huv : Hid ((v : Int) = u) := (okR_is hk).2.2.1
          have HF : Hid (Q = .tuple #[rgV v x v y, .bool true]) := by show _ = _; rw [← HQ.out]; simp [rangM, hk, rangR]
          clear hk HQ
          go_wp2_with fail
          refine (refOkR_is v x u y _ HB.out.1 HB.out.2 _ HK.out).mono ?_
          rintro e w5 ⟨rfl, hb5⟩
          obtain ⟨s0, s1, s2, s3, s4, s5, sl⟩ := R4.below hb5
          have N5 := N4.below hb5
          have sf5 : ∀ o, w5.frozen? ⟨w.heap.size, o, none⟩ = false := fun o => ((keepf hb5 w.heap.size R4.lt).2.1 o).trans (sf4 o)
          have B5 := below_next BB4 hb5
          rw [World.size_alloc] at N5
          obtain ⟨n0, n1, n2, n3, n4, n5, nl⟩ := N5
          clear R3 R4 N4 sf sf4 BB BB4 c0 c1 c2
          go_wp2
          exact bodyPost_ret (v := .tuple #[.agg #[.int .i64 v, .int .u64 (hiQ x), .int .u64 (loQ x), .int .i64 u, .int .u64 (hiQ y), .int .u64 (loQ y)], .bool true]) (by simp [results, Tryz.results10, go_sem, *]) rfl ⟨by rw [HF.out, ← huv.out], pset6 B5 (Nat.le_refl _)⟩
  · rw [rrang_no h2] at hQ
    have HF : Hid (Q = .tuple #[.agg #[.int .i64 0, .int .u64 0, .int .u64 0, .int .i64 0, .int .u64 0, .int .u64 0], .bool false]) := hQ.symm
    have h2' : (((splitV 45 l).length : Int) != 2) = true := by rw [bne_iff_ne]; omega
    clear hQ h2 HPl hl
    go_enter Tryz.func10, Tryz.ntmps10
    go_wp2_with fail
    rw [← hW]
    clear hW
    refine (HSp.out _).mono ?_
    rintro e w1 ⟨hb1, g, c, rfl, _⟩
    obtain ⟨s0, s1, s2, s3, s4, s5, sl⟩ := R0.below hb1
    have sf : ∀ o, w1.frozen? ⟨w.heap.size, o, none⟩ = false := fun o => ((keepf hb1 _ R0.lt).2.1 o).trans (rf o)
    have B1 := below_next BW hb1
    clear HSp R0 rf BW hb1
    go_wp2
    exact bodyPost_ret (v := .tuple #[.agg #[.int .i64 0, .int .u64 0, .int .u64 0, .int .i64 0, .int .u64 0, .int .u64 0], .bool false]) (by simp [results, Tryz.results10, go_sem, *]) rfl ⟨by rw [HF.out], pset6 B1 (Nat.le_refl _)⟩
end Go.Proofs.YtmnemjhkmllniaaGreatDoor
