/- RangCover: whatever the numbers, the law answers true. -/
import Derived.Test.YtkmbfnjmgimlhaaGreatDoorzGk
import Derived.Test.YtkmbfnjmgimlhaaGreatDoorzAw4
import Derived.Test.YtkmbfnjmgimlhaaGreatDoorzRw
namespace Go.Proofs.YtkmbfnjmgimlhaaGreatDoor
open Go.ChangeShapes Go.WideShapes Go.RowKit Go.Sort

theorem refLast_is (u : Int) (a k : Nat) (w : World) (ha : a < 340282366920938463463374607431768211456) (hk : k ≤ bitsV u) (ho : okV u a = true) (hd : 2 ^ k ∣ a) (z : Nat) (hz : a + (2 ^ k - 1) = z) :
    Calls Tryz.prog 25 #[.agg #[.int .i64 u, .int .u64 (hiQ a), .int .u64 (loQ a), .int .i64 ((bitsV u : Int) - k)]] w fun e w' => e = .returned (.agg #[.int .i64 u, .int .u64 (hiQ z), .int .u64 (loQ z)]) ∧ Below w.heap.size w w' := by
  have h := okP_k ho hk hd
  have := refLast_x u a ((bitsV u : Int) - k) w ha
  rw [show firstV u a ((bitsV u : Int) - k) = u from if_pos h.1, h.2, hz] at this
  exact this
/-- What is known of the pieces of a range. -/
structure Cov (u : Int) (x y : Nat) (l : List (Nat × Nat)) : Prop where
  bit : bitsV u ≤ 128
  each : ∀ p ∈ l, p.1 < 340282366920938463463374607431768211456 ∧ p.2 ≤ bitsV u ∧ okV u p.1 = true ∧ 2 ^ p.2 ∣ p.1 ∧ x ≤ p.1 ∧ p.1 + 2 ^ p.2 ≤ y + 1
  head : ∃ k r, l = (x, k) :: r
  last : ∃ r a k, l = r ++ [(a, k)] ∧ a + 2 ^ k = y + 1
  side : ∀ (i : Nat) (p q : Nat × Nat), l[i]? = some p → l[i + 1]? = some q → q.1 = p.1 + 2 ^ p.2 ∧ (q.2 = p.2 → ¬ 2 ^ (p.2 + 1) ∣ p.1)
theorem cov_of {u : Int} {x y : Nat} (h : okR u x u y = true) (hy : y < 340282366920938463463374607431768211456) : Cov u x y (coverR u x u y) := by
  obtain ⟨h1, h2, _, h4⟩ := okR_is h
  have hl := okV_lt h2 hy
  rw [coverR_yes h]
  refine ⟨bitsV_le u, fun p hp => ?_, ?_, cover_last h4, fun i p q => beside_at _ i p q (cover_beside hy x)⟩
  · obtain ⟨e1, e2, e3, e4⟩ := cover_in x p hp
    have hp2 := two_pos p.2
    have hb : 2 ^ bitsV u ≤ 340282366920938463463374607431768211456 := pow_bits_le u
    refine ⟨by omega, ?_, okV_of (okV_v h1) (by omega), e3, e1, e2⟩
    by_cases e : p.2 ≤ bitsV u
    · exact e
    · have := pow_le (show bitsV u + 1 ≤ p.2 by omega); have := two_pos (bitsV u); rw [Nat.pow_succ] at *; omega
  · rw [coverX_yes h4]; exact ⟨_, _, rfl⟩
theorem okP_one {u : Int} {a k : Nat} (hn : ¬ 2 ^ (k + 1) ∣ a) : okP u a ((bitsV u : Int) - k - 1) = false := by
  cases h : okP u a ((bitsV u : Int) - k - 1) with
  | false => rfl
  | true =>
    exfalso
    obtain ⟨_, h0, h1, h2⟩ := okP_is h
    have e : hostK u ((bitsV u : Int) - k - 1) = k + 1 := by unfold hostK; omega
    rw [e] at h2
    exact hn (cutK_dvd.1 h2)
theorem ixP (g n c j : Nat) (hj : j < n) (V : World) : (Instr.indexAt 40 (.slice (some ⟨g, 0, none⟩) n c) (.int .i64 (j : Int))).run Tryz.prog V = .ok (.pointer (some ⟨g, j * 4, none⟩)) V := by
  rw [run_indexAt_slice V 40 ⟨g, 0, none⟩ n c .i64 j (by kernel_rfl), if_pos ⟨by omega, by omega⟩]
  have e : (sizeOf (Tryz.prog.elem 40)).run Tryz.prog V = .ok 4 V := by kernel_rfl
  rw [e]
  simp [Lib.add_plain]
set_option maxHeartbeats 16000000 in
set_option maxRecDepth 100000 in
theorem cover_walk (v a b n : Int) (w : World) (hg : Gl w) (ha : 0 ≤ a ∧ a < 18446744073709551616) (hb : 0 ≤ b ∧ b < 18446744073709551616) (hn : 0 ≤ n ∧ n < 18446744073709551616) :
    Calls Tryz.prog 8 #[.int .i64 v, .int .u64 a, .int .u64 b, .int .u64 n] w fun e w' => e = .returned (.bool true) ∧ Below w.heap.size w w' := by
  have HG := Lib.hid hg
  have HR := Lib.hid (fun w => rang_x v a b n w ha hb hn)
  clear hg ha hb hn
  go_enter Tryz.func8, Tryz.ntmps8
  go_wp2_with fail
  refine (HR.out _).mono ?_
  rintro e w1 ⟨⟨u, x, y, rfl, ho, hx, hy, hxy⟩, hb1⟩
  have HC := Lib.hid (fun w hg => cover_x u x u y w hg hx hy)
  have hcov := cov_of ho hy
  have hcnt : (coverR u x u y).length ≤ 130 := by rw [coverR_yes ho]; exact cover_narrow hy hxy
  have HO := Lib.hid (And.intro ho (And.intro hx hy))
  have G1 := HG.out.below hb1
  clear ho hx hy hxy HG HR
  generalize coverR u x u y = l at *
  go_wp2_with fail
  refine (HC.out _ (G1.alloc _).tz).mono ?_
  rintro e w2 ⟨hb2, pc, c, rfl, hcc, hrow⟩
  obtain ⟨k0, r0, hl0⟩ := hcov.head
  obtain ⟨gc, rfl, hgc0, hgcl, hR⟩ := hrow.resolve_left (fun h => by rw [h.1] at hl0; cases hl0)
  obtain ⟨rl, al, kl, hl1, hy1⟩ := hcov.last
  obtain ⟨L, hL⟩ : ∃ L, l.length = L + 1 := ⟨l.length - 1, by rw [hl0]; simp⟩
  have hg0 : l[0]? = some (x, k0) := by rw [hl0]; rfl
  have hgL : l[L]? = some (al, kl) := by
    have : rl.length = L := by rw [hl1] at hL; simp at hL; exact hL
    rw [hl1, ← this]; simp
  obtain ⟨p0, p1, p2, _⟩ := hR 0 x k0 hg0
  obtain ⟨q0, q1, q2, q3⟩ := hR L al kl hgL
  have HLast : Hid (∀ w, Calls Tryz.prog 25 #[.agg #[.int .i64 u, .int .u64 (hiQ al), .int .u64 (loQ al), .int .i64 ((bitsV u : Int) - kl)]] w fun e w' => e = .returned (.agg #[.int .i64 u, .int .u64 (hiQ y), .int .u64 (loQ y)]) ∧ Below w.heap.size w w') := fun w => by
    obtain ⟨e1, e2, e3, e4, _⟩ := hcov.each (al, kl) (List.mem_of_getElem? hgL)
    exact refLast_is u al kl w e1 e2 e3 e4 y (by have := two_pos kl; omega)
  have HCov := Lib.hid hcov
  have HRow := Lib.hid hR
  have G2 := Lib.hid ((G1.alloc (.cells #[.int .i64 u, .int .u64 (hiQ x), .int .u64 (loQ x), .int .i64 u, .int .u64 (hiQ y), .int .u64 (loQ y)] 52)).below hb2)
  have B2 := below_next (ball hb1) hb2
  have R2 := (rl_new w1 u (hiQ x) (loQ x) u (hiQ y) (loQ y)).below hb2
  have HLen := Lib.hid hL
  rw [hL] at hcnt hcc ⊢
  have hL1 : (L : Int) < c := by omega
  have hcL : (L : Int) + 1 ≤ c := by omega
  have hL130 : (L : Int) < 130 := by omega
  generalize (bitsV u : Int) - kl = nl at *
  clear hb1 hb2 G1 HC hcov hR hrow hl0 hl1 hg0 hgL hL hy1 hgc0
  obtain ⟨r0', r1, r2, r3, r4, r5, rlt⟩ := id R2
  simp only [Nat.zero_mul, Nat.zero_add] at p0 p1 p2
  have e0 := cell_regrown p0; have e1 := cell_regrown p1; have e2 := cell_regrown p2
  have f0 := cell_regrown q0; have f1 := cell_regrown q1; have f2 := cell_regrown q2; have f3 := cell_regrown q3
  have a0 := cell_regrown r0'; have a1 := cell_regrown r1; have a2 := cell_regrown r2; have a3 := cell_regrown r3; have a4 := cell_regrown r4; have a5 := cell_regrown r5
  have hd0 : (((L : Int) + 1) == 0) = false := by rw [beq_eq_false_iff_ne]; omega
  have hd1 : decide ((L : Int) + 1 > 254) = false := decide_eq_false (by omega)
  have hd2 : decide (254 < (L : Int) + 1) = false := decide_eq_false (by omega)
  have hwr : IntKind.i64.wrap ((L : Int) + 1 - 1) = (L : Int) := by rw [IntKind.wrap_i64]; omega
  have hi0 : (0 : Int) < (L : Int) + 1 := by omega
  have hi1 : (L : Int) < (L : Int) + 1 := by omega
  have hi2 : (0 : Int) ≤ (L : Int) := by omega
  go_wp2_with fail
  refine wp_region_quiet_below (by kernel_rfl) (by kernel_rfl) ?_
  repeat (go_big_quiet_step (first
    | (go_at_call 25; exact Calls.regrown_of (HLast.out _))))
  refine wpQuiet_nil ?_
  intro _ hw'
  obtain ⟨⟨dq, osq⟩, hw''⟩ := hw'
  subst hw''
  have KV := below_regrown w2 dq osq
  have BV := below_next B2 KV
  have HRV := Lib.hid (HRow.out.below KV hgcl)
  have lcV := (keep KV gc hgcl).2
  have GV := Lib.hid (G2.out.below KV)
  have RV := R2.below KV
  dsimp only at *
  generalize grow (redrawn w2 dq) osq = V at *
  clear KV B2 HRow hgcl G2 R2 p0 p1 p2 q0 q1 q2 q3 e0 e1 e2 f0 f1 f2 f3 a0 a1 a2 a3 a4 a5 r0' r1 r2 r3 r4 r5 rlt hd0 hd1 hd2 hwr hi0 hi1 hi2 HLast
  go_wp2_with fail
  go_loopw [55] (fun iv wr => ∃ i : Nat, iv = .int .i64 i ∧ i ≤ L + 1 ∧ Below V.heap.size V wr)
    (fun iv _ => L + 1 - (intOf iv).toNat)
  case atStart => exact ⟨0, rfl, by omega, Below.refl _ _⟩
  case round =>
    obtain ⟨i, rfl, hi, hb⟩ := hrel
    by_cases hiL : i < L + 1
    · have hi1 : (i : Int) < (L : Int) + 1 := by omega
      have hi2 : (i : Int) < c := by omega
      have hi0 : (0 : Int) ≤ i := by omega
      have hic : i < l.length := by rw [HLen.out]; exact hiL
      obtain ⟨⟨a1, k1⟩, hget⟩ : ∃ p, l[i]? = some p := ⟨_, List.getElem?_eq_getElem hic⟩
      obtain ⟨x1, x2, x3, x4, _⟩ := HCov.out.each _ (List.mem_of_getElem? hget)
      have HOk : Hid (∀ w, Calls Tryz.prog 16 #[.agg #[.int .i64 u, .int .u64 (hiQ a1), .int .u64 (loQ a1), .int .i64 ((bitsV u : Int) - k1)]] w fun e w' => e = .returned (.bool true) ∧ Below w.heap.size w w') := fun w => refOkP_is u a1 _ w x1 true (okP_k x3 x2 x4).1
      obtain ⟨p0, p1, p2, p3⟩ := HRV.out i a1 k1 hget
      obtain ⟨kc, lc⟩ := keep hb gc lcV
      have e0 := (kc _).trans p0; have e1 := (kc _).trans p1; have e2 := (kc _).trans p2; have e3 := (kc _).trans p3
      clear p0 p1 p2 p3 kc hic
      cases i with
      | zero =>
        generalize (bitsV u : Int) - k1 = n1 at *
        simp only [Nat.zero_mul, Nat.zero_add] at e0 e1 e2 e3
        clear hget x1 x2 x3 x4
        go_wp2_with fail
        refine (HOk.out _).mono ?_
        rintro e w3 ⟨rfl, hb3⟩
        have B3 := below_next hb hb3
        clear e0 e1 e2 e3 HOk
        go_wp2
        go_roundw
        case rel => exact ⟨1, by go_num, by omega, B3⟩
        case measure => simp [intOf]
      | succ j =>
        obtain ⟨⟨a2, k2⟩, hget2⟩ : ∃ p, l[j]? = some p := ⟨_, List.getElem?_eq_getElem (by rw [HLen.out]; omega)⟩
        obtain ⟨y1, y2, y3, y4, _, y5⟩ := HCov.out.each _ (List.mem_of_getElem? hget2)
        obtain ⟨hs1, hs2⟩ := HCov.out.side j _ _ hget2 hget
        simp only at hs1 hs2 y1 y2 y3 y4 y5
        obtain ⟨z, hz⟩ : ∃ z, a2 + (2 ^ k2 - 1) = z := ⟨_, rfl⟩
        have HLst := Lib.hid (fun w => refLast_is u a2 k2 w y1 y2 y3 y4 z hz)
        have hz1 : z + 1 = a1 := by have := two_pos k2; omega
        have hzl : z < 340282366920938463463374607431768211456 := by omega
        have hzo : okV u z = true := okV_of (okV_v x3) (by have := okV_lt x3 x1; omega)
        have hnb : nextB u z = true := by unfold nextB; rw [hzo, hz1, x3]; simp [addB]; omega
        have HNx : Hid (∀ w, Calls Tryz.prog 54 #[.agg #[.int .i64 u, .int .u64 (hiQ z), .int .u64 (loQ z)]] w fun e w' => e = .returned (.tuple #[.agg #[.int .i64 u, .int .u64 (hiQ a1), .int .u64 (loQ a1)], .bool true]) ∧ Below w.heap.size w w') := fun w => by
          have := refNext_x u z w hzl hzo
          rw [show nextV u z = u from if_pos hnb, show nextX u z = a1 by unfold nextX; rw [if_pos hnb, hz1], hnb] at this
          exact this
        have HOne : Hid (k1 = k2 → ∀ w, Calls Tryz.prog 16 #[.agg #[.int .i64 u, .int .u64 (hiQ a2), .int .u64 (loQ a2), .int .i64 ((bitsV u : Int) - k1 - 1)]] w fun e w' => e = .returned (.bool false) ∧ Below w.heap.size w w') := fun hk w =>
          refOkP_is u a2 _ w y1 false (okP_one (by rw [hk]; exact hs2 hk))
        obtain ⟨p0, p1, p2, p3⟩ := HRV.out j a2 k2 hget2
        obtain ⟨kc, _⟩ := keep hb gc lcV
        have d0 := (kc _).trans p0; have d1 := (kc _).trans p1; have d2 := (kc _).trans p2; have d3 := (kc _).trans p3
        have hbit := HCov.out.bit
        have hwj : IntKind.i64.wrap (((j + 1 : Nat) : Int) - 1) = (j : Int) := by rw [IntKind.wrap_i64]; omega
        have hwj' : IntKind.i64.wrap ((j : Int) + 1 - 1) = (j : Int) := by rw [IntKind.wrap_i64]; omega
        have hj0 : (0 : Int) ≤ j := by omega
        have hj1 : (j : Int) < (L : Int) + 1 := by omega
        have hj2 : (j : Int) < c := by omega
        have hne0 : (((j + 1 : Nat) : Int) == 0) = false := by rw [beq_eq_false_iff_ne]; omega
        have hne0' : ((j : Int) + 1 == 0) = false := by rw [beq_eq_false_iff_ne]; omega
        have hwn : IntKind.i64.wrap ((bitsV u : Int) - k1 - 1) = (bitsV u : Int) - k1 - 1 := by rw [IntKind.wrap_i64]; omega
        have hkk : k1 = k2 ∨ ((bitsV u : Int) - k1 == (bitsV u : Int) - k2) = false := by
          by_cases h : k1 = k2
          · exact Or.inl h
          · right; rw [beq_eq_false_iff_ne]; omega
        clear p0 p1 p2 p3 kc hget hget2 hs1 hs2 x1 x2 x3 x4 y1 y2 y3 y4 y5 hz hz1 hzl hzo hnb hbit
        have HKK : Hid (k1 = k2 → (bitsV u : Int) - k2 = (bitsV u : Int) - k1) := fun h => by rw [h]
        generalize (bitsV u : Int) - k1 = n1 at *
        generalize (bitsV u : Int) - k2 = n2 at *
        go_wp2_with fail
        refine (HOk.out _).mono ?_
        rintro e w3 ⟨rfl, hb3⟩
        have B3 := below_next hb hb3
        obtain ⟨kc, lc3⟩ := keep hb3 gc lc
        replace e0 := (kc _).trans e0; replace e1 := (kc _).trans e1; replace e2 := (kc _).trans e2; replace e3 := (kc _).trans e3
        replace d0 := (kc _).trans d0; replace d1 := (kc _).trans d1; replace d2 := (kc _).trans d2; replace d3 := (kc _).trans d3
        clear kc hb3 HOk lc hb
        go_wp2_with fail
        refine (HLst.out _).mono ?_
        rintro e w4 ⟨rfl, hb4⟩
        have B4 := below_next B3 hb4
        obtain ⟨kc, lc4⟩ := keep hb4 gc lc3
        replace e0 := (kc _).trans e0; replace e1 := (kc _).trans e1; replace e2 := (kc _).trans e2; replace e3 := (kc _).trans e3
        replace d0 := (kc _).trans d0; replace d1 := (kc _).trans d1; replace d2 := (kc _).trans d2; replace d3 := (kc _).trans d3
        clear kc hb4 HLst lc3 B3
        go_wp2_with fail
        refine (HNx.out _).mono ?_
        rintro e w5 ⟨rfl, hb5⟩
        have B5 := ball (o := .cells #[.int .i64 u, .int .u64 (hiQ a1), .int .u64 (loQ a1)] 28) (below_next B4 hb5)
        have KK := below_next hb5 ((Below.refl w5.heap.size w5).alloc (Nat.le_refl _) (.cells #[.int .i64 u, .int .u64 (hiQ a1), .int .u64 (loQ a1)] 28))
        obtain ⟨kc, lc5⟩ := keep KK gc lc4
        replace e0 := (kc _).trans e0; replace e1 := (kc _).trans e1; replace e2 := (kc _).trans e2; replace e3 := (kc _).trans e3
        replace d0 := (kc _).trans d0; replace d1 := (kc _).trans d1; replace d2 := (kc _).trans d2; replace d3 := (kc _).trans d3
        have C5 := cl_new w5 u (hiQ a1) (loQ a1)
        clear kc hb5 HNx lc4 B4 KK
        go_upto_region 12 with fail
        generalize w5.alloc (.cells #[.int .i64 u, .int .u64 (hiQ a1), .int .u64 (loQ a1)] 28) = U at *
        generalize w5.heap.size = D at *
        go_cut [14] (fun p wx => ∃ M, p = .pointer (some ⟨M, 0, none⟩) ∧ Pl wx M u (hiQ a2) (loQ a2) (n1 - 1) ∧ Below U.heap.size U wx)
        case first =>
          have hx1 := ixP gc (L + 1) c j (by omega)
          have hx2 : ∀ V, (Instr.indexAt 40 (.slice (some ⟨gc, 0, none⟩) (L + 1) c) (.int .i64 ((j : Int) + 1))).run Tryz.prog V = .ok (.pointer (some ⟨gc, (j + 1) * 4, none⟩)) V := ixP gc (L + 1) c (j + 1) (by omega)
          have hx3 : ∀ V, (Instr.indexAt 40 (.slice (some ⟨gc, 0, none⟩) (L + 1) c) (.int .i64 ((j : Int) + 1 - 1))).run Tryz.prog V = .ok (.pointer (some ⟨gc, j * 4, none⟩)) V := by rw [show (j : Int) + 1 - 1 = j by omega]; exact hx1
          have hwj2 : IntKind.i64.wrap (j : Int) = j := by rw [IntKind.wrap_i64]; omega
          go_region_held3 (fun w' => w'.cell? ⟨gc, j * 4, none⟩ = some (.int .i64 u) ∧ w'.cell? ⟨gc, j * 4 + 1, none⟩ = some (.int .u64 (hiQ a2)) ∧ w'.cell? ⟨gc, j * 4 + 2, none⟩ = some (.int .u64 (loQ a2)) ∧ w'.cell? ⟨gc, (j + 1) * 4 + 3, none⟩ = some (.int .i64 n1)) (go_keep) (fail)
          all_goals
            go_wp2_with fail
            go_meet
          all_goals exact ⟨_, rfl, (pl_new U _ _ _ _).below (by first | exact Below.refl _ _ | exact Below.drew (Below.refl _ _)), by first | exact ball (Below.refl _ _) | exact Below.drew (ball (Below.refl _ _))⟩
        case rest =>
          obtain ⟨M, rfl, PM, KU⟩ := hcut
          have BU := below_next B5 KU
          obtain ⟨kc, lcU⟩ := keep KU gc lc5
          have e0 := cell_regrown ((kc _).trans e0); have e1 := cell_regrown ((kc _).trans e1); have e2 := cell_regrown ((kc _).trans e2); have e3 := cell_regrown ((kc _).trans e3)
          have d3 := cell_regrown ((kc _).trans d3)
          have C6 := C5.below KU
          have c0 := cell_regrown C6.c0; have c1 := cell_regrown C6.c1; have c2 := cell_regrown C6.c2
          have m0 := cell_regrown PM.c0; have m1 := cell_regrown PM.c1; have m2 := cell_regrown PM.c2; have m3 := cell_regrown PM.c3
          clear kc C5 d0 d1 d2
          rcases hkk with hk | hk
          · have hn := HKK.out hk
            subst hn
            have HO1 := Lib.hid (HOne.out hk)
            clear HKK HOne hk
            go_wp2_with fail
            refine wp_region_quiet_below (by kernel_rfl) (by kernel_rfl) ?_
            repeat (go_big_quiet_step (first
              | (go_at_call 16; exact Calls.regrown_of (HO1.out _))))
            refine wpQuiet_nil ?_
            intro _ hw'
            obtain ⟨⟨dq, osq⟩, hw''⟩ := hw'
            subst hw''
            have BR := below_next BU (below_regrown wc dq osq)
            dsimp only at *
            generalize grow (redrawn wc dq) osq = X at *
            clear e0 e1 e2 e3 d3 c0 c1 c2 m0 m1 m2 m3
            go_wp2
            go_roundw
            case rel => exact ⟨j + 1 + 1, by go_num, by omega, BR⟩
            case measure => simp [intOf]; omega
          · clear HKK HOne
            go_wp2_with fail
            refine wp_region_quiet_below (by kernel_rfl) (by kernel_rfl) ?_
            repeat (go_big_quiet_step (fail))
            refine wpQuiet_nil ?_
            intro _ hw'
            obtain ⟨⟨dq, osq⟩, hw''⟩ := hw'
            subst hw''
            have BR := below_next BU (below_regrown wc dq osq)
            dsimp only at *
            generalize grow (redrawn wc dq) osq = X at *
            clear e0 e1 e2 e3 d3 c0 c1 c2 m0 m1 m2 m3 hk
            go_wp2
            go_roundw
            case rel => exact ⟨j + 1 + 1, by go_num, by omega, BR⟩
            case measure => simp [intOf]; omega
    · obtain rfl : i = L + 1 := by omega
      have hil : ¬ ((L : Int) + 1 < (L : Int) + 1) := by omega
      have GX := GV.out.below hb
      have RX := RV.below hb
      have BX := below_next BV hb
      have hback := rang_tell u x y HO.out.1 HO.out.2.1 HO.out.2.2
      have hlen := tellR_len u x u y
      have HPr := Lib.hid (fun w hg => printG_x u x u y w hg HO.out.2.1 HO.out.2.2)
      have hun : ((u.toNat : Nat) : Int) = u := by rcases okV_v (okR_is HO.out.1).1 with rfl | rfl <;> rfl
      have HPa : Hid (∀ w, Gl w → Calls Tryz.prog 32 #[.string (baS (tellR u x u y))] w fun e w' => e = .returned (.tuple #[rgV u x u y, .bool true]) ∧ Below w.heap.size w w') := fun w hg => by
        have := parseG_some (baS (tellR u x u y)) u.toNat x y w hg (show (tellR u x u y).length < 4294967281 by omega) hback
        rw [hun] at this; exact this
      generalize tellR u x u y = T at *
      obtain ⟨r0, r1, r2, r3, r4, r5, rlt⟩ := id RX
      clear hback hlen hun BV RV hb
      go_wp2_with fail
      refine (HPr.out _ GX).mono ?_
      rintro e w3 ⟨rfl, hb3⟩
      have G3 := GX.below hb3
      have R3 := RX.below hb3
      have B3 := below_next BX hb3
      clear r0 r1 r2 r3 r4 r5 rlt hb3 GX RX BX
      go_wp2_with fail
      refine (HPa.out _ G3).mono ?_
      rintro e w4 ⟨rfl, hb4⟩
      have G4 := Lib.hid (G3.below hb4)
      have R4 := R3.below hb4
      have B4 := below_next B3 hb4
      obtain ⟨r0, r1, r2, r3, r4, r5, rlt⟩ := R4
      clear hb4 G3 R3 B3 HPr HPa
      go_wp2_with fail
      refine (awake4_x _ (G4.out.alloc _)).mono ?_
      rintro e w5 ⟨rfl, hb5⟩
      have B5 := below_next (ball B4) hb5
      go_wp2
      go_ret
      exact ⟨rfl, B5⟩
end Go.Proofs.YtkmbfnjmgimlhaaGreatDoor
