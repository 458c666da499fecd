/- What RangOver asks, as mathematics; its inner function. -/
import Derived.Test.YtkmbfnjmgimlhaaGreatDoorzLCover
namespace Go.Proofs.YtkmbfnjmgimlhaaGreatDoor
open Go.ChangeShapes Go.WideShapes Go.RowKit Go.Sort

theorem xor_u64 (a b : Int) : 0 ≤ bits .xor .u64 a b ∧ bits .xor .u64 a b < 18446744073709551616 := by
  have : ∃ z : Int, bits .xor .u64 a b = IntKind.u64.wrap z := ⟨((BitVec.ofInt 64 a ^^^ BitVec.ofInt 64 b).toNat : Nat), rfl⟩
  obtain ⟨z, hz⟩ := this
  rw [hz, IntKind.wrap_u64]
  omega
/-- Has a range an address, by its ends. -/
def hasE (u : Int) (x y : Nat) (a : Int) (z : Nat) : Bool := decide (u = a) && (!ltB z x && !ltB y z)
set_option maxHeartbeats 1000000 in
theorem hasE_x (u : Int) (x y : Nat) (a : Int) (z : Nat) (w : World) :
    Calls Tryz.prog 37 #[rgV u x u y, .agg #[.int .i64 a, .int .u64 (hiQ z), .int .u64 (loQ z)]] w fun e w' => e = .returned (.bool (hasE u x y a z)) ∧ Below w.heap.size w w' := by
  obtain ⟨W, hW⟩ : ∃ W, W = (w.alloc (.cells #[.int .i64 u, .int .u64 (hiQ x), .int .u64 (loQ x), .int .i64 u, .int .u64 (hiQ y), .int .u64 (loQ y)] 52)).alloc (.cells #[.int .i64 a, .int .u64 (hiQ z), .int .u64 (loQ z)] 28) := ⟨_, rfl⟩
  have R0 : Rl W w.heap.size u (hiQ x) (loQ x) u (hiQ y) (loQ y) := hW ▸ (rl_new w _ _ _ _ _ _).alloc _
  have P0 : Cl W (w.heap.size + 1) a (hiQ z) (loQ z) := by
    have := cl_new (w.alloc (.cells #[.int .i64 u, .int .u64 (hiQ x), .int .u64 (loQ x), .int .i64 u, .int .u64 (hiQ y), .int .u64 (loQ y)] 52)) a (hiQ z) (loQ z)
    rw [← hW, World.size_alloc] at this; exact this
  have BW : Below w.heap.size w W := by rw [hW]; exact below2 _ _ _
  have HR : Hid (hasE u x y a z = (decide (u = a) && (!ltB z x && !ltB y z))) := rfl
  have H1 : Hid (∀ w b, ltB z x = b → Calls Tryz.prog 38 #[.agg #[.int .u64 (hiQ z), .int .u64 (loQ z)], .agg #[.int .u64 (hiQ x), .int .u64 (loQ x)]] w fun e w' => e = .returned (.bool b) ∧ Below w.heap.size w w') := fun w b h => refLess_is z x w b h
  have H2 : Hid (∀ w b, ltB y z = b → Calls Tryz.prog 38 #[.agg #[.int .u64 (hiQ y), .int .u64 (loQ y)], .agg #[.int .u64 (hiQ z), .int .u64 (loQ z)]] w fun e w' => e = .returned (.bool b) ∧ Below w.heap.size w w') := fun w b h => refLess_is y z w b h
  generalize hasE u x y a z = B at *
  obtain ⟨c0, c1, c2, c3, c4, c5, lW⟩ := R0
  obtain ⟨p0, p1, p2, lP⟩ := P0
  by_cases h0 : u = a
  · have h0' : (u == a) = true := by simp [h0]
    have HF0 : Hid (B = (!ltB z x && !ltB y z)) := by show _ = _; rw [HR.out, decide_eq_true h0]; rfl
    clear h0 HR
    go_enter Tryz.func37, Tryz.ntmps37
    go_wp2_with fail
    rw [← hW]
    clear hW
    refine (H1.out _ _ rfl).mono ?_
    rintro e w1 ⟨rfl, hb1⟩
    obtain ⟨k1, l1⟩ := keep hb1 _ lW
    obtain ⟨q1, m1⟩ := keep hb1 _ lP
    have B1 := below_next BW hb1
    cases h1 : ltB z x
    · have HF : Hid (B = !ltB y z) := by show _ = _; rw [HF0.out, h1]; rfl
      clear h1 HF0
      go_wp2_with fail
      refine (H2.out _ _ rfl).mono ?_
      rintro e w2 ⟨rfl, hb2⟩
      have B2 := below_next B1 hb2
      generalize ltB y z = c at *
      go_wp2
      go_ret
      exact ⟨by rw [HF.out]; rfl, B2⟩
    · have HF : Hid (B = false) := by show _ = _; rw [HF0.out, h1]; rfl
      clear h1 HF0
      go_wp2
      go_ret
      exact ⟨by rw [HF.out]; rfl, B1⟩
  · have h0' : (u == a) = false := by simp [h0]
    have HF : Hid (B = false) := by show _ = _; rw [HR.out, decide_eq_false h0]; rfl
    clear h0 HR
    go_enter Tryz.func37, Tryz.ntmps37
    go_wp2_with fail
    rw [← hW]
    clear hW
    go_wp2
    go_ret
    exact ⟨by rw [HF.out]; rfl, BW⟩
/-! ### mathematics -/
theorem over_is_has {u : Int} {x y : Nat} {a : Int} {s t : Nat} (h : okR u x u y = true) (h' : okR a s a t = true) : overR u x u y a s a t = (hasE u x y a s || hasE a s t u x) := by
  have e1 := (okR_is h).2.2.2
  have e2 := (okR_is h').2.2.2
  unfold overR hasE
  rw [h, h']
  simp only [Bool.true_and, ltA]
  by_cases hu : u = a
  · subst hu
    simp only [if_true, ltB, decide_true, Bool.true_and]
    rw [Bool.eq_iff_iff]
    simp
    omega
  · have hu' : ¬ a = u := fun e => hu e.symm
    simp only [if_neg hu, if_neg hu', decide_eq_false hu, decide_eq_false hu', Bool.false_and, Bool.or_false]
    rw [Bool.eq_iff_iff]
    simp
    omega
theorem over_comm (u : Int) (x y : Nat) (a : Int) (s t : Nat) : overR a s a t u x u y = overR u x u y a s a t := by
  unfold overR
  cases okR u x u y <;> cases okR a s a t <;> simp [Bool.and_comm]
theorem over_self {u : Int} {x y : Nat} (h : okR u x u y = true) : overR u x u y u x u y = true := by
  have e1 := (okR_is h).2.2.2
  unfold overR
  rw [h]
  simp [ltA, ltB]; exact e1
theorem less_self (u : Int) (x y : Nat) : lessR u x u y u x u y = false := by
  unfold lessR; simp [ltA, ltB]
theorem less_tri {u : Int} {x y : Nat} {a : Int} {s t : Nat} (h : okR u x u y = true) (h' : okR a s a t = true) (hne : ¬ (u = a ∧ x = s ∧ y = t)) : lessR u x u y a s a t = true ∨ lessR a s a t u x u y = true := by
  unfold lessR
  rw [h, h']
  simp only [Bool.true_and]
  by_cases hu : u = a
  · subst hu
    simp only [ltA, if_true, true_and, ltB]
    by_cases hx : x = s
    · subst hx
      simp at hne ⊢
      omega
    · have hx' : ¬ s = x := fun e => hx e.symm
      rw [if_neg hx, if_neg hx']
      simp
      omega
  · have hu' : ¬ a = u := fun e => hu e.symm
    simp [ltA, hu, hu']
    omega
def inAll (pv : Int) (px : Nat) (pn : Int) (u : Int) (l : List (Nat × Nat)) : Bool := l.all (fun q => hasP pv px pn u q.1 && hasP pv px pn u (q.1 + (2 ^ q.2 - 1)))
theorem inAll_take {pv : Int} {px : Nat} {pn : Int} {u : Int} {l : List (Nat × Nat)} {i : Nat} {q : Nat × Nat} (h : l[i]? = some q) : inAll pv px pn u (l.take (i + 1)) = (inAll pv px pn u (l.take i) && (hasP pv px pn u q.1 && hasP pv px pn u (q.1 + (2 ^ q.2 - 1)))) := by
  unfold inAll
  rw [List.take_add_one, h, List.all_append]
  simp
theorem has_between {pv : Int} {px : Nat} {pn : Int} {u : Int} {x y z : Nat} (hx : hasP pv px pn u x = true) (hy : hasP pv px pn u y = true) (h1 : x ≤ z) (h2 : z ≤ y) : hasP pv px pn u z = true := by
  unfold hasP at *
  simp only [Bool.and_eq_true, decide_eq_true_eq] at *
  obtain ⟨a1, a2, a3, a4⟩ := hx
  obtain ⟨b1, b2, b3, b4⟩ := hy
  subst a3
  have hc := (okP_is a1).2.2.2
  refine ⟨a1, ?_, rfl, ?_⟩
  · rcases okV_cases b2 with h | ⟨h, h'⟩
    · simp [okV, h]
    · subst h; simp [okV]; omega
  · have e1 := (cutK_is _ _ _ hc).1 a4
    have e2 := (cutK_is _ _ _ hc).1 b4
    exact (cutK_is _ _ _ hc).2 ⟨by omega, by omega⟩
theorem inAll_is {pv : Int} {px : Nat} {pn : Int} {u : Int} {x y : Nat} {l : List (Nat × Nat)} (h : okR u x u y = true) (hc : Cov u x y l) : inR u x u y pv px pn = inAll pv px pn u l := by
  unfold inR
  rw [h, Bool.true_and, Bool.eq_iff_iff]
  unfold inAll
  simp only [Bool.and_eq_true, List.all_eq_true]
  constructor
  · intro ⟨h1, h2⟩ q hq
    obtain ⟨_, _, _, _, e1, e2⟩ := hc.each q hq
    have := two_pos q.2
    exact ⟨has_between h1 h2 (by omega) (by omega), has_between h1 h2 (by omega) (by omega)⟩
  · intro ha
    obtain ⟨k, r, e⟩ := hc.head
    obtain ⟨r', a', k', e', hy⟩ := hc.last
    refine ⟨(ha (x, k) (by rw [e]; simp)).1, ?_⟩
    have := (ha (a', k') (by rw [e']; simp)).2
    simp only at this
    rw [show a' + (2 ^ k' - 1) = y by have := two_pos k'; omega] at this
    exact this
end Go.Proofs.YtkmbfnjmgimlhaaGreatDoor

/- RangOver: whatever the numbers, the law answers true. -/
namespace Go.Proofs.YtkmbfnjmgimlhaaGreatDoor
open Go.ChangeShapes Go.WideShapes Go.RowKit Go.Sort

theorem ifne6 {u a : Int} {x y s t : Nat} (h : ¬ (u = a ∧ x = s ∧ y = t)) (α : Type) (A B : α) : (if u = a then (if hiQ x = hiQ s then (if loQ x = loQ s then (if u = a then (if hiQ y = hiQ t then (if loQ y = loQ t then A else B) else B) else B) else B) else B) else B) = B := by
  by_cases h1 : u = a
  · simp only [if_pos h1]
    by_cases h2 : x = s
    · subst h2
      simp only [if_true]
      exact q_if_ne (fun e => h ⟨h1, rfl, e⟩) α A B
    · exact q_if_ne h2 α _ B
  · rw [if_neg h1]
set_option maxHeartbeats 16000000 in
set_option maxRecDepth 100000 in
theorem over_walk (v a b n c m k : Int) (w : World) (hg : Gl w) (ha : 0 ≤ a ∧ a < 18446744073709551616) (hb : 0 ≤ b ∧ b < 18446744073709551616) (hn : 0 ≤ n ∧ n < 18446744073709551616) (_hc : 0 ≤ c ∧ c < 18446744073709551616) (hm : 0 ≤ m ∧ m < 18446744073709551616) :
    Calls Tryz.prog 5 #[.int .i64 v, .int .u64 a, .int .u64 b, .int .u64 n, .int .u64 c, .int .u64 m, .int .i64 k] w fun e w' => e = .returned (.bool true) ∧ Below w.heap.size w w' := by
  have HG := Lib.hid hg
  have H1 := Lib.hid (fun w => rang_x v a b n w ha hb hn)
  have H2 := Lib.hid (fun w b' (h : 0 ≤ b' ∧ b' < 18446744073709551616) => rang_x v a b' m w ha h hm)
  have HPre := Lib.hid (fun w => pre_x v a b k w ha hb)
  clear hg ha hb hn _hc hm
  go_enter Tryz.func5, Tryz.ntmps5
  go_wp2_with fail
  refine (H1.out _).mono ?_
  rintro e w1 ⟨⟨u, x, y, rfl, ho, hx, hy, hxy⟩, hb1⟩
  have HO := Lib.hid (And.intro ho (And.intro hx hy))
  clear ho hx hy hxy
  go_wp2_with fail
  refine (H2.out _ _ (xor_u64 _ _)).mono ?_
  rintro e w2 ⟨⟨u', s, t, rfl, ho', hs, ht, _⟩, hb2⟩
  have HO' := Lib.hid (And.intro ho' (And.intro hs ht))
  have B2 := below_next hb1 hb2
  have G2 := HG.out.below B2
  clear ho' hs ht hb1 hb2 HG H1 H2
  go_wp2_with fail
  refine (HPre.out _).mono ?_
  rintro e w3 ⟨⟨pv, px, pn, rfl, hop, hpx⟩, hb3⟩
  have R3 := ((rl_new w2 u (hiQ x) (loQ x) u (hiQ y) (loQ y)).alloc (.cells #[.int .i64 u', .int .u64 (hiQ s), .int .u64 (loQ s), .int .i64 u', .int .u64 (hiQ t), .int .u64 (loQ t)] 52)).below hb3
  have S3 : Rl w3 (w2.heap.size + 1) u' (hiQ s) (loQ s) u' (hiQ t) (loQ t) := (rl_two (w := w2) (o := .cells #[.int .i64 u, .int .u64 (hiQ x), .int .u64 (loQ x), .int .i64 u, .int .u64 (hiQ y), .int .u64 (loQ y)] 52) rfl).below hb3
  have B3 := below_next (ball (ball B2)) hb3
  have G3 := (((G2.alloc (.cells #[.int .i64 u, .int .u64 (hiQ x), .int .u64 (loQ x), .int .i64 u, .int .u64 (hiQ y), .int .u64 (loQ y)] 52)).alloc (.cells #[.int .i64 u', .int .u64 (hiQ s), .int .u64 (loQ s), .int .i64 u', .int .u64 (hiQ t), .int .u64 (loQ t)] 52)).below hb3)
  clear hb3 B2 G2 HPre
  have HC := Lib.hid (fun w ht => cover_x u x u y w ht HO.out.2.1 HO.out.2.2)
  have hcov := cov_of HO.out.1 HO.out.2.2
  have hcnt : (coverR u x u y).length ≤ 258 := coverR_count HO.out.2.2
  have hin := inAll_is (pv := pv) (px := px) (pn := pn) HO.out.1 hcov
  have HCov := Lib.hid (And.intro hcov hin)
  generalize coverR u x u y = l at *
  have HPX := Lib.hid hpx
  clear hcov hin hop hpx
  obtain ⟨r0, r1, r2, r3, r4, r5, rlt⟩ := id R3
  go_wp2_with fail
  refine (HC.out _ (G3.alloc _).tz).mono ?_
  rintro e w4 ⟨hb4, pc, cc, rfl, hcc, hrow⟩
  obtain ⟨k0, l0, hl0⟩ := HCov.out.1.head
  obtain ⟨gc, rfl, hgc0, hgcl, hR⟩ := hrow.resolve_left (fun h => by rw [h.1] at hl0; cases hl0)
  have P4 := (pl_new w3 pv (hiQ px) (loQ px) pn).below hb4
  have R4 := (R3.alloc _).below hb4
  have S4 := (S3.alloc _).below hb4
  have B4 := below_next (ball B3) hb4
  have G4 := Lib.hid ((G3.alloc (.cells #[.int .i64 pv, .int .u64 (hiQ px), .int .u64 (loQ px), .int .i64 pn] 30)).below hb4)
  obtain ⟨L, hL⟩ : ∃ L, l.length = L := ⟨_, rfl⟩
  have HL := Lib.hid hL
  have HR := Lib.hid hR
  rw [hL] at hcc hcnt ⊢
  clear r0 r1 r2 r3 r4 r5 rlt R3 S3 B3 G3 hb4 HC hrow hR hl0 hL hgc0
  go_wp2_with fail
  go_loopw [18, 44] (fun bv iv wr => ∃ (i : Nat), bv = .bool (inAll pv px pn u (l.take i)) ∧ iv = .int .i64 i ∧ i ≤ L ∧ Below w4.heap.size w4 wr)
    (fun _ iv _ => L - (intOf iv).toNat)
  case atStart => exact ⟨0, rfl, rfl, by omega, Below.refl _ _⟩
  case round =>
    obtain ⟨i, rfl, rfl, hi, hbr⟩ := hrel
    by_cases hiL : i < L
    · have hi1 : (i : Int) < L := by omega
      have hi2 : (i : Int) < cc := by omega
      have hi0 : (0 : Int) ≤ i := by omega
      obtain ⟨⟨a1, k1⟩, hget⟩ : ∃ p, l[i]? = some p := ⟨_, List.getElem?_eq_getElem (by rw [HL.out]; exact hiL)⟩
      obtain ⟨x1, x2, x3, x4, x5, x6⟩ := HCov.out.1.each _ (List.mem_of_getElem? hget)
      simp only at x1 x2 x3 x4 x5 x6
      obtain ⟨p0, p1, p2, p3⟩ := HR.out i a1 k1 hget
      obtain ⟨kc, lc⟩ := keep hbr gc hgcl
      have e0 := (kc _).trans p0; have e1 := (kc _).trans p1; have e2 := (kc _).trans p2; have e3 := (kc _).trans p3
      have HT := Lib.hid (inAll_take (pv := pv) (px := px) (pn := pn) (u := u) hget)
      obtain ⟨z, hz⟩ : ∃ z, a1 + (2 ^ k1 - 1) = z := ⟨_, rfl⟩
      have hzl : z < 340282366920938463463374607431768211456 := by have := two_pos k1; have := HO.out.2.2; omega
      have HLst := Lib.hid (fun w => refLast_is u a1 k1 w x1 x2 x3 x4 z hz)
      have HH1 := Lib.hid (fun w bb h => refHas_is pv px pn u a1 w HPX.out x1 bb h)
      have HH2 := Lib.hid (fun w bb h => refHas_is pv px pn u z w HPX.out hzl bb h)
      simp only [hz] at HT
      have P5 := (P4.below hbr).alloc (.cells #[.int .i64 u, .int .u64 (hiQ a1), .int .u64 (loQ a1), .int .i64 ((bitsV u : Int) - k1)] 30)
      have Q5 := pl_new wr u (hiQ a1) (loQ a1) ((bitsV u : Int) - k1)
      have B5 := ball (o := .cells #[.int .i64 u, .int .u64 (hiQ a1), .int .u64 (loQ a1), .int .i64 ((bitsV u : Int) - k1)] 30) hbr
      clear p0 p1 p2 p3 kc hget x1 x2 x3 x4 x5 x6 hz hzl
      generalize (bitsV u : Int) - k1 = n1 at *
      go_upto_region 7 with fail
      clear e0 e1 e2 e3 hbr lc
      generalize wr.alloc (.cells #[.int .i64 u, .int .u64 (hiQ a1), .int .u64 (loQ a1), .int .i64 n1] 30) = X at *
      generalize wr.heap.size = E at *
      have q0 := cell_regrown Q5.c0; have q1 := cell_regrown Q5.c1; have q2 := cell_regrown Q5.c2; have q3 := cell_regrown Q5.c3
      have f0 := cell_regrown P5.c0; have f1 := cell_regrown P5.c1; have f2 := cell_regrown P5.c2; have f3 := cell_regrown P5.c3
      cases hin : inAll pv px pn u (l.take i)
      · have HF : Hid (inAll pv px pn u (l.take (i + 1)) = false) := by show _ = _; rw [HT.out, hin]; rfl
        clear hin HT
        refine wp_region_quiet_below (by kernel_rfl) (by kernel_rfl) ?_
        repeat (go_big_quiet_step (fail))
        refine wpQuiet_nil ?_
        intro _ hw'
        obtain ⟨⟨dq, osq⟩, hw''⟩ := hw'
        subst hw''
        have BR := below_next B5 (below_regrown X dq osq)
        dsimp only at *
        generalize grow (redrawn X dq) osq = Y at *
        clear q0 q1 q2 q3 f0 f1 f2 f3 P5 Q5 B5
        go_wp2
        go_roundw
        case rel => exact ⟨i + 1, by rw [HF.out], by go_num, by omega, BR⟩
        case measure => simp [intOf]; omega
      · cases hh1 : hasP pv px pn u a1
        · have HF : Hid (inAll pv px pn u (l.take (i + 1)) = false) := by show _ = _; rw [HT.out, hin, hh1]; rfl
          have HA := Lib.hid (fun w => HH1.out w false hh1)
          clear hin HT hh1 HH1 HH2
          refine wp_region_quiet_below (by kernel_rfl) (by kernel_rfl) ?_
          repeat (go_big_quiet_step (first
            | (go_at_call 27; exact Calls.regrown_of (HA.out _))))
          refine wpQuiet_nil ?_
          intro _ hw'
          obtain ⟨⟨dq, osq⟩, hw''⟩ := hw'
          subst hw''
          have BR := below_next B5 (below_regrown X dq osq)
          dsimp only at *
          generalize grow (redrawn X dq) osq = Y at *
          clear q0 q1 q2 q3 f0 f1 f2 f3 P5 Q5 B5
          go_wp2
          go_roundw
          case rel => exact ⟨i + 1, by rw [HF.out], by go_num, by omega, BR⟩
          case measure => simp [intOf]; omega
        · obtain ⟨bb, hbb⟩ : ∃ bb, hasP pv px pn u z = bb := ⟨_, rfl⟩
          have HF : Hid (inAll pv px pn u (l.take (i + 1)) = bb) := by show _ = _; rw [HT.out, hin, hh1, hbb]; rfl
          have HA := Lib.hid (fun w => HH1.out w true hh1)
          have HB := Lib.hid (fun w => HH2.out w bb hbb)
          clear hin HT hh1 HH1 HH2 hbb
          refine wp_region_quiet_below (by kernel_rfl) (by kernel_rfl) ?_
          repeat (go_big_quiet_step (fail))
          go_big_quiet_step ((go_at_call 27; exact Calls.regrown_of (HA.out _)))
          repeat (go_big_quiet_step (fail))
          go_big_quiet_step ((go_at_call 25; exact Calls.regrown_of (HLst.out _)))
          repeat (go_big_quiet_step (fail))
          go_big_quiet_step ((go_at_call 27; exact Calls.regrown_of (HB.out _)))
          repeat (go_big_quiet_step (fail))
          refine wpQuiet_nil ?_
          intro _ hw'
          obtain ⟨⟨dq, osq⟩, hw''⟩ := hw'
          subst hw''
          have BR := below_next B5 (below_regrown X dq osq)
          dsimp only at *
          generalize grow (redrawn X dq) osq = Y at *
          clear q0 q1 q2 q3 f0 f1 f2 f3 P5 Q5 B5
          go_wp2
          go_roundw
          case rel => exact ⟨i + 1, by rw [HF.out], by go_num, by omega, BR⟩
          case measure => simp [intOf]; omega
    · obtain rfl : i = L := by omega
      have hil : ¬ ((i : Int) < i) := by omega
      have hinf : inAll pv px pn u (l.take i) = inR u x u y pv px pn := by rw [List.take_of_length_le (by rw [HL.out]; omega)]; exact HCov.out.2.symm
      rw [hinf]
      have G5 := Lib.hid (G4.out.below hbr)
      have P5 := P4.below hbr
      have R5 := R4.below hbr
      have S5 := S4.below hbr
      have B5 := below_next B4 hbr
      clear hinf G4 P4 R4 S4 B4 hbr HR hgcl HCov HL
      have HI : Hid (∀ w, Calls Tryz.prog 40 #[rgV u x u y, .agg #[.int .i64 pv, .int .u64 (hiQ px), .int .u64 (loQ px), .int .i64 pn]] w fun e w' => e = .returned (.bool (inR u x u y pv px pn)) ∧ Below w.heap.size w w') := fun w => inRang_x u x u y pv px pn w HO.out.2.1 HO.out.2.2 HPX.out
      generalize inR u x u y pv px pn = iv at *
      have HE1 := Lib.hid (fun w => hasE_x u x y u' s w)
      have HE2 := Lib.hid (fun w => hasE_x u' s t u x w)
      have hov := over_is_has HO.out.1 HO'.out.1
      have HV1 := Lib.hid (fun w => overRang_is u x u y u' s u' t w _ hov)
      have HV2 := Lib.hid (fun w => overRang_is u' s u' t u x u y w _ ((over_comm u x y u' s t).trans hov))
      have HV3 := Lib.hid (fun w => overRang_is u x u y u x u y w _ (over_self HO.out.1))
      generalize hasE u x y u' s = o1 at *
      generalize hasE u' s t u x = o2 at *
      obtain ⟨r0, r1, r2, r3, r4, r5, rlt⟩ := id R5
      obtain ⟨s0, s1, s2, s3, s4, s5, slt⟩ := id S5
      clear hov
      go_upto_region 10 with fail
      go_cut [22] (fun ov wx => ov = .bool (o1 || o2) ∧ Below wr.heap.size wr wx)
      case first =>
        go_wp2_with fail
        refine (HE1.out _).mono ?_
        rintro e w5 ⟨rfl, hb5⟩
        cases o1
        · obtain ⟨s0, s1, s2, s3, s4, s5, slt⟩ := S5.below hb5
          obtain ⟨r0, r1, r2, r3, r4, r5, rlt⟩ := R5.below hb5
          go_wp2_with fail
          refine (HE2.out _).mono ?_
          rintro e w6 ⟨rfl, hb6⟩
          go_wp2_with fail
          go_meet
          exact ⟨rfl, below_next hb5 hb6⟩
        · go_wp2_with fail
          go_meet
          exact ⟨rfl, hb5⟩
      case rest =>
        obtain ⟨rfl, KX⟩ := hcut
        have BX := below_next B5 KX
        have GX := Lib.hid (G5.out.below KX)
        have P6 := P5.below KX
        have R6 := R5.below KX
        have S6 := S5.below KX
        clear r0 r1 r2 r3 r4 r5 rlt s0 s1 s2 s3 s4 s5 slt P5 R5 S5 B5 G5 KX HE1 HE2
        have p0 := cell_regrown P6.c0; have p1 := cell_regrown P6.c1; have p2 := cell_regrown P6.c2; have p3 := cell_regrown P6.c3
        have r0 := cell_regrown R6.c0; have r1 := cell_regrown R6.c1; have r2 := cell_regrown R6.c2; have r3 := cell_regrown R6.c3; have r4 := cell_regrown R6.c4; have r5 := cell_regrown R6.c5
        have s0 := cell_regrown S6.c0; have s1 := cell_regrown S6.c1; have s2 := cell_regrown S6.c2; have s3 := cell_regrown S6.c3; have s4 := cell_regrown S6.c4; have s5 := cell_regrown S6.c5
        clear P6 R6 S6
        generalize (o1 || o2) = ov at *
        by_cases heq : u = u' ∧ x = s ∧ y = t
        · obtain ⟨rfl, rfl, rfl⟩ := heq
          have HL1 := Lib.hid (fun w => lessRang_is u x u y u x u y w false (less_self u x y))
          have HL2 := HL1
          go_wp2_with fail
          refine wp_region_quiet_below (by kernel_rfl) (by kernel_rfl) ?_
          repeat (go_big_quiet_step (fail))
          go_big_quiet_step ((go_at_call 39; exact Calls.regrown_of (HV1.out _)))
          repeat (go_big_quiet_step (fail))
          go_big_quiet_step ((go_at_call 39; exact Calls.regrown_of (HV2.out _)))
          repeat (go_big_quiet_step (fail))
          go_big_quiet_step ((go_at_call 40; exact Calls.regrown_of (HI.out _)))
          repeat (go_big_quiet_step (fail))
          go_big_quiet_step ((go_at_call 41; exact Calls.regrown_of (HL1.out _)))
          repeat (go_big_quiet_step (fail))
          go_big_quiet_step ((go_at_call 41; exact Calls.regrown_of (HL2.out _)))
          repeat (go_big_quiet_step (fail))
          go_big_quiet_step ((go_at_call 39; exact Calls.regrown_of (HV3.out _)))
          repeat (go_big_quiet_step (fail))
          go_big_quiet_step ((go_at_call 34; exact Calls.regrown_of (awake4_x _ (GX.out.below (below_regrown wc _ _)))))
          repeat (go_big_quiet_step (fail))
          refine wpQuiet_nil ?_
          intro _ hw'
          obtain ⟨⟨dq, osq⟩, hw''⟩ := hw'
          subst hw''
          have BR := below_next BX (below_regrown wc dq osq)
          dsimp only at *
          go_wp2
          go_ret
          exact ⟨rfl, BR⟩
        · have hq := ifne6 heq
          rcases Bool.eq_false_or_eq_true (lessR u x u y u' s u' t) with hl1 | hl1
          · have HL1 := Lib.hid (fun w => lessRang_is u x u y u' s u' t w true hl1)
            clear hl1 heq
            go_wp2_with fail
            refine wp_region_quiet_below (by kernel_rfl) (by kernel_rfl) ?_
            repeat (go_big_quiet_step (fail))
            go_big_quiet_step ((go_at_call 39; exact Calls.regrown_of (HV1.out _)))
            repeat (go_big_quiet_step (fail))
            go_big_quiet_step ((go_at_call 39; exact Calls.regrown_of (HV2.out _)))
            repeat (go_big_quiet_step (fail))
            go_big_quiet_step ((go_at_call 40; exact Calls.regrown_of (HI.out _)))
            repeat (go_big_quiet_step (fail))
            go_big_quiet_step ((go_at_call 41; exact Calls.regrown_of (HL1.out _)))
            repeat (go_big_quiet_step (fail))
            go_big_quiet_step ((go_at_call 39; exact Calls.regrown_of (HV3.out _)))
            repeat (go_big_quiet_step (fail))
            go_big_quiet_step ((go_at_call 34; exact Calls.regrown_of (awake4_x _ (GX.out.below (below_regrown wc _ _)))))
            repeat (go_big_quiet_step (fail))
            refine wpQuiet_nil ?_
            intro _ hw'
            obtain ⟨⟨dq, osq⟩, hw''⟩ := hw'
            subst hw''
            have BR := below_next BX (below_regrown wc dq osq)
            dsimp only at *
            go_wp2
            go_ret
            exact ⟨rfl, BR⟩
          · have hl2 := (less_tri HO.out.1 HO'.out.1 heq).resolve_left (by rw [hl1]; simp)
            have HL1 := Lib.hid (fun w => lessRang_is u x u y u' s u' t w false hl1)
            have HL2 := Lib.hid (fun w => lessRang_is u' s u' t u x u y w true hl2)
            clear hl1 hl2 heq
            go_wp2_with fail
            refine wp_region_quiet_below (by kernel_rfl) (by kernel_rfl) ?_
            repeat (go_big_quiet_step (fail))
            go_big_quiet_step ((go_at_call 39; exact Calls.regrown_of (HV1.out _)))
            repeat (go_big_quiet_step (fail))
            go_big_quiet_step ((go_at_call 39; exact Calls.regrown_of (HV2.out _)))
            repeat (go_big_quiet_step (fail))
            go_big_quiet_step ((go_at_call 40; exact Calls.regrown_of (HI.out _)))
            repeat (go_big_quiet_step (fail))
            go_big_quiet_step ((go_at_call 41; exact Calls.regrown_of (HL1.out _)))
            repeat (go_big_quiet_step (fail))
            go_big_quiet_step ((go_at_call 41; exact Calls.regrown_of (HL2.out _)))
            repeat (go_big_quiet_step (fail))
            go_big_quiet_step ((go_at_call 39; exact Calls.regrown_of (HV3.out _)))
            repeat (go_big_quiet_step (fail))
            go_big_quiet_step ((go_at_call 34; exact Calls.regrown_of (awake4_x _ (GX.out.below (below_regrown wc _ _)))))
            repeat (go_big_quiet_step (fail))
            refine wpQuiet_nil ?_
            intro _ hw'
            obtain ⟨⟨dq, osq⟩, hw''⟩ := hw'
            subst hw''
            have BR := below_next BX (below_regrown wc dq osq)
            dsimp only at *
            go_wp2
            go_ret
            exact ⟨rfl, BR⟩
end Go.Proofs.YtkmbfnjmgimlhaaGreatDoor
