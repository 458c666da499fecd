/- rang.Parse and rang.Print. -/
import Derived.Test.YtmnemjhkmllniaaGreatDoorzGc
import Derived.Test.YtmnemjhkmllniaaGreatDoorzLa
import Derived.Test.YtmnemjhkmllniaaGreatDoorzPs
import Derived.Test.YtmnemjhkmllniaaGreatDoorzRs
import Derived.Test.YtmnemjhkmllniaaGreatDoorzLb
namespace Go.Proofs.YtmnemjhkmllniaaGreatDoor
open Go.ChangeShapes Go.WideShapes Go.RowKit Go.Sort

/-- What addr.Parse answers, part by part. -/
def pV (r : Option (Nat × Nat)) : Int := match r with
  | some (v, _) => v
  | none => 0
def pX (r : Option (Nat × Nat)) : Nat := match r with
  | some (_, x) => x
  | none => 0
theorem parseR_parts (r : Option (Nat × Nat)) : parseR r = .tuple #[.agg #[.int .i64 (pV r), .int .u64 (hiQ (pX r)), .int .u64 (loQ (pX r))], .bool r.isSome] := by
  cases r with
  | none => rfl
  | some p => rfl
def rangM (a b : Option (Nat × Nat)) : Option (Nat × Nat × Nat) := match a, b with
  | some (v, x), some (u, y) => if okR v x u y = true then some (v, x, y) else none
  | _, _ => none
def rangV (s : Bs) : Option (Nat × Nat × Nat) := rangM (parseV (Lib.cut s [45]).1) (parseV (Lib.cut s [45]).2.1)
def rangR (r : Option (Nat × Nat × Nat)) : Value := match r with
  | some (v, x, y) => .tuple #[rgV v x v y, .bool true]
  | none => .tuple #[.agg #[.int .i64 0, .int .u64 0, .int .u64 0, .int .i64 0, .int .u64 0, .int .u64 0], .bool false]
theorem pset6 {B b : Nat} {a w : World} {t u v x y z : Value} (h : Below B a w) (hb : B ≤ b) : Below B a ((((((w.setCell ⟨b, 0, none⟩ t).setCell ⟨b, 1, none⟩ u).setCell ⟨b, 2, none⟩ v).setCell ⟨b, 3, none⟩ x).setCell ⟨b, 4, none⟩ y).setCell ⟨b, 5, none⟩ z) := (((((h.setCell hb _).setCell hb _).setCell hb _).setCell hb _).setCell hb _).setCell hb _
set_option maxHeartbeats 4000000 in
set_option maxRecDepth 100000 in
theorem parseG_x (s : ByteArray) (w : World) (hg : Gl w) (hs : s.size < 4294967281) :
    Calls Tryz.prog 9 #[.string s] w fun e w' => e = .returned (rangR (rangV s.data.toList)) ∧ Below w.heap.size w w' := by
  have HS := Lib.hid hs
  obtain ⟨W, hW⟩ : ∃ W, W = w.alloc (.cells #[.int .i64 0, .int .u64 0, .int .u64 0, .int .i64 0, .int .u64 0, .int .u64 0] 30) := ⟨_, rfl⟩
  have HG : Hid (Gl W) := hW ▸ hg.alloc _
  have R0 : Rl W w.heap.size 0 0 0 0 0 0 := hW ▸ rl_new w _ _ _ _ _ _
  have rf : ∀ o, W.frozen? ⟨w.heap.size, o, none⟩ = false := fun o => by rw [hW]; simp [go_sem]
  have BW : Below w.heap.size w W := hW ▸ (Below.refl _ _).alloc (Nat.le_refl _) _
  have HZ := Lib.hid (And.intro R0 rf)
  have lW := R0.lt
  clear hs hg R0 rf
  have hc1 := (cut_len s.data.toList [45]).1
  have hc2 := (cut_len s.data.toList [45]).2
  rw [ba_len] at hc1 hc2
  obtain ⟨A, hA⟩ : ∃ A, (Lib.cut s.data.toList [45]).1 = A := ⟨_, rfl⟩
  obtain ⟨B, hB⟩ : ∃ B, (Lib.cut s.data.toList [45]).2.1 = B := ⟨_, rfl⟩
  have HCut := cut_x s 45 W HG.out HS.out
  have hp : rangV s.data.toList = rangM (parseV A) (parseV B) := by unfold rangV; rw [hA, hB]
  rw [hA, hB] at HCut
  rw [hA] at hc1
  rw [hB] at hc2
  have HPA : Hid (∀ w, Gl w → Calls Tryz.prog 33 #[.string ⟨A.toArray⟩] w fun e w' => e = .returned (.tuple #[.agg #[.int .i64 (pV (parseV A)), .int .u64 (hiQ (pX (parseV A))), .int .u64 (loQ (pX (parseV A)))], .bool (parseV A).isSome]) ∧ Below w.heap.size w w') := fun w h => by
    rw [← parseR_parts]; exact parse_x ⟨A.toArray⟩ w h (by rw [ba_size]; have := HS.out; omega)
  have HPB : Hid (∀ w, Gl w → Calls Tryz.prog 33 #[.string ⟨B.toArray⟩] w fun e w' => e = .returned (.tuple #[.agg #[.int .i64 (pV (parseV B)), .int .u64 (hiQ (pX (parseV B))), .int .u64 (loQ (pX (parseV B)))], .bool (parseV B).isSome]) ∧ Below w.heap.size w w') := fun w h => by
    rw [← parseR_parts]; exact parse_x ⟨B.toArray⟩ w h (by rw [ba_size]; have := HS.out; omega)
  have HC := Lib.hid HCut
  rw [hp]
  generalize parseV A = a at *
  generalize parseV B = b at *
  obtain ⟨Q, hQ⟩ : ∃ Q, rangR (rangM a b) = Q := ⟨_, rfl⟩
  have HQ := Lib.hid hQ
  rw [hQ]
  clear hc1 hc2 hA hB HCut hp hQ
  generalize (Lib.cut s.data.toList [45]).2.2 = fnd at HC
  go_enter Tryz.func9, Tryz.ntmps9
  go_wp2_with fail
  rw [← hW]
  clear hW
  refine HC.out.mono ?_
  rintro e w1 ⟨rfl, hb1⟩
  have G1 := HG.out.below hb1
  go_wp2_with fail
  refine (HPA.out _ G1).mono ?_
  rintro e w2 ⟨rfl, hb2⟩
  have G2 := G1.below hb2
  have B2 := below_next hb1 hb2
  go_wp2_with fail
  refine (HPB.out _ (G2.alloc _)).mono ?_
  rintro e w3 ⟨rfl, hb3⟩
  have C3 := (cl_new w2 (pV a) (hiQ (pX a)) (loQ (pX a))).below hb3
  have B3 := below_next (ball B2) hb3
  obtain ⟨c0, c1, c2, cl⟩ := C3
  clear hb1 hb2 hb3 G1 G2 B2 HC HPA HPB HG
  obtain ⟨k2, f2, j2⟩ := keepf B3 w.heap.size lW
  have R3 : Rl w3 w.heap.size 0 0 0 0 0 0 := HZ.out.1.below B3
  have sf : ∀ o, w3.frozen? ⟨w.heap.size, o, none⟩ = false := fun o => (f2 o).trans (HZ.out.2 o)
  have BB := below_next BW B3
  clear k2 f2 B3 BW HZ
  cases a with
  | none =>
    have HF : Hid (Q = .tuple #[.agg #[.int .i64 0, .int .u64 0, .int .u64 0, .int .i64 0, .int .u64 0, .int .u64 0], .bool false]) := HQ.out.symm
    obtain ⟨s0, s1, s2, s3, s4, s5, sl⟩ := R3
    simp only [Option.isSome_none]
    generalize pV none = v1 at *
    generalize pX none = x1 at *
    generalize pV b = v2 at *
    generalize pX b = x2 at *
    generalize b.isSome = b2 at *
    clear HQ
    go_wp2
    exact bodyPost_ret (v := .tuple #[.agg #[.int .i64 0, .int .u64 0, .int .u64 0, .int .i64 0, .int .u64 0, .int .u64 0], .bool false]) (by simp [results, Tryz.results9, go_sem, *]) rfl ⟨by rw [HF.out], by first | exact ball (ball (pset6 BB (Nat.le_refl _))) | exact pset6 (ball (ball BB)) (Nat.le_refl _)⟩
  | some p =>
    cases b with
    | none =>
      have HF : Hid (Q = .tuple #[.agg #[.int .i64 0, .int .u64 0, .int .u64 0, .int .i64 0, .int .u64 0, .int .u64 0], .bool false]) := HQ.out.symm
      obtain ⟨s0, s1, s2, s3, s4, s5, sl⟩ := R3
      simp only [Option.isSome_none, Option.isSome_some]
      generalize pV none = v2 at *
      generalize pX none = x2 at *
      generalize pV (some p) = v1 at *
      generalize pX (some p) = x1 at *
      clear HQ
      go_wp2
      exact bodyPost_ret (v := .tuple #[.agg #[.int .i64 0, .int .u64 0, .int .u64 0, .int .i64 0, .int .u64 0, .int .u64 0], .bool false]) (by simp [results, Tryz.results9, go_sem, *]) rfl ⟨by rw [HF.out], by first | exact ball (ball (pset6 BB (Nat.le_refl _))) | exact pset6 (ball (ball BB)) (Nat.le_refl _)⟩
    | some q =>
      obtain ⟨v, x⟩ := p
      obtain ⟨u, y⟩ := q
      simp only [Option.isSome_some]
      simp only [pV, pX] at c0 c1 c2 ⊢
      have R4 := (R3.alloc (.cells #[.int .i64 u, .int .u64 (hiQ y), .int .u64 (loQ y)] 28)).alloc (.cells #[.int .i64 v, .int .u64 (hiQ x), .int .u64 (loQ x), .int .i64 u, .int .u64 (hiQ y), .int .u64 (loQ y)] 30)
      have N4 := rl_new (w3.alloc (.cells #[.int .i64 u, .int .u64 (hiQ y), .int .u64 (loQ y)] 28)) v (hiQ x) (loQ x) u (hiQ y) (loQ y)
      have sf4 : ∀ o, ((w3.alloc (.cells #[.int .i64 u, .int .u64 (hiQ y), .int .u64 (loQ y)] 28)).alloc (.cells #[.int .i64 v, .int .u64 (hiQ x), .int .u64 (loQ x), .int .i64 u, .int .u64 (hiQ y), .int .u64 (loQ y)] 30)).frozen? ⟨w.heap.size, o, none⟩ = false := fun o => ((keepf (below2 w3 _ _) w.heap.size R3.lt).2.1 o).trans (sf o)
      have BB4 := ball (o := .cells #[.int .i64 v, .int .u64 (hiQ x), .int .u64 (loQ x), .int .i64 u, .int .u64 (hiQ y), .int .u64 (loQ y)] 30) (ball (o := .cells #[.int .i64 u, .int .u64 (hiQ y), .int .u64 (loQ y)] 28) BB)
      cases hk : okR v x u y
      · have HK := Lib.hid hk
        have HF : Hid (Q = .tuple #[.agg #[.int .i64 0, .int .u64 0, .int .u64 0, .int .i64 0, .int .u64 0, .int .u64 0], .bool false]) := by show _ = _; rw [← HQ.out]; simp [rangM, hk, rangR]
        clear hk HQ
        go_wp2_with fail
        refine (okRang_is v x u y _ _ HK.out).mono ?_
        rintro e w5 ⟨rfl, hb5⟩
        obtain ⟨s0, s1, s2, s3, s4, s5, sl⟩ := R4.below hb5
        have sf5 : ∀ o, w5.frozen? ⟨w.heap.size, o, none⟩ = false := fun o => ((keepf hb5 w.heap.size R4.lt).2.1 o).trans (sf4 o)
        have B5 := below_next BB4 hb5
        clear R3 R4 N4 sf sf4 BB BB4 c0 c1 c2
        go_wp2
        exact bodyPost_ret (v := .tuple #[.agg #[.int .i64 0, .int .u64 0, .int .u64 0, .int .i64 0, .int .u64 0, .int .u64 0], .bool false]) (by simp [results, Tryz.results9, go_sem, *]) rfl ⟨by rw [HF.out], pset6 B5 (Nat.le_refl _)⟩
      · have HK := Lib.hid hk
        have huv : Hid ((v : Int) = u) := (okR_is hk).2.2.1
        have HF : Hid (Q = .tuple #[rgV v x v y, .bool true]) := by show _ = _; rw [← HQ.out]; simp [rangM, hk, rangR]
        clear hk HQ
        go_wp2_with fail
        refine (okRang_is v x u y _ _ HK.out).mono ?_
        rintro e w5 ⟨rfl, hb5⟩
        obtain ⟨s0, s1, s2, s3, s4, s5, sl⟩ := R4.below hb5
        have N5 := N4.below hb5
        have sf5 : ∀ o, w5.frozen? ⟨w.heap.size, o, none⟩ = false := fun o => ((keepf hb5 w.heap.size R4.lt).2.1 o).trans (sf4 o)
        have B5 := below_next BB4 hb5
        rw [World.size_alloc] at N5
        obtain ⟨n0, n1, n2, n3, n4, n5, nl⟩ := N5
        clear R3 R4 N4 sf sf4 BB BB4 c0 c1 c2
        go_wp2
        exact bodyPost_ret (v := .tuple #[.agg #[.int .i64 v, .int .u64 (hiQ x), .int .u64 (loQ x), .int .i64 u, .int .u64 (hiQ y), .int .u64 (loQ y)], .bool true]) (by simp [results, Tryz.results9, go_sem, *]) rfl ⟨by rw [HF.out, ← huv.out], pset6 B5 (Nat.le_refl _)⟩
end Go.Proofs.YtmnemjhkmllniaaGreatDoor

/- rang.Print; the checker's own Add of a number of 64 bits; the laws' maker of ranges. -/
namespace Go.Proofs.YtmnemjhkmllniaaGreatDoor
open Go.ChangeShapes Go.WideShapes Go.RowKit Go.Sort

def tellR (v : Int) (x : Nat) (u : Int) (y : Nat) : Bs := if okR v x u y = true then tellV v x ++ [45] ++ tellV u y else []
set_option maxHeartbeats 2000000 in
set_option maxRecDepth 100000 in
theorem printG_x (v : Int) (x : Nat) (u : Int) (y : Nat) (w : World) (hg : Gl w) (hx : x < 340282366920938463463374607431768211456) (hy : y < 340282366920938463463374607431768211456) :
    Calls Tryz.prog 11 #[rgV v x u y] w fun e w' => e = .returned (.string (baS (tellR v x u y))) ∧ Below w.heap.size w w' := by
  have HG := Lib.hid hg
  obtain ⟨W, hW⟩ : ∃ W, W = w.alloc (.cells #[.int .i64 v, .int .u64 (hiQ x), .int .u64 (loQ x), .int .i64 u, .int .u64 (hiQ y), .int .u64 (loQ y)] 30) := ⟨_, rfl⟩
  have R0 : Rl W w.heap.size v (hiQ x) (loQ x) u (hiQ y) (loQ y) := hW ▸ rl_new w _ _ _ _ _ _
  have BW : Below w.heap.size w W := by rw [hW]; exact (Below.refl _ _).alloc (Nat.le_refl _) _
  have H1 : Hid (∀ w, Gl w → Calls Tryz.prog 36 #[.agg #[.int .i64 v, .int .u64 (hiQ x), .int .u64 (loQ x)]] w fun e w' => e = .returned (.string (baS (tellV v x))) ∧ Below w.heap.size w w') := fun w hg => print_x v x w hg hx
  have H2 : Hid (∀ w, Gl w → Calls Tryz.prog 36 #[.agg #[.int .i64 u, .int .u64 (hiQ y), .int .u64 (loQ y)]] w fun e w' => e = .returned (.string (baS (tellV u y))) ∧ Below w.heap.size w w') := fun w hg => print_x u y w hg hy
  clear hx hy hg
  obtain ⟨c0, c1, c2, c3, c4, c5, lW⟩ := id R0
  cases ho : okR v x u y
  · have HO := Lib.hid ho
    rw [show tellR v x u y = [] by simp [tellR, ho]]
    clear ho H1 H2
    go_enter Tryz.func11, Tryz.ntmps11
    go_wp2_with fail
    rw [← hW]
    clear hW
    refine (okRang_is _ _ _ _ _ _ HO.out).mono ?_
    rintro e w1 ⟨rfl, hb1⟩
    go_wp2
    go_ret
    exact ⟨rfl, below_next BW hb1⟩
  · have HO := Lib.hid ho
    have ht : tellR v x u y = tellV v x ++ [45] ++ tellV u y := by simp [tellR, ho]
    have hl := tellV_len v x
    have hl2 := tellV_len u y
    rw [ht]
    generalize tellV v x = T at *
    generalize tellV u y = D at *
    have hadd1 : ∀ V, (Op.stringOp .add (baS T) ⟨#[45]⟩).run Tryz.prog V = .ok (.string (baS (T ++ [45]))) V := addS T [45] (by omega) (by decide)
    have hadd2 := addS (T ++ [45]) D (by simp; omega) (by omega)
    generalize T ++ [45] = T1 at *
    generalize T1 ++ D = T2 at *
    clear ho hl hl2 ht
    go_enter Tryz.func11, Tryz.ntmps11
    go_wp2_with fail
    rw [← hW]
    clear hW
    refine (okRang_is _ _ _ _ _ _ HO.out).mono ?_
    rintro e V ⟨rfl, hb1⟩
    have B1 := below_next BW hb1
    have G1 := Lib.hid (HG.out.below B1)
    have R1 := R0.below hb1
    have a0 := cell_regrown R1.c0; have a1 := cell_regrown R1.c1; have a2 := cell_regrown R1.c2; have a3 := cell_regrown R1.c3; have a4 := cell_regrown R1.c4; have a5 := cell_regrown R1.c5
    clear hb1 R0 R1 BW c0 c1 c2 c3 c4 c5
    go_wp2_with fail
    refine wp_region_quiet_below (by kernel_rfl) (by kernel_rfl) ?_
    repeat (go_big_quiet_step (first
      | (go_at_call 36; with_reducible exact Calls.regrown_of (H1.out _ (G1.out.below (below_regrown V _ _))))
      | (go_at_call 36; with_reducible exact Calls.regrown_of (H2.out _ (G1.out.below (below_regrown V _ _))))))
    refine wpQuiet_nil ?_
    intro _ hw'
    obtain ⟨⟨dq, osq⟩, hw''⟩ := hw'
    subst hw''
    go_wp2
    go_ret
    exact ⟨rfl, below_next B1 (below_regrown V dq osq)⟩
theorem printG_is (v : Int) (x : Nat) (u : Int) (y : Nat) (w : World) (hg : Gl w) (hx : x < 340282366920938463463374607431768211456) (hy : y < 340282366920938463463374607431768211456) (s : ByteArray) (h : baS (tellR v x u y) = s) :
    Calls Tryz.prog 11 #[rgV v x u y] w fun e w' => e = .returned (.string s) ∧ Below w.heap.size w w' := h ▸ printG_x v x u y w hg hx hy
set_option maxHeartbeats 2000000 in
theorem refAddS_x (x : Nat) (t : Int) (w : World) (hx : x < 340282366920938463463374607431768211456) (t0 : 0 ≤ t) (t1 : t < 18446744073709551616) :
    Calls Tryz.prog 25 #[.agg #[.int .u64 (hiQ x), .int .u64 (loQ x)], .agg #[.int .u64 0, .int .u64 t]] w fun e w' => e = .returned (.tuple #[.agg #[.int .u64 (hiQ (addR x t.toNat)), .int .u64 (loQ (addR x t.toNat))], .bool (addB x t.toNat)]) ∧ Below w.heap.size w w' := by
  have a0 := hiQ_nn x; have a1 := hiQ_lt x hx; have a2 := loQ_nn x; have a3 := loQ_lt x
  have e := q_eq x
  obtain ⟨h, hh⟩ : ∃ h, hiQ x = h := ⟨_, rfl⟩
  obtain ⟨l, hl⟩ : ∃ l, loQ x = l := ⟨_, rfl⟩
  rw [hh] at a0 a1 e; rw [hl] at a2 a3 e
  rw [hh, hl]
  by_cases c1 : l + t < 18446744073709551616
  · have eR : addR x t.toNat = x + t.toNat := if_pos (by omega)
    have eB : addB x t.toNat = true := decide_eq_true (by omega)
    have q1 : hiQ (x + t.toNat) = h := by unfold hiQ; omega
    obtain ⟨L, hL⟩ : ∃ L, l + t = L := ⟨_, rfl⟩
    have q2 : loQ (x + t.toNat) = L := by unfold loQ; omega
    rw [eR, eB, q1, q2]
    have hw : IntKind.u64.wrap (l + t) = L := by rw [IntKind.wrap_u64]; omega
    have hn : ¬ (L < l) := by omega
    clear e hh hl eR eB q1 q2 hx c1 hL t0 t1 a2 a3
    go_enter Tryz.func25, Tryz.ntmps25
    go_wp2
    exact bodyPost_ret (v := .tuple #[.agg #[.int .u64 h, .int .u64 L], .bool true]) (by simp [results, Tryz.results25, go_sem]) rfl ⟨rfl, below3 _ _ _ _⟩
  · have hw : IntKind.u64.wrap (l + t) = l + t - 18446744073709551616 := by rw [IntKind.wrap_u64]; omega
    have hn : l + t - 18446744073709551616 < l := by omega
    by_cases c2 : h < 18446744073709551615
    · have eR : addR x t.toNat = x + t.toNat := if_pos (by omega)
      have eB : addB x t.toNat = true := decide_eq_true (by omega)
      have q1 : hiQ (x + t.toNat) = h + 1 := by unfold hiQ; omega
      have q2 : loQ (x + t.toNat) = l + t - 18446744073709551616 := by unfold loQ; omega
      rw [eR, eB, q1, q2]
      generalize l + t - 18446744073709551616 = L at *
      clear e hh hl eR eB q1 q2 hx c1 a2 a3 t0 t1
      go_enter Tryz.func25, Tryz.ntmps25
      go_wp2
      exact bodyPost_ret (v := .tuple #[.agg #[.int .u64 (h + 1), .int .u64 L], .bool true]) (by simp [results, Tryz.results25, go_sem]) rfl ⟨rfl, below3 _ _ _ _⟩
    · have c2' : h = 18446744073709551615 := by omega
      have eR : addR x t.toNat = 0 := if_neg (by omega)
      have eB : addB x t.toNat = false := decide_eq_false (by omega)
      rw [eR, eB, c2', hiQ_zero, loQ_zero]
      generalize l + t - 18446744073709551616 = L at *
      clear e hh hl eR eB hx c1 a2 a3 c2 c2' a0 a1 t0 t1
      go_enter Tryz.func25, Tryz.ntmps25
      go_wp2
      exact bodyPost_ret (v := .tuple #[.agg #[.int .u64 0, .int .u64 0], .bool false]) (by simp [results, Tryz.results25, go_sem]) rfl ⟨rfl, below3 _ _ _ _⟩
/-- A range that may stand, of at most 2^64 addresses. -/
def MadeR (e : Ending) : Prop := ∃ (u : Int) (x y : Nat), e = .returned (rgV u x u y) ∧ okR u x u y = true ∧ x < 340282366920938463463374607431768211456 ∧ y < 340282366920938463463374607431768211456 ∧ y ≤ x + 18446744073709551615
theorem yset_far {w2 : World} {B b : Nat} {p q : Value} {o : Obj} (hne : b ≠ B) (hb : b < w2.heap.size) (i : Nat) : (((w2.setCell ⟨B, 1, none⟩ p).setCell ⟨B, 2, none⟩ q).alloc o).cell? ⟨b, i, none⟩ = w2.cell? ⟨b, i, none⟩ := by
  rw [World.cell?_alloc_lt _ _ _ (by simp; exact hb), World.cell?_setCell_other _ _ _ _ (by intro e; injection e with e1 e2; exact hne e1.symm), World.cell?_setCell_other _ _ _ _ (by intro e; injection e with e1 e2; exact hne e1.symm)]
theorem yset_frozen {w2 : World} {B b : Nat} {p q : Value} {o : Obj} (hb : b < w2.heap.size) (i : Nat) : (((w2.setCell ⟨B, 1, none⟩ p).setCell ⟨B, 2, none⟩ q).alloc o).frozen? ⟨b, i, none⟩ = w2.frozen? ⟨b, i, none⟩ := by
  rw [World.frozen?_alloc_old _ _ _ (by simp; omega)]; simp
theorem yset_cl {w2 : World} {B : Nat} {u h l h' l' : Int} {o : Obj} (c : Cl w2 B u h l) : Cl (((w2.setCell ⟨B, 1, none⟩ (.int .u64 h')).setCell ⟨B, 2, none⟩ (.int .u64 l')).alloc o) B u h' l' := by
  obtain ⟨c0, c1, c2, cl⟩ := c
  refine ⟨?_, ?_, ?_, by simp; omega⟩
  · rw [World.cell?_alloc_lt _ _ _ (by simp; exact cl), World.cell?_setCell_other _ _ _ _ (by simp), World.cell?_setCell_other _ _ _ _ (by simp)]; exact c0
  · rw [World.cell?_alloc_lt _ _ _ (by simp; exact cl), World.cell?_setCell_other _ _ _ _ (by simp)]; exact World.cell?_setCell_same _ _ _ c1
  · rw [World.cell?_alloc_lt _ _ _ (by simp; exact cl)]; exact World.cell?_setCell_same _ _ _ (by rw [World.cell?_setCell_other _ _ _ _ (by simp)]; exact c2)
set_option maxHeartbeats 4000000 in
set_option maxRecDepth 100000 in
theorem rang_x (v a b n : Int) (w : World) (ha : 0 ≤ a ∧ a < 18446744073709551616) (hb : 0 ≤ b ∧ b < 18446744073709551616) (hn : 0 ≤ n ∧ n < 18446744073709551616) :
    Calls Tryz.prog 5 #[.int .i64 v, .int .u64 a, .int .u64 b, .int .u64 n] w fun e w' => MadeR e ∧ Below w.heap.size w w' := by
  have HA := Lib.hid (fun w => addr_x v a b w ha hb)
  have HN := Lib.hid hn
  obtain ⟨W, hW⟩ : ∃ W, W = w.alloc (.cells #[.int .i64 0, .int .u64 0, .int .u64 0, .int .i64 0, .int .u64 0, .int .u64 0] 30) := ⟨_, rfl⟩
  have R0 : Rl W w.heap.size 0 0 0 0 0 0 := hW ▸ rl_new w _ _ _ _ _ _
  have rf : ∀ o, W.frozen? ⟨w.heap.size, o, none⟩ = false := fun o => by rw [hW]; simp [go_sem]
  have BW : Below w.heap.size w W := hW ▸ (Below.refl _ _).alloc (Nat.le_refl _) _
  clear ha hb hn
  go_enter Tryz.func5, Tryz.ntmps5
  go_wp2_with fail
  rw [← hW]
  clear hW
  refine (HA.out _).mono ?_
  rintro e w1 ⟨⟨u, x, rfl, ho, hx⟩, hb1⟩
  have R1 := R0.below hb1
  have rf1 : ∀ o, w1.frozen? ⟨w.heap.size, o, none⟩ = false := fun o => ((keepf hb1 _ R0.lt).2.1 o).trans (rf o)
  have B1 := below_next BW hb1
  have HO := Lib.hid (And.intro ho hx)
  clear ho hx R0 rf BW hb1 HA
  go_wp2_with fail
  generalize min (IntKind.u64.wrap (bits BinOp.and IntKind.i64 (v / 512) 63)).toNat 64 = m
  have hT : 0 ≤ n / 2 ^ m ∧ n / 2 ^ m < 18446744073709551616 := by
    have hp : (0 : Int) < 2 ^ m := Int.pow_pos (by decide)
    have := Int.ediv_nonneg HN.out.1 (show (0 : Int) ≤ 2 ^ m by omega)
    have := Int.ediv_le_self (2 ^ m) HN.out.1
    have := HN.out.2
    omega
  generalize n / 2 ^ m = t at hT ⊢
  refine (refAddS_x x t _ HO.out.2 hT.1 hT.2).mono ?_
  rintro e w2 ⟨rfl, hb2⟩
  have B2 := below_next (ball (ball B1)) hb2
  have R2 := ((R1.alloc _).alloc _).below hb2
  have rf2 : ∀ o, w2.frozen? ⟨w.heap.size, o, none⟩ = false := fun o => ((keepf (below_next (below2 w1 _ _) hb2) _ R1.lt).2.1 o).trans (rf1 o)
  have C2 : Cl w2 w1.heap.size u (hiQ x) (loQ x) := ((cl_new w1 _ _ _).alloc _).below hb2
  have D2 : Cl w2 (w1.heap.size + 1) u (hiQ x) (loQ x) := by
    have := (cl_new (w1.alloc (.cells #[.int .i64 u, .int .u64 (hiQ x), .int .u64 (loQ x)] 28)) u (hiQ x) (loQ x)).below hb2
    rw [World.size_alloc] at this; exact this
  have df : ∀ o, w2.frozen? ⟨w1.heap.size + 1, o, none⟩ = false := fun o => by
    rw [(keepf hb2 (w1.heap.size + 1) (by simp)).2.1 o]; simp [go_sem]
  have hT1 : addB x t.toNat = true → addR x t.toNat = x + t.toNat := fun h => if_pos (of_decide_eq_true h)
  have HT := Lib.hid (And.intro hT hT1)
  have HL := Lib.hid (addR_lt x t.toNat)
  generalize addB x t.toNat = bb at *
  generalize addR x t.toNat = y at *
  have hw1 := R1.lt
  clear hb2 R1 rf1 B1 hT hT1 HN
  have hself : Hid (MadeR (.returned (rgV u x u x))) := ⟨u, x, x, rfl, okR_of HO.out.1 HO.out.1 (Nat.le_refl _), HO.out.2, HO.out.2, by omega⟩
  have hle1 : w.heap.size ≤ w1.heap.size + 1 := by omega
  have hlt2 := R2.lt
  have R3 : Rl (((w2.setCell ⟨w1.heap.size + 1, 1, none⟩ (.int .u64 (hiQ y))).setCell ⟨w1.heap.size + 1, 2, none⟩ (.int .u64 (loQ y))).alloc (.cells #[.int .u64 (hiQ y), .int .u64 (loQ y)] 26)) w.heap.size 0 0 0 0 0 0 := by
    have k := fun i => yset_far (w2 := w2) (B := w1.heap.size + 1) (b := w.heap.size) (p := .int .u64 (hiQ y)) (q := .int .u64 (loQ y)) (o := .cells #[.int .u64 (hiQ y), .int .u64 (loQ y)] 26) (by omega) hlt2 i
    exact ⟨(k 0).trans R2.c0, (k 1).trans R2.c1, (k 2).trans R2.c2, (k 3).trans R2.c3, (k 4).trans R2.c4, (k 5).trans R2.c5, by simp; omega⟩
  have C3 : Cl (((w2.setCell ⟨w1.heap.size + 1, 1, none⟩ (.int .u64 (hiQ y))).setCell ⟨w1.heap.size + 1, 2, none⟩ (.int .u64 (loQ y))).alloc (.cells #[.int .u64 (hiQ y), .int .u64 (loQ y)] 26)) w1.heap.size u (hiQ x) (loQ x) := by
    have k := fun i => yset_far (w2 := w2) (B := w1.heap.size + 1) (b := w1.heap.size) (p := .int .u64 (hiQ y)) (q := .int .u64 (loQ y)) (o := .cells #[.int .u64 (hiQ y), .int .u64 (loQ y)] 26) (by omega) C2.lt i
    exact ⟨(k 0).trans C2.c0, (k 1).trans C2.c1, (k 2).trans C2.c2, by have := C2.lt; simp; omega⟩
  have D3 := yset_cl (h' := hiQ y) (l' := loQ y) (o := .cells #[.int .u64 (hiQ y), .int .u64 (loQ y)] 26) D2
  have rf3 := fun o => (yset_frozen (w2 := w2) (B := w1.heap.size + 1) (b := w.heap.size) (p := .int .u64 (hiQ y)) (q := .int .u64 (loQ y)) (o := .cells #[.int .u64 (hiQ y), .int .u64 (loQ y)] 26) hlt2 o).trans (rf2 o)
  have df3 := fun o => (yset_frozen (w2 := w2) (B := w1.heap.size + 1) (b := w1.heap.size + 1) (p := .int .u64 (hiQ y)) (q := .int .u64 (loQ y)) (o := .cells #[.int .u64 (hiQ y), .int .u64 (loQ y)] 26) D2.lt o).trans (df o)
  have B3 := ball (o := .cells #[.int .u64 (hiQ y), .int .u64 (loQ y)] 26) ((B2.setCell (p := ⟨w1.heap.size + 1, 1, none⟩) hle1 (.int .u64 (hiQ y))).setCell (p := ⟨w1.heap.size + 1, 2, none⟩) hle1 (.int .u64 (loQ y)))
  obtain ⟨c0, c1, c2, cl⟩ := C2
  obtain ⟨d0, d1, d2, dl⟩ := D2
  go_upto_region 5 with fail
  clear c0 c1 c2 cl d0 d1 d2 dl R2 B2 rf2 df
  generalize ((w2.setCell ⟨w1.heap.size + 1, 1, none⟩ (.int .u64 (hiQ y))).setCell ⟨w1.heap.size + 1, 2, none⟩ (.int .u64 (loQ y))).alloc (.cells #[.int .u64 (hiQ y), .int .u64 (loQ y)] 26) = V at *
  have hne1 : w1.heap.size + 1 ≠ w.heap.size := by omega
  have hne2 : w1.heap.size ≠ w.heap.size := by omega
  cases bb
  · obtain ⟨s0, s1, s2, s3, s4, s5, sl⟩ := R3
    obtain ⟨c0, c1, c2, cl⟩ := C3
    obtain ⟨d0, d1, d2, dl⟩ := D3
    clear HT HL
    go_wp2
    exact bodyPost_ret (v := rgV u x u x) (by simp [results, Tryz.results5, go_sem, *]) rfl ⟨hself.out, pset6 (aset3 B3 hle1) (Nat.le_refl _)⟩
  · have hy : Hid (y = x + t.toNat) := HT.out.2 rfl
    cases hk : okV u y
    · have HK := Lib.hid hk
      obtain ⟨c0, c1, c2, cl⟩ := id C3
      obtain ⟨d0, d1, d2, dl⟩ := id D3
      clear hk
      go_wp2_with fail
      refine (refOkA_is _ _ _ HL.out _ HK.out).mono ?_
      rintro e w5 ⟨rfl, hb5⟩
      have rf5 : ∀ o, w5.frozen? ⟨w.heap.size, o, none⟩ = false := fun o => ((keepf hb5 _ R3.lt).2.1 o).trans (rf3 o)
      have df5 : ∀ o, w5.frozen? ⟨w1.heap.size + 1, o, none⟩ = false := fun o => ((keepf hb5 _ D3.lt).2.1 o).trans (df3 o)
      have B5 := below_next B3 hb5
      obtain ⟨s0, s1, s2, s3, s4, s5, sl⟩ := R3.below hb5
      replace C3 := C3.below hb5
      replace D3 := D3.below hb5
      clear c0 c1 c2 cl d0 d1 d2 dl R3 rf3 df3 B3 hb5 HT HL HK
      obtain ⟨c0, c1, c2, cl⟩ := C3
      obtain ⟨d0, d1, d2, dl⟩ := D3
      go_wp2
      exact bodyPost_ret (v := rgV u x u x) (by simp [results, Tryz.results5, go_sem, *]) rfl ⟨hself.out, pset6 (aset3 B5 hle1) (Nat.le_refl _)⟩
    · have HK := Lib.hid hk
      have HM : Hid (MadeR (.returned (rgV u x u y))) := ⟨u, x, y, rfl, okR_of HO.out.1 hk (by rw [hy.out]; omega), HO.out.2, HL.out, by have := HT.out.1; have := hy.out; omega⟩
      obtain ⟨c0, c1, c2, cl⟩ := id C3
      obtain ⟨d0, d1, d2, dl⟩ := id D3
      clear hk
      go_wp2_with fail
      refine (refOkA_is _ _ _ HL.out _ HK.out).mono ?_
      rintro e w5 ⟨rfl, hb5⟩
      have rf5 : ∀ o, w5.frozen? ⟨w.heap.size, o, none⟩ = false := fun o => ((keepf hb5 _ R3.lt).2.1 o).trans (rf3 o)
      have B5 := below_next B3 hb5
      obtain ⟨s0, s1, s2, s3, s4, s5, sl⟩ := R3.below hb5
      replace C3 := C3.below hb5
      replace D3 := D3.below hb5
      clear c0 c1 c2 cl d0 d1 d2 dl R3 rf3 df3 B3 hb5 HT HL HK
      obtain ⟨c0, c1, c2, cl⟩ := C3
      obtain ⟨d0, d1, d2, dl⟩ := D3
      go_wp2
      exact bodyPost_ret (v := rgV u x u y) (by simp [results, Tryz.results5, go_sem, *]) rfl ⟨HM.out, pset6 B5 (Nat.le_refl _)⟩
end Go.Proofs.YtmnemjhkmllniaaGreatDoor
