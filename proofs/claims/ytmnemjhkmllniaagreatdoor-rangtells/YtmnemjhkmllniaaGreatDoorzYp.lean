/- The checker's own reading of a prefix, out of its reading of an address. -/
import Derived.Test.YtmnemjhkmllniaaGreatDoorzGp
import Derived.Test.YtmnemjhkmllniaaGreatDoorzYg
import Derived.Test.YtmnemjhkmllniaaGreatDoorzRt
import Derived.Test.YtmnemjhkmllniaaGreatDoorzLx
namespace Go.Proofs.YtmnemjhkmllniaaGreatDoor
open Go.ChangeShapes Go.WideShapes Go.RowKit Go.Sort

def nN (r : Option Nat) : Nat := match r with
  | some n => n
  | none => 0
theorem numR_parts (r : Option Nat) : numR r = .tuple #[.int .u64 (nN r), .bool r.isSome] := by
  cases r with
  | none => rfl
  | some p => rfl
theorem decM_le : ∀ (l : Bs) (M acc n : Nat), acc ≤ M → decM M acc l = some n → n ≤ M
  | [], M, acc, n, h, e => by simp [decM] at e; omega
  | c :: r, M, acc, n, h, e => by
    unfold decM at e
    split at e
    · split at e
      · cases e
      · exact decM_le r M _ n (by omega) e
    · cases e
theorem numV_le {M n : Nat} {l : Bs} (h : numV M l = some n) : n ≤ M := by
  unfold numV at h
  split at h
  · cases h
  · exact decM_le l M 0 n (Nat.zero_le _) h
theorem nN_le (l : Bs) : nN (numV 128 l) ≤ 128 := by
  cases h : numV 128 l with
  | none => exact Nat.zero_le _
  | some n => exact numV_le h
theorem pX_lt (s : Bs) : pX (rparse s) < 340282366920938463463374607431768211456 := by
  rw [rparse_is]
  cases h : parseV s with
  | none => exact (by decide : 0 < 340282366920938463463374607431768211456)
  | some p => exact (parseV_ok (x := p.2) h).2.1
theorem prefR_parts (a : Option (Nat × Nat)) (b : Option Nat) : prefR (prefM a b) = if a.isSome = true ∧ b.isSome = true ∧ okP (pV a) (pX a) (nN b) = true then .tuple #[.agg #[.int .i64 (pV a), .int .u64 (hiQ (pX a)), .int .u64 (loQ (pX a)), .int .i64 (nN b)], .bool true] else .tuple #[.agg #[.int .i64 0, .int .u64 0, .int .u64 0, .int .i64 0], .bool false] := by
  cases a with
  | none => rfl
  | some p =>
    cases b with
    | none => simp [prefM, prefR]
    | some n =>
      by_cases h : okP p.1 p.2 n = true
      · simp [prefM, prefR, pV, pX, nN, h]
      · simp [prefM, prefR, pV, pX, nN, h]
set_option maxHeartbeats 2000000 in
set_option maxRecDepth 100000 in
theorem refPrefix_of (p t : Bs) (w : World) (hl : (p ++ 47 :: t).length < 4294967281) (ht : ∀ c ∈ t, c ≠ 47)
    (hP : ∀ w, Calls Tryz.prog 35 #[.string (baS p)] w fun e w' => e = .returned (parseR (rparse p)) ∧ Below w.heap.size w w') :
    Calls Tryz.prog 22 #[.string (baS (p ++ 47 :: t))] w fun e w' => e = .returned (prefR (prefV (p ++ 47 :: t))) ∧ Below w.heap.size w w' := by
  have HLast := Lib.hid (fun w => last_p (p ++ 47 :: t) w p.length hl (Or.inl ⟨p, t, rfl, ht, rfl⟩))
  have htl : t.length < 4294967281 := by simp at hl; omega
  have HNum : Hid (∀ w, Calls Tryz.prog 50 #[.string (baS t), .int .u64 128] w fun e w' => e = .returned (.tuple #[.int .u64 (nN (numV 128 t)), .bool (numV 128 t).isSome]) ∧ w' = w) := fun w => by
    rw [← numR_parts]; exact num_x t 128 w htl (by decide)
  have HPar : Hid (∀ w, Calls Tryz.prog 35 #[.string (baS p)] w fun e w' => e = .returned (.tuple #[.agg #[.int .i64 (pV (rparse p)), .int .u64 (hiQ (pX (rparse p))), .int .u64 (loQ (pX (rparse p)))], .bool (rparse p).isSome]) ∧ Below w.heap.size w w') := fun w => by
    rw [← parseR_parts]; exact hP w
  have hs1 : ∀ V, (Instr.slice 9 (.string (baS (p ++ 47 :: t))) none (some (.int .i64 (p.length : Int))) none).run Tryz.prog V = .ok (.string (baS p)) V := fun V => by
    have := sliceTo (p ++ 47 :: t) p.length (by simp) V
    rw [List.take_left] at this; exact this
  have hs2 : ∀ V, (Instr.slice 9 (.string (baS (p ++ 47 :: t))) (some (.int .i64 ((p.length : Int) + 1))) none none).run Tryz.prog V = .ok (.string (baS t)) V := fun V => by
    have := sliceFrom (p ++ 47 :: t) (p.length + 1) (by simp) V
    rw [show ((p.length + 1 : Nat) : Int) = (p.length : Int) + 1 by omega, show (p ++ 47 :: t).drop (p.length + 1) = t by rw [List.drop_append]; simp] at this
    exact this
  have hw1 : IntKind.i64.wrap ((p.length : Int) + 1) = (p.length : Int) + 1 := by rw [IntKind.wrap_i64]; simp at hl; omega
  have hX := pX_lt p
  have hN := nN_le t
  rw [← rpref_is, prefR_parts]
  have hc0 : (p.length : Int) = ((p.length : Nat) : Int) := rfl
  generalize p ++ 47 :: t = l at *
  generalize p.length = k at *
  generalize rparse p = a at *
  generalize numV 128 t = b at *
  have HS2 := Lib.hid hs2
  have HW1 := Lib.hid hw1
  have HX := Lib.hid hX
  generalize pV a = v at *
  generalize pX a = x at *
  generalize a.isSome = ab at *
  generalize nN b = n at *
  generalize b.isSome = bb at *
  have HNC : Hid (IntKind.i64.wrap (n : Int) = n) := by show _ = _; rw [IntKind.wrap_i64]; omega
  obtain ⟨Q, hQ⟩ : ∃ Q, (if ab = true ∧ bb = true ∧ okP v x n = true then Value.tuple #[.agg #[.int .i64 v, .int .u64 (hiQ x), .int .u64 (loQ x), .int .i64 n], .bool true] else .tuple #[.agg #[.int .i64 0, .int .u64 0, .int .u64 0, .int .i64 0], .bool false]) = Q := ⟨_, rfl⟩
  have HQ := Lib.hid hQ
  rw [hQ]
  clear hl ht hP hs2 hw1 hX hN htl hc0 hQ
  obtain ⟨W, hW⟩ : ∃ W, W = w.alloc (.cells #[.int .i64 0, .int .u64 0, .int .u64 0, .int .i64 0] 34) := ⟨_, rfl⟩
  have P0 : Pl W w.heap.size 0 0 0 0 := hW ▸ pl_new w _ _ _ _
  have rf : ∀ o, W.frozen? ⟨w.heap.size, o, none⟩ = false := fun o => by rw [hW]; simp [go_sem]
  have BW : Below w.heap.size w W := hW ▸ (Below.refl _ _).alloc (Nat.le_refl _) _
  have hk0 : ¬ ((k : Int) < 0) := by omega
  go_enter Tryz.func22, Tryz.ntmps22
  go_wp2_with fail
  rw [← hW]
  clear hW
  refine (HLast.out _).mono ?_
  rintro e w1 ⟨rfl, rfl⟩
  go_wp2_with fail
  refine (HPar.out _).mono ?_
  rintro e w2 ⟨rfl, hb2⟩
  have P2 := P0.below hb2
  have rf2 : ∀ o, w2.frozen? ⟨w.heap.size, o, none⟩ = false := fun o => ((keepf hb2 _ P0.lt).2.1 o).trans (rf o)
  have B2 := below_next BW hb2
  have hs2 := HS2.out
  have hw1 := HW1.out
  clear hs1 P0 rf BW hb2 HLast HPar hk0
  go_wp2_with fail
  refine (HNum.out _).mono ?_
  rintro e w3 ⟨rfl, rfl⟩
  clear hs2 hw1 HS2 HW1 HNum
  have C3 := cl_new w2 v (hiQ x) (loQ x)
  have P3 := P2.alloc (.cells #[.int .i64 v, .int .u64 (hiQ x), .int .u64 (loQ x)] 28)
  have rf3 : ∀ o, (w2.alloc (.cells #[.int .i64 v, .int .u64 (hiQ x), .int .u64 (loQ x)] 28)).frozen? ⟨w.heap.size, o, none⟩ = false := fun o => ((keepf ((Below.refl _ _).alloc (Nat.le_refl _) _) w.heap.size P2.lt).2.1 o).trans (rf2 o)
  have B3 := ball (o := .cells #[.int .i64 v, .int .u64 (hiQ x), .int .u64 (loQ x)] 28) B2
  clear P2 rf2 B2
  generalize w2.alloc (.cells #[.int .i64 v, .int .u64 (hiQ x), .int .u64 (loQ x)] 28) = V at *
  generalize w2.heap.size = D at *
  obtain ⟨c0, c1, c2, cl⟩ := C3
  have hnc := HNC.out
  have NV := pl_new V v (hiQ x) (loQ x) n
  have PV := P3.alloc (.cells #[.int .i64 v, .int .u64 (hiQ x), .int .u64 (loQ x), .int .i64 n] 34)
  have rfV : ∀ o, (V.alloc (.cells #[.int .i64 v, .int .u64 (hiQ x), .int .u64 (loQ x), .int .i64 n] 34)).frozen? ⟨w.heap.size, o, none⟩ = false := fun o => ((keepf ((Below.refl _ _).alloc (Nat.le_refl _) _) w.heap.size P3.lt).2.1 o).trans (rf3 o)
  have BV := ball (o := .cells #[.int .i64 v, .int .u64 (hiQ x), .int .u64 (loQ x), .int .i64 n] 34) B3
  have hlV : V.heap.size ≠ w.heap.size := Nat.ne_of_gt P3.lt
  go_upto_region 7 with fail
  clear c0 c1 c2 cl P3 rf3 B3 hnc HNC
  generalize V.alloc (.cells #[.int .i64 v, .int .u64 (hiQ x), .int .u64 (loQ x), .int .i64 n] 34) = U at *
  generalize V.heap.size = E at *
  cases ab
  · have HF : Hid (Q = .tuple #[.agg #[.int .i64 0, .int .u64 0, .int .u64 0, .int .i64 0], .bool false]) := by show _ = _; rw [← HQ.out]; simp
    obtain ⟨s0, s1, s2, s3, sl⟩ := PV
    clear HQ NV
    go_wp2
    exact bodyPost_ret (v := .tuple #[.agg #[.int .i64 0, .int .u64 0, .int .u64 0, .int .i64 0], .bool false]) (by simp [results, Tryz.results22, go_sem, *]) rfl ⟨by rw [HF.out], pset4 BV (Nat.le_refl _)⟩
  · cases bb
    · have HF : Hid (Q = .tuple #[.agg #[.int .i64 0, .int .u64 0, .int .u64 0, .int .i64 0], .bool false]) := by show _ = _; rw [← HQ.out]; simp
      obtain ⟨s0, s1, s2, s3, sl⟩ := PV
      clear HQ NV
      go_wp2
      exact bodyPost_ret (v := .tuple #[.agg #[.int .i64 0, .int .u64 0, .int .u64 0, .int .i64 0], .bool false]) (by simp [results, Tryz.results22, go_sem, *]) rfl ⟨by rw [HF.out], pset4 BV (Nat.le_refl _)⟩
    · cases ho : okP v x n
      · have HO := Lib.hid ho
        have HF : Hid (Q = .tuple #[.agg #[.int .i64 0, .int .u64 0, .int .u64 0, .int .i64 0], .bool false]) := by show _ = _; rw [← HQ.out, ho]; simp
        obtain ⟨n0, n1, n2, n3, nl⟩ := id NV
        clear HQ ho
        go_wp2_with fail
        refine (refOkP_is _ _ _ _ HX.out _ HO.out).mono ?_
        rintro e w5 ⟨rfl, hb5⟩
        obtain ⟨s0, s1, s2, s3, sl⟩ := PV.below hb5
        have rf5 : ∀ o, w5.frozen? ⟨w.heap.size, o, none⟩ = false := fun o => ((keepf hb5 _ PV.lt).2.1 o).trans (rfV o)
        have B5 := below_next BV hb5
        clear n0 n1 n2 n3 nl NV PV rfV BV hb5
        go_wp2
        exact bodyPost_ret (v := .tuple #[.agg #[.int .i64 0, .int .u64 0, .int .u64 0, .int .i64 0], .bool false]) (by simp [results, Tryz.results22, go_sem, *]) rfl ⟨by rw [HF.out], pset4 B5 (Nat.le_refl _)⟩
      · have HO := Lib.hid ho
        have HF : Hid (Q = .tuple #[.agg #[.int .i64 v, .int .u64 (hiQ x), .int .u64 (loQ x), .int .i64 n], .bool true]) := by show _ = _; rw [← HQ.out, ho]; simp
        obtain ⟨n0, n1, n2, n3, nl⟩ := id NV
        clear HQ ho
        go_wp2_with fail
        refine (refOkP_is _ _ _ _ HX.out _ HO.out).mono ?_
        rintro e w5 ⟨rfl, hb5⟩
        obtain ⟨s0, s1, s2, s3, sl⟩ := PV.below hb5
        replace NV := NV.below hb5
        have rf5 : ∀ o, w5.frozen? ⟨w.heap.size, o, none⟩ = false := fun o => ((keepf hb5 _ PV.lt).2.1 o).trans (rfV o)
        have B5 := below_next BV hb5
        clear n0 n1 n2 n3 nl PV rfV BV hb5
        obtain ⟨n0, n1, n2, n3, nl⟩ := NV
        go_wp2
        exact bodyPost_ret (v := .tuple #[.agg #[.int .i64 v, .int .u64 (hiQ x), .int .u64 (loQ x), .int .i64 n], .bool true]) (by simp [results, Tryz.results22, go_sem, *]) rfl ⟨by rw [HF.out], pset4 B5 (Nat.le_refl _)⟩
set_option maxHeartbeats 2000000 in
set_option maxRecDepth 100000 in
theorem refPrefix_no (l : Bs) (w : World) (hl : l.length < 4294967281) (ht : ∀ c ∈ l, c ≠ 47) :
    Calls Tryz.prog 22 #[.string (baS l)] w fun e w' => e = .returned (prefR (prefV l)) ∧ Below w.heap.size w w' := by
  have HLast := Lib.hid (fun w => last_p l w (-1) hl (Or.inr ⟨ht, rfl⟩))
  rw [rpref_none l ht]
  clear hl ht
  go_enter Tryz.func22, Tryz.ntmps22
  go_wp2_with fail
  refine (HLast.out _).mono ?_
  rintro e w1 ⟨rfl, rfl⟩
  go_wp2
  exact bodyPost_ret (v := .tuple #[.agg #[.int .i64 0, .int .u64 0, .int .u64 0, .int .i64 0], .bool false]) (by simp [results, Tryz.results22, go_sem]) rfl ⟨rfl, (Below.refl _ _).alloc (Nat.le_refl _) _⟩
set_option maxHeartbeats 2000000 in
set_option maxRecDepth 100000 in
/-- Four numbers. -/
theorem refParse_four (l : Bs) (n : Nat) (w : World) (hl : l.length ≤ 100000) (h : rfour l = some n) :
    Calls Tryz.prog 35 #[.string (baS l)] w fun e w' => e = .returned (parseR (rparse l)) ∧ Below w.heap.size w w' := by
  have H4 := Lib.hid (fun w => fourE_x l w hl)
  have hn : n < 4294967296 := by rw [rfour_is] at h; exact fourV_lt h
  rw [show rparse l = some (4, n) by unfold rparse; rw [h]]
  rw [h] at H4
  have HR : Hid (parseR (some (4, n)) = .tuple #[.agg #[.int .i64 4, .int .u64 0, .int .u64 n], .bool true]) := by show _ = _; simp only [parseR]; rw [hiQ_small hn, loQ_small hn]; rfl
  clear h hn hl
  go_enter Tryz.func35, Tryz.ntmps35
  go_wp2_with fail
  refine (H4.out _).mono ?_
  rintro e w1 ⟨rfl, hb1⟩
  simp only [numR]
  obtain ⟨k1, f1, l1⟩ := keepf hb1 w.heap.size (by simp)
  have c0 : w1.cell? ⟨w.heap.size, 0, none⟩ = some (.int .i64 0) := by rw [k1]; simp [go_sem]
  have c1 : w1.cell? ⟨w.heap.size, 1, none⟩ = some (.int .u64 0) := by rw [k1]; simp [go_sem]
  have c2 : w1.cell? ⟨w.heap.size, 2, none⟩ = some (.int .u64 0) := by rw [k1]; simp [go_sem]
  have cf : ∀ o, w1.frozen? ⟨w.heap.size, o, none⟩ = false := fun o => by rw [f1]; simp [go_sem]
  have B1 := below_next ((Below.refl _ _).alloc (Nat.le_refl _) _) hb1
  clear k1 f1 hb1 H4
  go_wp2
  exact bodyPost_ret (v := .tuple #[.agg #[.int .i64 4, .int .u64 0, .int .u64 n], .bool true]) (by simp [results, Tryz.results35, go_sem, *]) rfl ⟨by rw [HR.out], aset3 B1 (Nat.le_refl _)⟩
end Go.Proofs.YtmnemjhkmllniaaGreatDoor
