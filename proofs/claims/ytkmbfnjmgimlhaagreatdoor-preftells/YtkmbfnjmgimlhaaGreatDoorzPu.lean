/- pref.Print; what Parse and Print answer in the words that the laws want. -/
import Derived.Test.YtkmbfnjmgimlhaaGreatDoorzPs
namespace Go.Proofs.YtkmbfnjmgimlhaaGreatDoor
open Go.ChangeShapes Go.WideShapes Go.RowKit Go.Sort

theorem itoa_x (n : Nat) (w : World) (hg : Gl w) (hn : n ≤ 128) :
    Calls Tryz.prog 70 #[.int .i64 n] w fun e w' => e = .returned (.string (baS (decS n))) ∧ Below w.heap.size w w' := by
  refine (Tryz.strconv_Itoa n (by omega) (by omega) w hg.p10).mono ?_
  rintro e w' ⟨rfl, k, os, rfl⟩
  refine ⟨?_, Lib.below_grow w.heap.size w (Nat.le_refl _) k os⟩
  rw [Lib.itoa_nonneg, decS_eq n (by omega)]
  rfl
set_option maxHeartbeats 2000000 in
set_option maxRecDepth 100000 in
theorem printP_x (v : Int) (x : Nat) (n : Int) (w : World) (hg : Gl w) (hx : x < 340282366920938463463374607431768211456) :
    Calls Tryz.prog 21 #[.agg #[.int .i64 v, .int .u64 (hiQ x), .int .u64 (loQ x), .int .i64 n]] w fun e w' => e = .returned (.string (baS (tellP v x n))) ∧ Below w.heap.size w w' := by
  have HX := Lib.hid hx
  have HG := Lib.hid hg
  obtain ⟨W, hW⟩ : ∃ W, W = w.alloc (.cells #[.int .i64 v, .int .u64 (hiQ x), .int .u64 (loQ x), .int .i64 n] 30) := ⟨_, rfl⟩
  have P0 : Pl W w.heap.size v (hiQ x) (loQ x) n := hW ▸ pl_new w _ _ _ _
  have BW : Below w.heap.size w W := by rw [hW]; exact (Below.refl _ _).alloc (Nat.le_refl _) _
  clear hx hg
  cases ho : okP v x n
  · have HO := Lib.hid ho
    rw [show tellP v x n = [] by simp [tellP, ho]]
    clear ho
    go_enter Tryz.func21, Tryz.ntmps21
    go_wp2_with fail
    rw [← hW]
    clear hW
    refine (okPref_is _ _ _ _ HX.out _ HO.out).mono ?_
    rintro e w1 ⟨rfl, hb1⟩
    go_wp2
    go_ret
    exact ⟨rfl, below_next BW hb1⟩
  · have HO := Lib.hid ho
    obtain ⟨k, hk, rfl⟩ : ∃ k : Nat, k ≤ 128 ∧ n = k := by have := okP_is ho; have := okP_lt ho; exact ⟨n.toNat, by omega, by omega⟩
    have ht : tellP v x k = tellV v x ++ [47] ++ decS k := by simp [tellP, ho]
    have hl := tellV_len v x
    have hdl := (decS_len k).2
    have HPr : Hid (∀ w, Gl w → Calls Tryz.prog 69 #[.agg #[.int .i64 v, .int .u64 (hiQ x), .int .u64 (loQ x)]] w fun e w' => e = .returned (.string (baS (tellV v x))) ∧ Below w.heap.size w w') := fun w hg => print_x v x w hg HX.out
    have HIt := Lib.hid (fun w hg => itoa_x k w hg hk)
    rw [ht]
    generalize tellV v x = T at *
    generalize decS k = D at *
    have hadd1 : ∀ V, (Op.stringOp .add (baS T) ⟨#[47]⟩).run Tryz.prog V = .ok (.string (baS (T ++ [47]))) V := addS T [47] (by omega) (by decide)
    have hadd2 := addS (T ++ [47]) D (by simp; omega) (by omega)
    generalize T ++ [47] = T1 at *
    generalize T1 ++ D = T2 at *
    clear ho hl hdl ht
    go_enter Tryz.func21, Tryz.ntmps21
    go_wp2_with fail
    rw [← hW]
    clear hW
    refine (okPref_is _ _ _ _ HX.out _ HO.out).mono ?_
    rintro e V ⟨rfl, hb1⟩
    have B1 := below_next BW hb1
    have G1 := Lib.hid (HG.out.below B1)
    have P1 := P0.below hb1
    have a0 := cell_regrown P1.c0; have a1 := cell_regrown P1.c1; have a2 := cell_regrown P1.c2; have a3 := cell_regrown P1.c3
    clear hb1 P0 P1 BW
    go_wp2_with fail
    refine wp_region_quiet_below (by kernel_rfl) (by kernel_rfl) ?_
    repeat (go_big_quiet_step (first
      | (go_at_call 69; exact Calls.regrown_of (HPr.out _ (G1.out.below (below_regrown V _ _))))
      | (go_at_call 70; exact Calls.regrown_of (HIt.out _ (G1.out.below (below_regrown V _ _))))))
    refine wpQuiet_nil ?_
    intro _ hw'
    obtain ⟨⟨dq, osq⟩, hw''⟩ := hw'
    subst hw''
    go_wp2
    go_ret
    exact ⟨rfl, below_next B1 (below_regrown V dq osq)⟩
theorem printP_is (v : Int) (x : Nat) (n : Int) (w : World) (hg : Gl w) (hx : x < 340282366920938463463374607431768211456) (s : ByteArray) (h : baS (tellP v x n) = s) :
    Calls Tryz.prog 21 #[.agg #[.int .i64 v, .int .u64 (hiQ x), .int .u64 (loQ x), .int .i64 n]] w fun e w' => e = .returned (.string s) ∧ Below w.heap.size w w' := h ▸ printP_x v x n w hg hx
theorem parseP_some (s : ByteArray) (v x n : Nat) (w : World) (hg : Gl w) (hs : s.size < 4294967281) (h : prefV s.data.toList = some (v, x, n)) :
    Calls Tryz.prog 14 #[.string s] w fun e w' => e = .returned (.tuple #[.agg #[.int .i64 v, .int .u64 (hiQ x), .int .u64 (loQ x), .int .i64 n], .bool true]) ∧ Below w.heap.size w w' := by
  have := parseP_x s w hg hs; rw [h] at this; exact this
theorem parseP_none (s : ByteArray) (w : World) (hg : Gl w) (hs : s.size < 4294967281) (h : prefV s.data.toList = none) :
    Calls Tryz.prog 14 #[.string s] w fun e w' => e = .returned (.tuple #[.agg #[.int .i64 0, .int .u64 0, .int .u64 0, .int .i64 0], .bool false]) ∧ Below w.heap.size w w' := by
  have := parseP_x s w hg hs; rw [h] at this; exact this
theorem of_yes (x : Nat) (n : Nat) (w : World) (ht : TabOk w) (hx : x < 4294967296) (hn : n ≤ 32) :
    Calls Tryz.prog 19 #[.agg #[.int .i64 4, .int .u64 (hiQ x), .int .u64 (loQ x)], .agg #[.int .i64 4, .int .u64 (hiQ (nmX n)), .int .u64 (loQ (nmX n))]] w fun e w' => e = .returned (.tuple #[.agg #[.int .i64 4, .int .u64 (hiQ (cutK (32 - n) x)), .int .u64 (loQ (cutK (32 - n) x)), .int .i64 n], .bool true]) ∧ Below w.heap.size w w' := by
  have h := of_x 4 x 4 (nmX n) w ht (by omega) (by have := nmX_lt n; omega)
  have e := ofN_nmX n hn
  rw [ofR, if_pos (by unfold ofB; rw [e]; exact decide_eq_true ⟨rfl, hx, rfl, rfl⟩), e] at h
  exact h
theorem of_no (v : Int) (x : Nat) (u : Int) (y : Nat) (w : World) (ht : TabOk w) (hx : x < 340282366920938463463374607431768211456) (hy : y < 340282366920938463463374607431768211456) (hb : ofB v x u y = false) :
    Calls Tryz.prog 19 #[.agg #[.int .i64 v, .int .u64 (hiQ x), .int .u64 (loQ x)], .agg #[.int .i64 u, .int .u64 (hiQ y), .int .u64 (loQ y)]] w fun e w' => e = .returned (.tuple #[.agg #[.int .i64 0, .int .u64 0, .int .u64 0, .int .i64 0], .bool false]) ∧ Below w.heap.size w w' := by
  have h := of_x v x u y w ht hx hy
  rw [ofR, if_neg (by simp [hb])] at h
  exact h
end Go.Proofs.YtkmbfnjmgimlhaaGreatDoor
