/- addr.printSix and addr.Print: every address is told in its one form. -/
import Derived.Test.YtmnemjhkmllniaaGreatDoorzTg
import Derived.Test.YtmnemjhkmllniaaGreatDoorzTs
import Derived.Test.YtmnemjhkmllniaaGreatDoorzAa
namespace Go.Proofs.YtmnemjhkmllniaaGreatDoor
open Go.ChangeShapes Go.WideShapes Go.RowKit Go.Sort

theorem groupsT_is (a : Option Addr) (c n : Nat) (l : List Nat) (w : World) (hg : Gl w) (hl : ∀ x ∈ l, x < 65536) (h8 : l.length ≤ 8) (hr : RowAt w a l) (hn : l.length = n) :
    Calls Tryz.prog 86 #[.slice a n c] w fun e w' => e = .returned (.string ⟨(tellGroups l).toArray⟩) ∧ Below w.heap.size w w' := hn ▸ groupsT_x a c l w hg hl h8 hr
theorem groupsT_to (a : Option Addr) (c n : Nat) (l : List Nat) (w : World) (hg : Gl w) (hl : ∀ x ∈ l, x < 65536) (h8 : l.length ≤ 8) (hr : RowAt w a l) (hn : l.length = n) (A : Bs) (hA : tellGroups l = A) :
    Calls Tryz.prog 86 #[.slice a n c] w fun e w' => e = .returned (.string (baS A)) ∧ Below w.heap.size w w' := hA ▸ groupsT_is a c n l w hg hl h8 hr hn
theorem addS (x y : Bs) (hx : x.length ≤ 8388608) (hy : y.length ≤ 8388608) (V : World) : (Op.stringOp .add (baS x) (baS y)).run Tryz.prog V = .ok (.string (baS (x ++ y))) V :=
  run_string_add_lists V x y (by omega) (by omega)
theorem rowAt_drop {w : World} {H t : Nat} {l : List Nat} (h : RowAt w (some ⟨H, 0, none⟩) l) (off : Nat) (ho : t < l.length → off = t) : RowAt w (some ⟨H, off, none⟩) (l.drop t) := fun j x hj => by
  rw [List.getElem?_drop] at hj
  obtain ⟨g, o, e, hg, hc⟩ := h (t + j) x hj
  have hlt := (List.getElem?_eq_some_iff.1 hj).1
  injection e with e
  injection e with e1 e2
  subst e1 e2
  exact ⟨H, off, rfl, hg, by rw [ho (by omega)]; rw [Nat.zero_add] at hc; exact hc⟩
theorem rowAt_take {w : World} {H f : Nat} {l : List Nat} (h : RowAt w (some ⟨H, 0, none⟩) l) : RowAt w (some ⟨H, 0, none⟩) (l.take f) := fun j x hj => by
  by_cases hjf : j < f
  · rw [List.getElem?_take_of_lt hjf] at hj; exact h j x hj
  · rw [List.getElem?_eq_none (by simp; omega)] at hj; cases hj
set_option maxHeartbeats 4000000 in
set_option maxRecDepth 100000 in
theorem sixT_x (a0 a1 a2 a3 a4 a5 a6 a7 : Nat) (w : World) (hg : Gl w) (hl : ∀ x ∈ [a0, a1, a2, a3, a4, a5, a6, a7], x < 65536) :
    Calls Tryz.prog 63 #[.agg #[.int .u64 (a0 : Int), .int .u64 (a1 : Int), .int .u64 (a2 : Int), .int .u64 (a3 : Int), .int .u64 (a4 : Int), .int .u64 (a5 : Int), .int .u64 (a6 : Int), .int .u64 (a7 : Int)]] w fun e w' => e = .returned (.string ⟨(tellSix [a0, a1, a2, a3, a4, a5, a6, a7]).toArray⟩) ∧ Below w.heap.size w w' := by
  obtain ⟨l, hL⟩ : ∃ l, l = [a0, a1, a2, a3, a4, a5, a6, a7] := ⟨_, rfl⟩
  have HL : Hid (l = [a0, a1, a2, a3, a4, a5, a6, a7]) := hL
  have H8 : Hid (l.length = 8) := by rw [hL]; rfl
  have HX : Hid (∀ x ∈ l, x < 65536) := by rw [hL]; exact hl
  have hlo := longest_x a0 a1 a2 a3 a4 a5 a6 a7
  have hall := longest_all l
  have ht : tellSix [a0, a1, a2, a3, a4, a5, a6, a7] = tellSix l := by rw [hL]
  rw [ht]
  rw [← hL] at hlo
  have hts : tellSix l = if (longest 0 0 0 0 l).2 - (longest 0 0 0 0 l).1 < 2 then tellGroups l else tellGroups (l.take (longest 0 0 0 0 l).1) ++ ([58, 58] ++ tellGroups (l.drop (longest 0 0 0 0 l).2)) := rfl
  generalize (longest 0 0 0 0 l).1 = f at hlo hall hts
  generalize (longest 0 0 0 0 l).2 = t at hlo hall hts
  obtain ⟨hft, ht8, _⟩ := hall
  rw [H8.out] at ht8
  have HLO := Lib.hid hlo
  have HT := Lib.hid hts
  obtain ⟨W, hW⟩ : ∃ W, W = w.alloc (.cells #[.int .u64 (a0 : Int), .int .u64 (a1 : Int), .int .u64 (a2 : Int), .int .u64 (a3 : Int), .int .u64 (a4 : Int), .int .u64 (a5 : Int), .int .u64 (a6 : Int), .int .u64 (a7 : Int)] 89) := ⟨_, rfl⟩
  have HG : Hid (Gl W) := hW ▸ hg.alloc _
  have B : Below w.heap.size w W := hW ▸ (Below.refl _ _).alloc (Nat.le_refl _) _
  have hWs : w.heap.size < W.heap.size := by rw [hW]; simp
  have HR : Hid (RowAt W (some ⟨w.heap.size, 0, none⟩) l) := by
    intro j x hj
    rw [HL.out] at hj
    refine ⟨w.heap.size, 0, rfl, hWs, ?_⟩
    have hlt := (List.getElem?_eq_some_iff.1 hj).1
    rw [hW]
    rcases (show j = 0 ∨ j = 1 ∨ j = 2 ∨ j = 3 ∨ j = 4 ∨ j = 5 ∨ j = 6 ∨ j = 7 by simp at hlt; omega) with rfl | rfl | rfl | rfl | rfl | rfl | rfl | rfl <;> (simp at hj; subst hj; simp [go_sem])
  have hal : Tryz.prog.arrayLen 89 = 8 := by kernel_rfl
  have hs0 : ∀ V, (Instr.sliceAt 89 (.pointer (some ⟨w.heap.size, 0, none⟩)) none none none).run Tryz.prog V = .ok (.slice (some ⟨w.heap.size, 0, none⟩) 8 8) V := fun V => by
    rw [run_sliceAt_array_all V 89 ⟨w.heap.size, 0, none⟩ (by kernel_rfl)]
    go_simp
  have hs1 : ∀ V, (Instr.sliceAt 89 (.pointer (some ⟨w.heap.size, 0, none⟩)) none (some (.int .i64 (f : Int))) none).run Tryz.prog V = .ok (.slice (some ⟨w.heap.size, 0, none⟩) f 8) V := fun V => by
    rw [run_sliceAt_array_h V 89 ⟨w.heap.size, 0, none⟩ (by kernel_rfl) .i64 (f : Int) (by omega) (by rw [hal]; omega)]
    go_simp
  obtain ⟨off, hoff⟩ : ∃ off, off = if t = 8 then 0 else t := ⟨_, rfl⟩
  have hs2 : ∀ V, (Instr.sliceAt 89 (.pointer (some ⟨w.heap.size, 0, none⟩)) (some (.int .i64 (t : Int))) none none).run Tryz.prog V = .ok (.slice (some ⟨w.heap.size, off, none⟩) (8 - t) (8 - t)) V := fun V => by
    rw [run_sliceAt_array_l V 89 ⟨w.heap.size, 0, none⟩ (by kernel_rfl) .i64 (t : Int) (by omega) (by rw [hal]; omega)]
    by_cases h8 : t = 8
    · subst h8; rw [hoff]; go_simp
    · rw [hoff, if_neg h8]; go_simp
      try omega
  have HO : Hid (t < l.length → off = t) := by rw [H8.out]; intro h; rw [hoff, if_neg (by omega)]
  have HD0 := Lib.hid hs0
  have HD1 := Lib.hid hs1
  have HD2 := Lib.hid hs2
  clear hal hg hl ht hL hlo hts hoff hs0 hs1 hs2
  have hft' : (f : Int) ≤ t := by omega
  have ht8' : (t : Int) ≤ 8 := by omega
  by_cases h2 : t - f < 2
  · have h2' : (t : Int) - f < 2 := by omega
    have HF : Hid (tellSix l = tellGroups l) := by have := HT.out; rwa [if_pos h2] at this
    have hs0 := HD0.out
    clear h2 HT
    go_enter Tryz.func63, Tryz.ntmps63
    go_wp2_with fail
    rw [← hW]
    clear hW
    refine (HLO.out W).mono ?_
    rintro e w1 ⟨rfl, hb1⟩
    go_wp2_with fail
    refine (groupsT_is (some ⟨w.heap.size, 0, none⟩) 8 8 l w1 (HG.out.below hb1) HX.out (by rw [H8.out]; exact Nat.le_refl _) (HR.out.below hb1) H8.out).mono ?_
    rintro e w2 ⟨rfl, hb2⟩
    go_wp2
    go_ret
    exact ⟨by rw [HF.out]; rfl, below_next (below_next B hb1) hb2⟩
  · have h2' : ¬ (t : Int) - f < 2 := by omega
    have HF : Hid (tellSix l = tellGroups (l.take f) ++ ([58, 58] ++ tellGroups (l.drop t))) := by have := HT.out; rwa [if_neg h2] at this
    clear h2 HT
    obtain ⟨A, hA⟩ : ∃ A, tellGroups (l.take f) = A := ⟨_, rfl⟩
    obtain ⟨C, hC⟩ : ∃ C, tellGroups (l.drop t) = C := ⟨_, rfl⟩
    have lA : A.length ≤ 40 := by rw [← hA]; have := tellGroups_len (l.take f); have := H8.out; simp at *; omega
    have lC : C.length ≤ 40 := by rw [← hC]; have := tellGroups_len (l.drop t); have := H8.out; simp at *; omega
    have HA := Lib.hid hA
    have HC := Lib.hid hC
    have hadd1 : ∀ V, (Op.stringOp .add (baS A) ⟨#[58, 58]⟩).run Tryz.prog V = .ok (.string (baS (A ++ [58, 58]))) V := addS A [58, 58] (by omega) (by decide)
    obtain ⟨D, hD⟩ : ∃ D, A ++ [58, 58] = D := ⟨_, rfl⟩
    rw [hD] at hadd1
    have hadd2 : ∀ V, (Op.stringOp .add (baS D) (baS C)).run Tryz.prog V = .ok (.string (baS (D ++ C))) V := addS D C (by rw [← hD]; simp; omega) (by omega)
    obtain ⟨E, hE⟩ : ∃ E, D ++ C = E := ⟨_, rfl⟩
    rw [hE] at hadd2
    have HF2 : Hid (tellSix l = E) := by rw [HF.out, hA, hC, ← hE, ← hD, List.append_assoc]; rfl
    clear hA hC hD hE lA lC HF
    go_enter Tryz.func63, Tryz.ntmps63
    go_wp2_with fail
    rw [← hW]
    clear hW
    refine (HLO.out W).mono ?_
    rintro e w1 ⟨rfl, hb1⟩
    have G1 := HG.out.below hb1
    have R1 := HR.out.below hb1
    have B1 := below_next B hb1
    have hs1 := HD1.out
    have hs2 := HD2.out
    go_wp2_with fail
    refine wp_region_quiet_below (by kernel_rfl) (by kernel_rfl) ?_
    repeat (go_big_quiet_step (fail))
    go_big_quiet_step ((go_at_call 86; exact Calls.regrown_of (groupsT_to (some ⟨w.heap.size, 0, none⟩) 8 f (l.take f) _ (G1.below (below_regrown w1 _ _)) (fun x hx => HX.out x (List.mem_of_mem_take hx)) (by have := H8.out; simp; omega) (rowAt_take (R1.below (below_regrown w1 _ _))) (by have := H8.out; simp; omega) A HA.out)))
    repeat (go_big_quiet_step (fail))
    go_big_quiet_step ((go_at_call 86; exact Calls.regrown_of (groupsT_to (some ⟨w.heap.size, off, none⟩) (8 - t) (8 - t) (l.drop t) _ (G1.below (below_regrown w1 _ _)) (fun x hx => HX.out x (List.mem_of_mem_drop hx)) (by have := H8.out; simp; omega) (rowAt_drop (R1.below (below_regrown w1 _ _)) off HO.out) (by have := H8.out; simp; omega) C HC.out)))
    repeat (go_big_quiet_step (fail))
    refine wpQuiet_nil ?_
    intro _ hw'
    obtain ⟨⟨dq, osq⟩, hw''⟩ := hw'
    subst hw''
    go_wp2
    go_ret
    exact ⟨by rw [HF2.out]; rfl, below_next B1 (below_regrown w1 dq osq)⟩
set_option maxHeartbeats 2000000 in
set_option maxRecDepth 100000 in
theorem print_x (v : Int) (x : Nat) (w : World) (hg : Gl w) (hx : x < 340282366920938463463374607431768211456) :
    Calls Tryz.prog 36 #[.agg #[.int .i64 v, .int .u64 (hiQ x), .int .u64 (loQ x)]] w fun e w' => e = .returned (.string (baS (tellV v x))) ∧ Below w.heap.size w w' := by
  obtain ⟨W, hW⟩ : ∃ W, W = w.alloc (.cells #[.int .i64 v, .int .u64 (hiQ x), .int .u64 (loQ x)] 28) := ⟨_, rfl⟩
  have HG : Hid (Gl W) := hW ▸ hg.alloc _
  have B : Below w.heap.size w W := hW ▸ (Below.refl _ _).alloc (Nat.le_refl _) _
  have hWs : w.heap.size < W.heap.size := by rw [hW]; simp
  have HC : Hid (W.cell? ⟨w.heap.size, 0, none⟩ = some (.int .i64 v) ∧ W.cell? ⟨w.heap.size, 1, none⟩ = some (.int .u64 (hiQ x)) ∧ W.cell? ⟨w.heap.size, 2, none⟩ = some (.int .u64 (loQ x))) := ⟨by rw [hW]; simp [go_sem], by rw [hW]; simp [go_sem], by rw [hW]; simp [go_sem]⟩
  have HX := Lib.hid hx
  clear hg hx
  cases ho : okV v x
  · have HF : Hid (tellV v x = []) := by show tellV v x = []; unfold tellV; rw [if_pos ho]
    have HO := Lib.hid ho
    clear ho
    go_enter Tryz.func36, Tryz.ntmps36
    go_wp2_with fail
    rw [← hW]
    clear hW
    refine (ok_is _ _ _ _ HO.out).mono ?_
    rintro e w1 ⟨rfl, hb1⟩
    go_wp2
    go_ret
    exact ⟨by rw [HF.out]; rfl, below_next B hb1⟩
  · have HO := Lib.hid ho
    rcases okV_cases ho with rfl | ⟨rfl, hx4⟩
    · have HF : Hid (tellV 6 x = tellSix [gi x 0, gi x 1, gi x 2, gi x 3, gi x 4, gi x 5, gi x 6, gi x 7]) := by show tellV 6 x = _; unfold tellV; rw [if_neg (by simp [ho]), if_neg (by decide), groupsOf_gi]
      have HL : Hid (∀ y ∈ [gi x 0, gi x 1, gi x 2, gi x 3, gi x 4, gi x 5, gi x 6, gi x 7], y < 65536) := by rw [← groupsOf_gi]; exact groupsOf_lt x
      clear ho
      go_enter Tryz.func36, Tryz.ntmps36
      go_wp2_with fail
      rw [← hW]
      clear hW
      refine (ok_is _ _ _ _ HO.out).mono ?_
      rintro e w1 ⟨rfl, hb1⟩
      obtain ⟨k0, f0, l0⟩ := keepf hb1 w.heap.size hWs
      have c0 : w1.cell? ⟨w.heap.size, 0, none⟩ = some (.int .i64 6) := (k0 0).trans HC.out.1
      have c1 : w1.cell? ⟨w.heap.size, 1, none⟩ = some (.int .u64 (hiQ x)) := (k0 1).trans HC.out.2.1
      have c2 : w1.cell? ⟨w.heap.size, 2, none⟩ = some (.int .u64 (loQ x)) := (k0 2).trans HC.out.2.2
      clear k0 f0
      go_wp2_with fail
      refine (split_x x _ HX.out).mono ?_
      rintro e w2 ⟨rfl, hb2⟩
      go_wp2_with fail
      refine (sixT_x (gi x 0) (gi x 1) (gi x 2) (gi x 3) (gi x 4) (gi x 5) (gi x 6) (gi x 7) _ ((HG.out.below hb1).below hb2) HL.out).mono ?_
      rintro e w3 ⟨rfl, hb3⟩
      go_wp2
      go_ret
      exact ⟨by rw [HF.out]; rfl, below_next (below_next (below_next B hb1) hb2) hb3⟩
    · have HF : Hid (tellV 4 x = tellFour x) := by show tellV 4 x = _; unfold tellV; rw [if_neg (by simp [ho]), if_pos rfl]
      have H4 := Lib.hid hx4
      clear ho hx4
      go_enter Tryz.func36, Tryz.ntmps36
      go_wp2_with fail
      rw [← hW]
      clear hW
      refine (ok_is _ _ _ _ HO.out).mono ?_
      rintro e w1 ⟨rfl, hb1⟩
      obtain ⟨k0, f0, l0⟩ := keepf hb1 w.heap.size hWs
      have c0 : w1.cell? ⟨w.heap.size, 0, none⟩ = some (.int .i64 4) := (k0 0).trans HC.out.1
      have c1 : w1.cell? ⟨w.heap.size, 1, none⟩ = some (.int .u64 (hiQ x)) := (k0 1).trans HC.out.2.1
      have c2 : w1.cell? ⟨w.heap.size, 2, none⟩ = some (.int .u64 (loQ x)) := (k0 2).trans HC.out.2.2
      clear k0 f0
      go_wp2_with fail
      refine (fourT_x x _ (HG.out.below hb1) H4.out).mono ?_
      rintro e w2 ⟨rfl, hb2⟩
      go_wp2
      go_ret
      exact ⟨by rw [HF.out]; rfl, below_next (below_next B hb1) hb2⟩
end Go.Proofs.YtmnemjhkmllniaaGreatDoor
