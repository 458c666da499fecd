/- strings.SplitSeq at a comma: what it hands back, and how it is gone through. -/
import Derived.Test.YtfmanmidihofgaaDoorXa
import Derived.Test.YtfmanmidihofgaaDoorXb
import Derived.Test.YtfmanmidihofgaaDoorShelf
import Derived.Shelf.Abstract
import Derived.OwnWalkIn
import Derived.TacticsInMore
import Derived.LoopNIn
import Derived.LoopIn
import Derived.RangeFuncBound
namespace Go.Proofs.YtfmanmidihofgaaDoor
open Go.ChangeShapes Go.WideShapes Go.RowKit Go.Sort
attribute [local go_sem] Oper.semAt_some

/-- A text's first comma. -/
theorem indexB_no {l : Bs} {c : UInt8} (h : Lib.indexByte l c = -1) : c ∉ l := fun e => by
  obtain ⟨k, hk⟩ := List.mem_iff_getElem?.1 e
  exact Lib.indexByte_none h k hk
theorem indexB_yes {l : Bs} {c : UInt8} (h : ¬ Lib.indexByte l c = -1) : ∃ i : Nat, Lib.indexByte l c = (i : Int) ∧ i < l.length ∧ c ∉ l.take i ∧ l = l.take i ++ c :: l.drop (i + 1) := by
  obtain ⟨i, hi⟩ : ∃ i : Nat, Lib.indexByte l c = i := ⟨(Lib.indexByte l c).toNat, by have := Lib.indexByte_ge l c; omega⟩
  obtain ⟨h1, h2⟩ := Lib.indexByte_some hi
  obtain ⟨h3, h4⟩ := List.getElem?_eq_some_iff.1 h1
  refine ⟨i, hi, h3, fun e => ?_, ?_⟩
  · obtain ⟨k, hk⟩ := List.mem_iff_getElem?.1 e
    have hki : k < i := by
      have := (List.getElem?_eq_some_iff.1 hk).1
      rw [List.length_take] at this; omega
    rw [List.getElem?_take_of_lt hki] at hk
    exact h2 k hki hk
  · conv => lhs; rw [← List.take_append_drop i l]
    rw [List.drop_eq_getElem_cons h3, h4]
theorem bxs {W : World} {B : Nat} {t : TypeId} {v : Value} (h : Boxed W B t v) : W.cell? ⟨B, 0, none⟩ = some v ∧ W.frozen? ⟨B, 0, none⟩ = false := ⟨h.cell, h.frozen⟩
set_option maxHeartbeats 2000000 in
set_option maxRecDepth 100000 in
theorem splitSeq_x (s t : ByteArray) (w : World) :
    Calls Tryd.prog 35 #[.string s, .string t] w fun e w' => e = .returned (.func (.func 51) #[] #[.pointer (some ⟨w.heap.size + 1, 0, none⟩), .pointer (some ⟨w.heap.size, 0, none⟩), .pointer (some ⟨w.heap.size + 2, 0, none⟩)]) ∧
      w' = ((w.alloc (.cells #[.string s] 9)).alloc (.cells #[.string t] 9)).alloc (.cells #[.int .i64 0] 3) := by
  go_enter Tryd.func35, Tryd.ntmps35
  go_wp2
  go_ret
  exact ⟨rfl, rfl⟩
set_option maxHeartbeats 4000000 in
set_option maxRecDepth 100000 in
theorem iter_x (B : Nat) (l : Bs) (w : World) (hB : B + 3 ≤ w.heap.size) (h0 : Boxed w B 9 (.string (baS l))) (h1 : Boxed w (B + 1) 9 (.string (baS [44]))) (h2 : Boxed w (B + 2) 3 (.int .i64 0)) (hl : l.length ≤ 1000000) :
    Iter3 Tryd.prog 2 51 #[.pointer (some ⟨B + 1, 0, none⟩), .pointer (some ⟨B, 0, none⟩), .pointer (some ⟨B + 2, 0, none⟩)] B (splitC [] l) w (fun x => .string (baS x)) := by
  intro m J Jx W hW hJ hJx hY hj0
  have hn : 1 ≤ 2 := by decide
  have b0 : Boxed W B 9 (.string (baS l)) := (hW.block B (by omega)).trans h0
  have b1 : Boxed W (B + 1) 9 (.string (baS [44])) := (hW.block (B + 1) (by omega)).trans h1
  have b2 : Boxed W (B + 2) 3 (.int .i64 0) := (hW.block (B + 2) (by omega)).trans h2
  have HI : Hid (∀ (r : Bs) V, CallsIn Fence.wide 1 Tryd.prog 53 #[.string (baS r), .string (baS [44])] V fun e w' => e = .returned (.int .i64 (Lib.indexByte r 44)) ∧ w' = V) := fun r V => callsIn_wide.2 ((Tryd.strings_Index_one (baS r) 44 V).mono fun e w' h => by simpa [baS] using h)
  generalize hLL : splitC [] l = L at *
  have HL : Hid (L = L.take 0 ++ splitC [] l) := by show _ = _; rw [hLL]; simp
  clear hLL h0 h1 h2 hB hW
  refine callsIn_of_wp Tryd.func51 rfl trivial ?_ rfl
  simp only [Tryd.ntmps51, List.size_toArray, List.length_cons, List.length_nil, Nat.reduceAdd, Nat.reduceSub, Array.replicate_succ, Array.replicate_zero, List.push_toArray, List.append_toArray, List.nil_append, List.cons_append]
  have c0 := b0.cell
  have c1 := b1.cell
  have hs1 : (baS [44]).size = 1 := rfl
  gi_wp2_with fail
  gi_loopw [7] (fun iv wr => ∃ (k : Nat) (r : Bs), Hid (L = L.take k ++ splitC [] r) ∧ k ≤ L.length ∧ J k wr ∧ Boxed wr B 9 (.string (baS r)) ∧ Boxed wr (B + 1) 9 (.string (baS [44])) ∧ Boxed wr (B + 2) 3 (.int .i64 0) ∧ r.length ≤ 1000000) (fun _ wr => sizeS ((wr.cell? ⟨B, 0, none⟩).getD undef))
  case atStart => exact ⟨0, l, HL, Nat.zero_le _, hj0, b0, b1, b2, hl⟩
  case round =>
    obtain ⟨k, r, hk, hkl, hj, b0, b1, b2, hr⟩ := hrel
    have c0 := b0.cell
    have f0 := b0.frozen
    have c1 := b1.cell
    have c2 := b2.cell
    by_cases hi : Lib.indexByte r 44 = -1
    · have hsp := splitC_none (indexB_no hi)
      have HX : Hid (L[k]? = some r ∧ L.length = k + 1) := by
        have e := hk.out
        rw [hsp] at e
        have hl1 : L.length = k + 1 := by have := congrArg List.length e; rw [List.length_append, List.length_take] at this; simp at this; omega
        refine Lib.hid ⟨?_, hl1⟩
        rw [e, List.getElem?_append_right (by rw [List.length_take]; omega), List.length_take, show k - min k L.length = 0 by omega]; rfl
      have HJ : Hid (∀ V, CallsIn Fence.wide 1 Tryd.prog 53 #[.string (baS r), .string (baS [44])] V fun e w' => e = .returned (.int .i64 (-1)) ∧ w' = V) := fun V => (HI.out r V).mono fun e w' h => by rw [hi] at h; exact h
      obtain ⟨fn, tmps, assign, body, hy, hR⟩ := hY k r wr hj HX.out.1
      clear hi hk hsp HI
      gi_wp2_with (refine ⟨trivial, ?_⟩; gi_at_call 53; refine (HJ.out _).mono ?_; rintro e w' ⟨rfl, rfl⟩)
      refine hR.mono ?_
      rintro e W3 (⟨rfl, hJ3, hk3⟩ | ⟨rfl, hJx3⟩)
      · gi_wp2
        go_end0
        exact ⟨⟨_, rfl⟩, .inl (by rw [HX.out.2]; exact hJ3)⟩
      · gi_wp2
        go_end0
        exact ⟨⟨_, rfl⟩, .inr ⟨k, hJx3⟩⟩
    · obtain ⟨i, hii, hilt, hnm, hcut⟩ := indexB_yes hi
      have hsp : splitC [] r = r.take i :: splitC [] (r.drop (i + 1)) := by
        conv => lhs; rw [hcut]
        exact splitC_cut hnm
      have HX : Hid (L[k]? = some (r.take i) ∧ L = L.take (k + 1) ++ splitC [] (r.drop (i + 1)) ∧ k + 1 ≤ L.length) := by
        have e := hk.out
        rw [hsp] at e
        have hx : L[k]? = some (r.take i) := by rw [e, List.getElem?_append_right (by rw [List.length_take]; omega), List.length_take, show k - min k L.length = 0 by omega]; rfl
        refine Lib.hid ⟨hx, ?_, (List.getElem?_eq_some_iff.1 hx).1⟩
        rw [List.take_add_one, hx]
        conv => lhs; rw [e]
        simp
      have HJ : Hid (∀ V, CallsIn Fence.wide 1 Tryd.prog 53 #[.string (baS r), .string (baS [44])] V fun e w' => e = .returned (.int .i64 (i : Int)) ∧ w' = V) := fun V => (HI.out r V).mono fun e w' h => by rw [hii] at h; exact h
      obtain ⟨fn, tmps, assign, body, hy, hR⟩ := hY k (r.take i) wr hj HX.out.1
      have S1 := fun V => sliceTo r i (by omega) V
      have S2 : ∀ V, (Instr.slice 9 (.string (baS r)) (some (.int .i64 ((i : Int) + 1))) none none).run Tryd.prog V = .ok (.string (baS (r.drop (i + 1)))) V := fun V => by
        have h := sliceFrom r (i + 1) (by omega) V
        rwa [show ((i + 1 : Nat) : Int) = (i : Int) + 1 by omega] at h
      have hz0 : IntKind.i64.wrap ((i : Int) + 0) = ((i : Nat) : Int) := by rw [IntKind.wrap_i64]; omega
      have hlen : (r.drop (i + 1)).length < r.length := by rw [List.length_drop]; omega
      clear hi hk hsp HI hii hnm hcut
      gi_wp2_with (refine ⟨trivial, ?_⟩; gi_at_call 53; refine (HJ.out _).mono ?_; rintro e w' ⟨rfl, rfl⟩)
      refine hR.mono ?_
      rintro e W3 (⟨rfl, hJ3, hk3⟩ | ⟨rfl, hJx3⟩)
      · have d0 : Boxed W3 B 9 (.string (baS r)) := (hk3 B (by omega) (by omega)).trans b0
        have d1 : Boxed W3 (B + 1) 9 (.string (baS [44])) := (hk3 (B + 1) (by omega) (by omega)).trans b1
        have d2 : Boxed W3 (B + 2) 3 (.int .i64 0) := (hk3 (B + 2) (by omega) (by omega)).trans b2
        have e0 := d0.cell
        have e0f := d0.frozen
        have e1 := d1.cell
        gi_wp2
        go_roundw
        case rel => exact ⟨k + 1, r.drop (i + 1), Lib.hid HX.out.2.1, HX.out.2.2, hJ.sets _ hJ3, d0.set _, d1.kept (grownBy_setCell' W3 B _) (by simp), d2.kept (grownBy_setCell' W3 B _) (by simp), by omega⟩
        case measure =>
          rw [(d0.set (.string (baS (r.drop (i + 1))))).cell, c0]
          show (baS (r.drop (i + 1))).size < (baS r).size
          rw [baS_size, baS_size]; exact hlen
      · gi_wp2
        refine bodyPost_ret (results_none rfl _ _ _) rfl ?_
        exact ⟨⟨_, rfl⟩, .inr ⟨k, hJx3⟩⟩
end Go.Proofs.YtfmanmidihofgaaDoor
