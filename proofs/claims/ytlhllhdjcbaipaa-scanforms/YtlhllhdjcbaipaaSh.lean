/- What the document fixes of package scan: the law's own check answers true. -/
import Derived.Test.YtlhllhdjcbaipaaSg
import Derived.Lib.SlBytesConst
namespace Go.Proofs.Ytlhllhdjcbaipaa
open Go.ChangeShapes Go.WideShapes Go.RowKit Go.Sort
theorem infoB : (Try.prog.info? 5).map (fun i => (i.zero, i.size, i.bytes)) = some (some (.int .u8 0), 1, 1) := by kernel_rfl
theorem makeB (n : Nat) (h : n ≤ 2000000) : ∃ Z : Array Value, ∀ W : World, (Instr.makeSlice 26 (.int .i64 (n : Int)) (.int .i64 (n : Int))).run Try.prog W = .ok (.slice (some ⟨W.heap.size, 0, none⟩) n n) (W.alloc (.cells Z 5)) := by
  obtain ⟨i0, hi, hz0, hz1, hz2⟩ := info_parts infoB
  refine ⟨madeCells (Value.int .u8 0).cells (n * 1), fun W => ?_⟩
  have h := run_make (P := Try.prog) W 26 5 i0 (.int .u8 0) Try.underlying26 hi hz0 .i64 .i64 n n (by omega) (by omega) (by rw [hz2]; omega) (by omega)
  rw [hz1] at h
  rw [h]
  simp
/-- Bytes that were just laid. -/
theorem bytes_new (V : World) (l : Bs) (t : TypeId) (m : Nat × Nat) : BytesAt (V.alloc (.cells (l.map fun b => Value.int .u8 (b.toNat : Int)).toArray t m)) (some ⟨V.heap.size, 0, none⟩) l := fun j b hj => by
  have hlt := (List.getElem?_eq_some_iff.1 hj).1
  refine ⟨_, rfl, by simp [go_sem], ?_⟩
  have e : ((⟨V.heap.size, 0, none⟩ : Addr).add j) = ⟨V.heap.size, j, none⟩ := by
    unfold Addr.add; split <;> simp_all
  rw [e, World.cell?_alloc_mark]
  simp [hj]
theorem toks_new (V : World) (L : List (Bs × Nat)) (t : TypeId) : TokAt (V.alloc (.cells (L.flatMap cellsT).toArray t)) (some ⟨V.heap.size, 0, none⟩) L := fun j b n hj => by
  have hlt := (List.getElem?_eq_some_iff.1 hj).1
  have f0 := flat3 L j 0 _ hj (by decide)
  have f1 := flat3 L j 1 _ hj (by decide)
  have f2 := flat3 L j 2 _ hj (by decide)
  refine ⟨_, rfl, by simp [go_sem], ?_, ?_, ?_⟩
  · simp [go_sem]; simpa [cellsT] using f0
  · simp [go_sem]; simpa [cellsT] using f1
  · simp [go_sem]; simpa [cellsT] using f2
set_option maxHeartbeats 4000000 in
set_option maxRecDepth 100000 in
theorem awake7_x (w : World) :
    Calls Try.prog 10 #[] w fun e w' => e = .returned (.bool true) ∧ Below w.heap.size w w' := by
  have A1 : Hid (∀ V : World, Calls Try.prog 7 #[.slice (some ⟨V.heap.size, 0, none⟩) 3 3, .int .i64 2] (V.alloc (.cells #[.int .u8 97, .int .u8 10, .int .u8 98] 5 (3, 4))) fun e w' => e = .returned (.tuple #[.int .i64 2, .int .i64 1]) ∧ Below (V.alloc (.cells #[.int .u8 97, .int .u8 10, .int .u8 98] 5 (3, 4))).heap.size (V.alloc (.cells #[.int .u8 97, .int .u8 10, .int .u8 98] 5 (3, 4))) w') := fun V =>
    where_x [97, 10, 98] (some ⟨V.heap.size, 0, none⟩) 3 2 _ (bytes_new V [97, 10, 98] _ _) (by decide) (by decide)
  have A2 : Hid (∀ V : World, Calls Try.prog 9 #[.slice (some ⟨V.heap.size, 0, none⟩) 6 6] (V.alloc (.cells #[.int .u8 97, .int .u8 13, .int .u8 10, .int .u8 10, .int .u8 98, .int .u8 13] 5 (6, 7))) fun e w' => LinesE (V.alloc (.cells #[.int .u8 97, .int .u8 13, .int .u8 10, .int .u8 10, .int .u8 98, .int .u8 13] 5 (6, 7))) [([97], 0), ([], 3), ([98, 13], 4)] e w') := fun V =>
    lines_x [97, 13, 10, 10, 98, 13] (some ⟨V.heap.size, 0, none⟩) 6 _ (bytes_new V [97, 13, 10, 10, 98, 13] _ _) (by decide) (by decide)
  obtain ⟨Z1, hm1⟩ : ∃ Z : Array Value, ∀ W : World, (Instr.makeSlice 26 (.int .i64 1000001) (.int .i64 1000001)).run Try.prog W = .ok (.slice (some ⟨W.heap.size, 0, none⟩) 1000001 1000001) (W.alloc (.cells Z 5)) := makeB 1000001 (by omega)
  obtain ⟨Z2, hm2⟩ : ∃ Z : Array Value, ∀ W : World, (Instr.makeSlice 26 (.int .i64 1000000) (.int .i64 1000000)).run Try.prog W = .ok (.slice (some ⟨W.heap.size, 0, none⟩) 1000000 1000000) (W.alloc (.cells Z 5)) := makeB 1000000 (by omega)
  have T1 : Hid (∀ V : World, TokAt ((V.alloc (.cells #[.int .i64 0, .int .i64 0] 28)).alloc (.cells #[.int .i64 1, .string { data := #[97] }, .int .i64 0, .int .i64 1, .string { data := #[] }, .int .i64 3, .int .i64 1, .string { data := #[98, 13] }, .int .i64 4] 39)) (some ⟨V.heap.size + 1, 0, none⟩) [([97], 0), ([], 3), ([98, 13], 4)]) := fun V => by
    have := toks_new (V.alloc (.cells #[.int .i64 0, .int .i64 0] 28)) [([97], 0), ([], 3), ([98, 13], 4)] 39
    rw [show (V.alloc (.cells #[.int .i64 0, .int .i64 0] 28)).heap.size = V.heap.size + 1 by simp [go_sem]] at this
    exact this
  have kc := fun (w : World) (C : Array Value) (n c : Nat) => Lib.run_convert_bytes_const (P := Try.prog) w 26 5 C n c Try.underlying26 Try.underlying5
  go_enter Try.func10, Try.ntmps10
  go_wp2_with fail
  refine (A1.out _).mono ?_
  rintro e w1 ⟨rfl, hb1⟩
  have B1 := below_step (Below.refl _ _) hb1
  clear hb1
  go_wp2_with fail
  refine (A2.out _).mono ?_
  rintro e w2 ⟨hb2, p, c, rfl, ht⟩
  have B2 := below_step B1 hb2
  clear hb2
  go_wp2_with fail
  refine (long_yes _ 1000001 1000001 _ (by decide)).mono ?_
  rintro e w3 ⟨rfl, hb3⟩
  have ht3 := ht.below (below_step (Below.refl _ _) hb3)
  have B3 := below_step B2 hb3
  clear ht hb3
  go_wp2_with fail
  refine (long_no _ 1000000 1000000 _ (by decide)).mono ?_
  rintro e w4 ⟨rfl, hb4⟩
  have BX : Below w3.heap.size w3 w4 := below_step (ball (Below.refl _ _)) hb4
  have c0 : w4.cell? ⟨w3.heap.size, 0, none⟩ = some (.int .i64 2) := by rw [olds hb4 _ _ (by simp [go_sem])]; simp [go_sem]
  have c1 : w4.cell? ⟨w3.heap.size, 1, none⟩ = some (.int .i64 1000000) := by rw [olds hb4 _ _ (by simp [go_sem])]; simp [go_sem]
  have ht4 := ht3.below BX
  have B4 := below_next B3 BX
  have hlt4 : w3.heap.size < w4.heap.size := World.block_lt_of_cell? _ _ c0
  clear hb4 BX ht3 B3
  have HT := Lib.hid ht4
  clear A1 A2 hm1 hm2 kc ht4
  go_wp2_with fail
  have HS := same_x [([97], 0), ([], 3), ([98, 13], 4)] p (some ⟨w4.heap.size + 1, 0, none⟩) c 3 _ (HT.out.below (ball (ball (Below.refl _ _)))) (T1.out w4) (by decide)
  refine Calls.mono HS ?_
  rintro e w5 ⟨rfl, hb5⟩
  have B5 := below_step (ball B4) hb5
  have k1 := below_step (ball (Below.refl _ _)) hb5
  have d0 := (olds k1 _ 0 hlt4).trans c0
  have d1 := (olds k1 _ 1 hlt4).trans c1
  clear HS T1 HT hb5 k1 c0 c1 B1 B2 B4 hlt4
  go_wp2
  go_ret
  exact ⟨rfl, B5⟩
end Go.Proofs.Ytlhllhdjcbaipaa
