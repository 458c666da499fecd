/- addr.Parse: every text is the address that it says, or none. -/
import Derived.Test.YtmnemjhkmllniaaGreatDoorzPj
namespace Go.Proofs.YtmnemjhkmllniaaGreatDoor
open Go.ChangeShapes Go.WideShapes Go.RowKit Go.Sort

def parseR (r : Option (Nat × Nat)) : Value := match r with
  | some (v, x) => .tuple #[.agg #[.int .i64 v, .int .u64 (hiQ x), .int .u64 (loQ x)], .bool true]
  | none => .tuple #[.agg #[.int .i64 0, .int .u64 0, .int .u64 0], .bool false]
theorem hiQ_small {n : Nat} (h : n < 4294967296) : hiQ n = 0 := by unfold hiQ; omega
theorem loQ_small {n : Nat} (h : n < 4294967296) : loQ n = n := by unfold loQ; omega
set_option maxHeartbeats 2000000 in
set_option maxRecDepth 100000 in
theorem parse_x (s : ByteArray) (w : World) (hg : Gl w) (hs : s.size < 4294967281) :
    Calls Tryz.prog 33 #[.string s] w fun e w' => e = .returned (parseR (parseV s.data.toList)) ∧ Below w.heap.size w w' := by
  have HS := Lib.hid hs
  obtain ⟨W0, hW0⟩ : ∃ W0, W0 = w.alloc (.cells #[.int .i64 0, .int .u64 0, .int .u64 0] 28) := ⟨_, rfl⟩
  have HG : Hid (Gl W0) := hW0 ▸ hg.alloc _
  have z0 : W0.cell? ⟨w.heap.size, 0, none⟩ = some (.int .i64 0) := by rw [hW0]; simp [go_sem]
  have z1 : W0.cell? ⟨w.heap.size, 1, none⟩ = some (.int .u64 0) := by rw [hW0]; simp [go_sem]
  have z2 : W0.cell? ⟨w.heap.size, 2, none⟩ = some (.int .u64 0) := by rw [hW0]; simp [go_sem]
  have zf : ∀ o, W0.frozen? ⟨w.heap.size, o, none⟩ = false := fun o => by rw [hW0]; simp [go_sem]
  have zl : w.heap.size < W0.heap.size := by rw [hW0]; simp
  have B0 : Below w.heap.size w W0 := hW0 ▸ (Below.refl _ _).alloc (Nat.le_refl _) _
  have HZ : Hid (W0.cell? ⟨w.heap.size, 0, none⟩ = some (.int .i64 0) ∧ W0.cell? ⟨w.heap.size, 1, none⟩ = some (.int .u64 0) ∧ W0.cell? ⟨w.heap.size, 2, none⟩ = some (.int .u64 0) ∧ ∀ o, W0.frozen? ⟨w.heap.size, o, none⟩ = false) := ⟨z0, z1, z2, zf⟩
  clear hs hg z0 z1 z2 zf
  cases hm : Lib.contains s.data.toList [58] with
  | false =>
    have HM := Lib.hid hm
    have hv : parseV s.data.toList = (fourV s.data.toList).map (4, ·) := by unfold parseV; rw [if_neg (by simp [hm])]
    have HV := Lib.hid hv
    clear hm hv
    go_enter Tryz.func33, Tryz.ntmps33
    go_wp2_with fail
    rw [← hW0]
    refine (has_is s 58 W0 HG.out HS.out _ HM.out).mono ?_
    rintro e w1 ⟨rfl, hb1⟩
    go_wp2_with fail
    refine (four_x s w1 (HG.out.below hb1) HS.out).mono ?_
    rintro e w2 ⟨rfl, hb2⟩
    obtain ⟨k, f, l⟩ := keepf (below_next hb1 hb2) w.heap.size zl
    have c0 := (k 0).trans HZ.out.1
    have c1 := (k 1).trans HZ.out.2.1
    have c2 := (k 2).trans HZ.out.2.2.1
    have cf : ∀ o, w2.frozen? ⟨w.heap.size, o, none⟩ = false := fun o => (f o).trans (HZ.out.2.2.2 o)
    have B2 := below_next (below_next B0 hb1) hb2
    clear k f HZ HG hW0
    cases hf : fourV s.data.toList with
    | none =>
      have HF : Hid (parseV s.data.toList = none) := by rw [HV.out, hf]; rfl
      clear HV hf
      simp only [fourR]
      go_wp2
      exact bodyPost_ret (v := .tuple #[.agg #[.int .i64 0, .int .u64 0, .int .u64 0], .bool false]) (by simp [results, Tryz.results33, go_sem, c0, c1, c2, l]) rfl ⟨by rw [HF.out]; rfl, ball (bset3 B2 (Nat.le_refl _))⟩
    | some n =>
      have HF : Hid (parseV s.data.toList = some (4, n)) := by rw [HV.out, hf]; rfl
      have HN := Lib.hid (fourV_lt hf)
      clear HV hf
      simp only [fourR]
      go_wp2
      exact bodyPost_ret (v := .tuple #[.agg #[.int .i64 4, .int .u64 0, .int .u64 n], .bool true]) (by simp [results, Tryz.results33, go_sem, c0, c1, c2, l]) rfl ⟨by rw [HF.out]; simp only [parseR]; rw [hiQ_small HN.out, loQ_small HN.out]; rfl, ball (bset3 B2 (Nat.le_refl _))⟩
  | true =>
    have HM := Lib.hid hm
    have hv : parseV s.data.toList = (sixV s.data.toList).map (6, ·) := by unfold parseV; rw [if_pos hm]
    have HV := Lib.hid hv
    clear hm hv
    go_enter Tryz.func33, Tryz.ntmps33
    go_wp2_with fail
    rw [← hW0]
    refine (has_is s 58 W0 HG.out HS.out _ HM.out).mono ?_
    rintro e w1 ⟨rfl, hb1⟩
    go_wp2_with fail
    refine (six_x s w1 (HG.out.below hb1) HS.out).mono ?_
    rintro e w2 ⟨rfl, hb2⟩
    obtain ⟨k, f, l⟩ := keepf (below_next hb1 hb2) w.heap.size zl
    have c0 := (k 0).trans HZ.out.1
    have c1 := (k 1).trans HZ.out.2.1
    have c2 := (k 2).trans HZ.out.2.2.1
    have cf : ∀ o, w2.frozen? ⟨w.heap.size, o, none⟩ = false := fun o => (f o).trans (HZ.out.2.2.2 o)
    have B2 := below_next (below_next B0 hb1) hb2
    clear k f HZ HG hW0
    cases hf : sixV s.data.toList with
    | none =>
      have HF : Hid (parseV s.data.toList = none) := by rw [HV.out, hf]; rfl
      clear HV hf
      simp only [sixR]
      go_wp2
      exact bodyPost_ret (v := .tuple #[.agg #[.int .i64 0, .int .u64 0, .int .u64 0], .bool false]) (by simp [results, Tryz.results33, go_sem, c0, c1, c2, l]) rfl ⟨by rw [HF.out]; rfl, ball (bset3 B2 (Nat.le_refl _))⟩
    | some n =>
      have HF : Hid (parseV s.data.toList = some (6, n)) := by rw [HV.out, hf]; rfl
      clear HV hf
      simp only [sixR]
      go_wp2
      exact bodyPost_ret (v := .tuple #[.agg #[.int .i64 6, .int .u64 (hiQ n), .int .u64 (loQ n)], .bool true]) (by simp [results, Tryz.results33, go_sem, c0, c1, c2, l]) rfl ⟨by rw [HF.out]; rfl, ball (bset3 B2 (Nat.le_refl _))⟩
end Go.Proofs.YtmnemjhkmllniaaGreatDoor
