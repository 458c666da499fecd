/- The laws' own maker of addresses: whatever the numbers, it answers an address of V 4 or 6. -/
import Derived.Test.YtmnemjhkmllniaaGreatDoorzLa
namespace Go.Proofs.YtmnemjhkmllniaaGreatDoor
open Go.ChangeShapes Go.WideShapes Go.RowKit Go.Sort

/-- What the maker of addresses answers. -/
def Made (e : Ending) : Prop := ∃ (u : Int) (x : Nat), e = .returned (.agg #[.int .i64 u, .int .u64 (hiQ x), .int .u64 (loQ x)]) ∧ okV u x = true ∧ x < 340282366920938463463374607431768211456
theorem and32 (a : Int) (h0 : 0 ≤ a) (h1 : a < 18446744073709551616) : 0 ≤ bits .and .u64 a 4294967295 ∧ bits .and .u64 a 4294967295 < 4294967296 := by
  rw [u64_and a 4294967295 h0 h1 (by decide) (by decide)]
  have : a.toNat &&& (4294967295 : Int).toNat ≤ 4294967295 := Nat.and_le_right
  omega
theorem made4 (L : Int) (h0 : 0 ≤ L) (h1 : L < 4294967296) : Made (.returned (.agg #[.int .i64 4, .int .u64 0, .int .u64 L])) := by
  refine ⟨4, L.toNat, ?_, by simp [okV]; omega, by omega⟩
  rw [hiQ_small (by omega), loQ_small (by omega), Int.toNat_of_nonneg h0]
theorem made6 (h l : Int) (h0 : 0 ≤ h) (h1 : h < 18446744073709551616) (l0 : 0 ≤ l) (l1 : l < 18446744073709551616) : Made (.returned (.agg #[.int .i64 6, .int .u64 h, .int .u64 l])) :=
  ⟨6, mkQ h l, by rw [hiQ_mk h l h0 l0 l1, loQ_mk h l l0 l1], by simp [okV], mkQ_lt h l h1 l1⟩
set_option maxHeartbeats 4000000 in
set_option maxRecDepth 100000 in
theorem addr_x (v a b : Int) (w : World) (ha : 0 ≤ a ∧ a < 18446744073709551616) (hb : 0 ≤ b ∧ b < 18446744073709551616) :
    Calls Tryz.prog 24 #[.int .i64 v, .int .u64 a, .int .u64 b] w fun e w' => Made e ∧ Below w.heap.size w w' := by
  have HA := Lib.hid ha
  have HB := Lib.hid hb
  clear ha hb
  by_cases h1 : (bits .and .i64 v 1 == 0) = true
  · go_enter Tryz.func24, Tryz.ntmps24
    go_wp2
    generalize min (IntKind.u64.wrap (wrap64 (bits BinOp.and IntKind.i64 (v / 2) 3 * 8))).toNat 64 = m
    have hp : (0 : Int) < 2 ^ m := Int.pow_pos (by decide)
    obtain ⟨b0, b1⟩ := and32 a HA.out.1 HA.out.2
    have l0 : 0 ≤ bits BinOp.and IntKind.u64 a 4294967295 / 2 ^ m := Int.ediv_nonneg b0 (by omega)
    have l1 : bits BinOp.and IntKind.u64 a 4294967295 / 2 ^ m ≤ bits BinOp.and IntKind.u64 a 4294967295 := Int.ediv_le_self _ b0
    generalize bits BinOp.and IntKind.u64 a 4294967295 / 2 ^ m = L at *
    exact bodyPost_ret (v := .agg #[.int .i64 4, .int .u64 0, .int .u64 L]) (by simp [results, Tryz.results24, go_sem]) rfl ⟨made4 L l0 (by omega), (Below.refl _ _).alloc (Nat.le_refl _) _⟩
  · have h1' : (bits .and .i64 v 1 == 0) = false := by simpa using h1
    obtain ⟨W0, hW0⟩ : ∃ W0, W0 = (w.alloc (.cells #[.int .i64 0, .int .u64 0, .int .u64 0] 28)).alloc (.cells #[.int .u64 a, .int .u64 b] 26) := ⟨_, rfl⟩
    have B0 : Below w.heap.size w W0 := hW0 ▸ below2 _ _ _
    have z0 : W0.cell? ⟨w.heap.size, 0, none⟩ = some (.int .i64 0) := by rw [hW0]; simp [go_sem]
    have z1 : W0.cell? ⟨w.heap.size, 1, none⟩ = some (.int .u64 0) := by rw [hW0]; simp [go_sem]
    have z2 : W0.cell? ⟨w.heap.size, 2, none⟩ = some (.int .u64 0) := by rw [hW0]; simp [go_sem]
    have z3 : W0.cell? ⟨w.heap.size + 1, 0, none⟩ = some (.int .u64 a) := by rw [hW0]; simp [go_sem]
    have z4 : W0.cell? ⟨w.heap.size + 1, 1, none⟩ = some (.int .u64 b) := by rw [hW0]; simp [go_sem]
    have f0 : ∀ o, W0.frozen? ⟨w.heap.size, o, none⟩ = false := fun o => by rw [hW0]; simp [go_sem]
    have f1 : ∀ o, W0.frozen? ⟨w.heap.size + 1, o, none⟩ = false := fun o => by rw [hW0]; simp [go_sem]
    clear h1
    go_enter Tryz.func24, Tryz.ntmps24
    go_wp2
    rw [← hW0]
    clear hW0
    go_loopw [8] (fun i wr => ∃ (k : Nat) (h l : Int), k ≤ 8 ∧ i = .int .i64 k ∧ Hid (0 ≤ h ∧ h < 18446744073709551616 ∧ 0 ≤ l ∧ l < 18446744073709551616) ∧ wr.cell? ⟨w.heap.size, 0, none⟩ = some (.int .i64 0) ∧ wr.cell? ⟨w.heap.size, 1, none⟩ = some (.int .u64 0) ∧ wr.cell? ⟨w.heap.size, 2, none⟩ = some (.int .u64 0)
        ∧ wr.cell? ⟨w.heap.size + 1, 0, none⟩ = some (.int .u64 h) ∧ wr.cell? ⟨w.heap.size + 1, 1, none⟩ = some (.int .u64 l) ∧ (∀ o, wr.frozen? ⟨w.heap.size, o, none⟩ = false) ∧ (∀ o, wr.frozen? ⟨w.heap.size + 1, o, none⟩ = false) ∧ Below w.heap.size w wr)
      (fun i _ => 8 - (intOf i).toNat)
    case atStart => exact ⟨0, a, b, by omega, rfl, ⟨HA.out.1, HA.out.2, HB.out.1, HB.out.2⟩, z0, z1, z2, z3, z4, f0, f1, B0⟩
    case round =>
      obtain ⟨k, h, l, hk, rfl, hh, c0, c1, c2, c3, c4, g0, g1, hb⟩ := hrel
      clear z0 z1 z2 z3 z4 f0 f1 B0
      by_cases hk8 : k < 8
      · cases hbit : (bits .and .i64 (v / 2 ^ (k + 1)) 1 == 1)
        · go_wp2
          go_roundw
          case rel => exact ⟨k + 1, h, l, by omega, by go_num, hh, c0, c1, c2, c3, c4, g0, g1, hb⟩
          case measure => simp [intOf]; omega
        · by_cases hk4 : k < 4
          · have hk4' : (k : Int) < 4 := by omega
            go_wp2
            go_roundw
            case rel =>
              refine ⟨k + 1, _, l, by omega, by go_num, ⟨bits_lo_u64 _ _ _, Int.lt_of_le_of_lt (bits_hi_u64 _ _ _) (by decide), hh.out.2.2.1, hh.out.2.2.2⟩, ?_, ?_, ?_, World.cell?_setCell_same _ _ _ c3, ?_, fun o => ?_, fun o => ?_, hb.setCell (Nat.le_succ _) _⟩
              · rw [World.cell?_setCell_other _ _ _ _ (by simp)]; exact c0
              · rw [World.cell?_setCell_other _ _ _ _ (by simp)]; exact c1
              · rw [World.cell?_setCell_other _ _ _ _ (by simp)]; exact c2
              · rw [World.cell?_setCell_other _ _ _ _ (by simp)]; exact c4
              · simp [g0]
              · simp [g1]
            case measure => simp [intOf]; omega
          · have hk4' : ¬ (k : Int) < 4 := by omega
            go_wp2
            go_roundw
            case rel =>
              refine ⟨k + 1, h, _, by omega, by go_num, ⟨hh.out.1, hh.out.2.1, bits_lo_u64 _ _ _, Int.lt_of_le_of_lt (bits_hi_u64 _ _ _) (by decide)⟩, ?_, ?_, ?_, ?_, World.cell?_setCell_same _ _ _ c4, fun o => ?_, fun o => ?_, hb.setCell (Nat.le_succ _) _⟩
              · rw [World.cell?_setCell_other _ _ _ _ (by simp)]; exact c0
              · rw [World.cell?_setCell_other _ _ _ _ (by simp)]; exact c1
              · rw [World.cell?_setCell_other _ _ _ _ (by simp)]; exact c2
              · rw [World.cell?_setCell_other _ _ _ _ (by simp)]; exact c3
              · simp [g0]
              · simp [g1]
            case measure => simp [intOf]; omega
      · have hkk : k = 8 := by omega
        subst hkk
        go_wp2
        exact bodyPost_ret (v := .agg #[.int .i64 6, .int .u64 h, .int .u64 l]) (by simp [results, Tryz.results24, go_sem, c0, c1, c2]) rfl ⟨made6 h l hh.out.1 hh.out.2.1 hh.out.2.2.1 hh.out.2.2.2, bset3 hb (Nat.le_refl _)⟩
end Go.Proofs.YtmnemjhkmllniaaGreatDoor
