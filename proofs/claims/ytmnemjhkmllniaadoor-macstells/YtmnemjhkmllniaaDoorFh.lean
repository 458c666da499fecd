/- The library's FormatUint at base 16, for every number of 16 bits. -/
import Derived.Test.YtmnemjhkmllniaaDoorFm
namespace Go.Proofs.YtmnemjhkmllniaaDoor
open Go.ChangeShapes Go.WideShapes Go.RowKit Go.Sort

theorem and15 (v : Nat) (h : v < 65536) : bits .and .u64 (v : Int) 15 = ((v % 16 : Nat) : Int) := by
  rw [show (15 : Int) = ((15 : Nat) : Int) by rfl, u64_and_nat _ _ (by omega) (by omega), show (15 : Nat) = 2 ^ 4 - 1 by rfl, Nat.and_two_pow_sub_one_eq_mod]
theorem tz16 (w : World) (ht : TabOk w) : Calls Tryd.prog 57 #[.int .u64 16] w fun e w' => e = .returned (.int .i64 4) ∧ w' = w := by
  have h := tz_any 16 w ht (by decide) (by decide)
  have h : Calls Tryd.prog 60 #[.int .u64 16] w fun e w' => e = .returned (.int .i64 4) ∧ w' = w := h
  have H := Lib.hid h
  clear h
  go_enter Tryd.func57, Tryd.ntmps57
  go_wp2_with fail
  refine H.out.mono ?_
  rintro e w1 ⟨rfl, rfl⟩
  go_wp2
  go_ret
  exact ⟨rfl, rfl⟩
def digs : ByteArray := ⟨#[48, 49, 50, 51, 52, 53, 54, 55, 56, 57, 97, 98, 99, 100, 101, 102, 103, 104, 105, 106, 107, 108, 109, 110, 111, 112, 113, 114, 115, 116, 117, 118, 119, 120, 121, 122]⟩
theorem zero65 : Tryd.zeroCells84 = Array.replicate 65 (.int .u8 0) := by kernel_rfl
theorem digs_at : ∀ d, (h : d < 16) → digs[d]'(by show d < 36; omega) = hexC d := by decide
theorem hexS_at (u : Nat) (hu : u < 65536) : ∃ k, k ≤ 3 ∧ u / 16 ^ k < 16 ∧ (k = 0 ∨ 16 ≤ u / 16 ^ (k - 1)) ∧ (hexS u).length = k + 1 ∧ ∀ j, j ≤ k → (hexS u)[j]? = some (hexC (u / 16 ^ (k - j) % 16)) := by
  unfold hexS
  split
  · refine ⟨0, by omega, by simpa using ‹_›, Or.inl rfl, rfl, fun j hj => ?_⟩
    obtain rfl : j = 0 := by omega
    simp
    congr 1
    omega
  · split
    · refine ⟨1, by omega, by omega, Or.inr (by omega), rfl, fun j hj => ?_⟩
      match j, hj with
      | 0, _ => simp; congr 1; omega
      | 1, _ => simp
    · split
      · refine ⟨2, by omega, by omega, Or.inr (by omega), rfl, fun j hj => ?_⟩
        match j, hj with
        | 0, _ => simp; congr 1; omega
        | 1, _ => simp
        | 2, _ => simp
      · refine ⟨3, by omega, by omega, Or.inr (by omega), rfl, fun j hj => ?_⟩
        match j, hj with
        | 0, _ => simp; congr 1; omega
        | 1, _ => simp
        | 2, _ => simp
        | 3, _ => simp
set_option maxHeartbeats 4000000 in
set_option maxRecDepth 100000 in
theorem bits16 (u : Nat) (w : World) (hg : Gl w) (hu : u < 65536) :
    Calls Tryd.prog 45 #[.slice none 0 0, .int .u64 u, .int .i64 16, .bool false, .bool false] w fun e w' => e = .returned (.tuple #[.slice none 0 0, .string ⟨(hexS u).toArray⟩]) ∧ Below w.heap.size w w' := by
  obtain ⟨W0, hW0⟩ : ∃ W0, W0 = w.alloc (.cells Tryd.zeroCells84 84) := ⟨_, rfl⟩
  have HG : Hid (Gl W0) := hW0 ▸ hg.alloc _
  have B0 : Below w.heap.size w W0 := hW0 ▸ (Below.refl _ _).alloc (Nat.le_refl _) _
  have HU := Lib.hid hu
  have HC : Hid ((∀ o, o < 65 → ∃ x, W0.cell? ⟨w.heap.size, o, none⟩ = some (.int .u8 x)) ∧ ∀ o, W0.frozen? ⟨w.heap.size, o, none⟩ = false) := by
    refine ⟨fun o ho => ⟨0, ?_⟩, fun o => ?_⟩
    · rw [hW0, World.cell?_alloc_new, zero65, Array.getElem?_replicate, if_pos ho]
    · rw [hW0]; exact World.frozen?_alloc_new _ _ _ _
  clear hu hg
  have hp2 : (bits BinOp.and IntKind.i64 16 15 == 0) = true := by decide +kernel
  go_enter Tryd.func45, Tryd.ntmps45
  go_wp2_with (first | (go_at_call 56; go_in) | fail)
  rw [← hW0]
  clear hW0
  refine (tz16 _ HG.out.tz).mono ?_
  rintro e w1 ⟨rfl, rfl⟩
  go_wp2
  go_loopw [1, 13] (fun uv iv wr => ∃ (k v : Nat), k ≤ 3 ∧ uv = .int .u64 v ∧ iv = .int .i64 (65 - (k : Int)) ∧ Hid (v = u / 16 ^ k ∧ (k = 0 ∨ 16 ≤ u / 16 ^ (k - 1)) ∧ (∀ j, j < k → wr.cell? ⟨w.heap.size, 64 - j, none⟩ = some (.int .u8 ((hexC (u / 16 ^ j % 16)).toNat : Int))) ∧ (∀ o, o < 65 → ∃ x, wr.cell? ⟨w.heap.size, o, none⟩ = some (.int .u8 x)) ∧ ∀ o, wr.frozen? ⟨w.heap.size, o, none⟩ = false) ∧ Below w.heap.size w wr)
    (fun uv _ _ => (intOf uv).toNat)
  case atStart => exact ⟨0, u, by omega, rfl, rfl, ⟨by simp, Or.inl rfl, fun j hj => by omega, HC.out.1, HC.out.2⟩, B0⟩
  case round =>
    obtain ⟨k, v, hk, rfl, rfl, hh, hb⟩ := hrel
    obtain ⟨hv, hk0, hd, hc, hf⟩ := hh.out
    have hv16 : v < 65536 := by rw [hv]; exact Nat.lt_of_le_of_lt (Nat.div_le_self _ _) HU.out
    by_cases h16 : 16 ≤ v
    · have h16' : (16 : Int) ≤ v := by omega
      have hk3 : k < 3 := by
        rcases Nat.lt_or_ge k 3 with h | h
        · exact h
        · obtain rfl : k = 3 := by omega
          have := HU.out
          omega
      have ha := and15 v hv16
      obtain ⟨x, hx⟩ := hc (65 - k - 1) (by omega)
      have hfk := hf (65 - k - 1)
      have HH := Lib.hid (And.intro hv (And.intro hd (And.intro hc hf)))
      have hm1 : ((v % 16 : Nat) : Int) < 36 := by omega
      have hm0 : (0 : Int) ≤ ((v % 16 : Nat) : Int) := by omega
      have HX := Lib.hid hx
      clear hh hv hk0 hd hc
      go_wp2
      go_roundw
      case rel =>
        obtain ⟨hv, hd, hc, hf⟩ := HH.out
        have e65 : 65 - k - 1 = 64 - k := by omega
        refine ⟨k + 1, v / 16, by omega, by go_num, by go_num, ⟨?_, Or.inr (by simpa [← hv] using h16), fun j hj => ?_, fun o ho => ?_, fun o => ?_⟩, hb.setCell (Nat.le_refl _) _⟩
        · rw [hv, Nat.div_div_eq_div_mul, ← Nat.pow_succ]
        · by_cases e : j = k
          · subst e
            rw [← hv, ← e65, World.cell?_setCell_same _ _ _ HX.out]
            exact congrArg (fun c : UInt8 => some (Value.int .u8 (c.toNat : Int))) (digs_at (v % 16) (by omega))
          · rw [World.cell?_setCell_other _ _ _ _ (by intro e; injection e with _ e; omega)]
            exact hd j (by omega)
        · by_cases e : o = 65 - k - 1
          · subst e
            exact ⟨_, World.cell?_setCell_same _ _ _ HX.out⟩
          · obtain ⟨y, hy⟩ := hc o ho
            exact ⟨y, by rw [World.cell?_setCell_other _ _ _ _ (by intro e; injection e with _ e; omega)]; exact hy⟩
        · simp [hf o]
      case measure => simp [intOf]; omega
    · have h16' : ¬ (16 : Int) ≤ v := by omega
      obtain ⟨x, hx⟩ := hc (65 - k - 1) (by omega)
      have hfk := hf (65 - k - 1)
      have HH := Lib.hid (And.intro hv (And.intro hd (And.intro hc (And.intro hf hk0))))
      have HX := Lib.hid hx
      have hm1 : (v : Int) < 36 := by omega
      have hlit : ∀ h, (⟨#[48, 49, 50, 51, 52, 53, 54, 55, 56, 57, 97, 98, 99, 100, 101, 102, 103, 104, 105, 106, 107, 108, 109, 110, 111, 112, 113, 114, 115, 116, 117, 118, 119, 120, 121, 122]⟩ : ByteArray)[v]'h = hexC v := fun h => digs_at v (by omega)
      have hal : Tryd.prog.arrayLen 84 = 65 := by kernel_rfl
      have hsl : ∀ W, (Instr.sliceAt 84 (.pointer (some ⟨w.heap.size, 0, none⟩)) (some (.int .i64 (65 - (k : Int) - 1))) none none).run Tryd.prog W = .ok (.slice (some ⟨w.heap.size, 65 - k - 1, none⟩) (k + 1) (k + 1)) W := fun W => by
        rw [run_sliceAt_array_l W 84 ⟨w.heap.size, 0, none⟩ (by kernel_rfl) .i64 (65 - (k : Int) - 1) (by omega) (by rw [hal]; omega)]
        go_simp
        omega
      have hcv : (convert 32 9 (.slice (some ⟨w.heap.size, 65 - k - 1, none⟩) (k + 1) (k + 1))).run Tryd.prog (wr.setCell ⟨w.heap.size, 65 - k - 1, none⟩ (.int .u8 ((hexC v).toNat : Int))) = .ok (.string ⟨(hexS u).toArray⟩) (wr.setCell ⟨w.heap.size, 65 - k - 1, none⟩ (.int .u8 ((hexC v).toNat : Int))) := by
        obtain ⟨k', h1, h2, h3, h4, h5⟩ := hexS_at u HU.out
        obtain rfl : k = k' := by
          have hu := HU.out
          have hv2 : u / 16 ^ k < 16 := by omega
          rcases (show k = 0 ∨ k = 1 ∨ k = 2 ∨ k = 3 by omega) with rfl | rfl | rfl | rfl <;> rcases (show k' = 0 ∨ k' = 1 ∨ k' = 2 ∨ k' = 3 by omega) with rfl | rfl | rfl | rfl <;> simp at h2 h3 hv2 hk0 ⊢ <;> omega
        have h := run_convert_bytes_back (P := Tryd.prog) (wr.setCell ⟨w.heap.size, 65 - k - 1, none⟩ (.int .u8 ((hexC v).toNat : Int))) 32 9 5 ⟨w.heap.size, 65 - k - 1, none⟩ (k + 1) (hexS u) Tryd.underlying32 Tryd.underlying5 Tryd.underlying9 (fun j hj => by
          have hj' : j ≤ k := by omega
          have e := h5 j hj'
          rw [List.getElem?_eq_getElem hj] at e
          rw [Option.some.inj e, Lib.add_plain]
          by_cases e0 : j = 0
          · subst e0
            rw [Nat.add_zero, Nat.sub_zero, ← hv, World.cell?_setCell_same _ _ _ hx, Nat.mod_eq_of_lt (by omega)]
          · rw [World.cell?_setCell_other _ _ _ _ (by intro e; injection e with _ e; omega), show 65 - k - 1 + j = 64 - (k - j) by omega]
            exact hd (k - j) (by omega))
        rw [h4] at h
        exact h
      clear hh hv hk0 hd hc hal
      go_wp2
      go_ret2
      exact ⟨rfl, hb.setCell (Nat.le_refl _) _⟩
set_option maxHeartbeats 1000000 in
theorem fmt16 (u : Nat) (w : World) (hg : Gl w) (hu : u < 65536) :
    Calls Tryd.prog 22 #[.int .u64 u, .int .i64 16] w fun e w' => e = .returned (.string ⟨(hexS u).toArray⟩) ∧ Below w.heap.size w w' := by
  have HI := Lib.hid (bits16 u w hg hu)
  have HJ : Hid (Calls Tryd.prog 29 #[.int .u64 u, .int .i64 16] w fun e w' => e = .returned (.string ⟨(hexS u).toArray⟩) ∧ Below w.heap.size w w') := by
    clear hg hu
    show Calls _ _ _ _ _
    go_enter Tryd.func29, Tryd.ntmps29
    go_wp2_with fail
    refine HI.out.mono ?_
    rintro e w1 ⟨rfl, hb⟩
    go_wp2
    go_ret
    exact ⟨rfl, hb⟩
  clear hg hu HI
  go_enter Tryd.func22, Tryd.ntmps22
  go_wp2_with fail
  refine HJ.out.mono ?_
  rintro e w1 ⟨rfl, hb⟩
  go_wp2
  go_ret
  exact ⟨rfl, hb⟩
end Go.Proofs.YtmnemjhkmllniaaDoor
