/- The library's FormatUint at base 10, for every number of 64 bits. -/
import Derived.Lib.ItoaMem
import Derived.Lib.AppendIntMem
import Derived.BigCall
import Derived.BigGuard
import Derived.Test.YtmnemjhkmllniaaGreatDoorzPb
namespace Go.Proofs.YtmnemjhkmllniaaGreatDoor
open Go.ChangeShapes Go.WideShapes Go.RowKit Go.Sort

theorem holds_zero0 (w : World) (T : TypeId) (nd : Nat) (hs : nd ≤ 24) : Holds (fun (b : UInt8) => Value.int .u8 (b.toNat : Int)) (w.alloc (.cells Lib.zeros24 T)) w.heap.size 0 (Array.replicate nd (0 : UInt8)) := fun j hj => by
  have hj' : j < nd := by simpa using hj
  refine ⟨?_, World.frozen?_alloc_new _ _ _ _⟩
  rw [World.cell?_alloc_new, Lib.zeros24_at _ (by omega), getElem!_pos _ j hj]
  simp
theorem fin_zero (w : World) (o : Obj) (dk : Array UInt8) (k : Nat) : Below w.heap.size w ((putRow (fun (b : UInt8) => Value.int .u8 (b.toNat : Int)) (w.alloc o) w.heap.size 0 dk).drewN k) := by
  rw [alloc_eq_grow]
  obtain ⟨os', _, e⟩ := putRow_grow_new (fun (b : UInt8) => Value.int .u8 (b.toNat : Int)) w #[o] w.heap.size 0 dk (Nat.le_refl _)
  rw [e]
  exact bdrew (by have := Lib.below_grow w.heap.size w (Nat.le_refl _) 0 os'; rwa [World.drewN_zero] at this) k
set_option maxHeartbeats 4000000 in
set_option maxRecDepth 100000 in
theorem fmt10_in (u : Nat) (w : World) (hg : Gl w) (hu64 : u < 18446744073709551616) :
    Calls Tryz.prog 97 #[.int .u64 u, .int .i64 10] w fun e w' => e = .returned (.string ⟨(Lib.decDigits u).toArray⟩) ∧ Below w.heap.size w w' := by
  by_cases hs : u < 100
  · have hs' : (u : Int) < 100 := by omega
    go_enter Tryz.func97, Tryz.ntmps97
    go_wp2_with fail
    refine (Tryz.internal_strconv_small u hs _).mono ?_
    rintro e w' ⟨rfl, rfl⟩
    go_wp2
    go_ret
    exact ⟨rfl, Below.refl _ _⟩
  · have hs' : ¬ (u : Int) < 100 := by omega
    have hu1 : 1 ≤ u := by omega
    have hnd20 : Lib.nDigits u ≤ 20 := by have := Lib.numDigits_eq u hu1 hu64; split at this <;> omega
    have hnd1 : 1 ≤ Lib.nDigits u := by rw [Lib.nDigits_big (by omega)]; omega
    have hal : Tryz.prog.arrayLen 122 = 24 := by kernel_rfl
    have hsl : ∀ W, (Instr.sliceAt 122 (.pointer (some ⟨w.heap.size, 0, none⟩)) none (some (.int .i64 (Lib.nDigits u : Int))) none).run Tryz.prog W = .ok (.slice (some ⟨w.heap.size, 0, none⟩) (Lib.nDigits u) 24) W := fun W => by
      rw [run_sliceAt_array_h W 122 ⟨w.heap.size, 0, none⟩ (by kernel_rfl) .i64 (Lib.nDigits u : Int) (by omega) (by rw [hal]; omega)]
      go_simp
    have hH0 := holds_zero0 w 122 (Lib.nDigits u) (by omega)
    have hfmt := Tryz.internal_strconv_formatBase10 w.heap.size 0 24 u (Array.replicate (Lib.nDigits u) 0) (w.alloc (.cells Lib.zeros24 122)) hH0 (by rw [Array.size_replicate]; exact Lib.lt_pow_nDigits u) hu64 (by rw [Array.size_replicate]; omega)
    rw [Array.size_replicate] at hfmt
    have HH0 := Lib.hid hH0
    have HFM := Lib.hid hfmt
    have HG := Lib.hid hg
    have HU := Lib.hid (show 1 ≤ u ∧ u < 18446744073709551616 from ⟨hu1, hu64⟩)
    clear hH0 hal hs hfmt hg hu64
    go_enter Tryz.func97, Tryz.ntmps97
    go_wp2_with fail
    refine (Tryz.internal_strconv_numDigits u HU.out.1 HU.out.2 _ (HG.out.alloc _).p10).mono ?_
    rintro e w' ⟨rfl, rfl⟩
    go_wp2_with fail
    refine HFM.out.mono ?_
    rintro e w' ⟨rfl, k, v', dk, rfl, hF⟩
    have hcv : (convert 22 9 (.slice (some ⟨w.heap.size, 0, none⟩) (Lib.nDigits u) 24)).run Tryz.prog ((putRow (fun (b : UInt8) => Value.int .u8 (b.toNat : Int)) (w.alloc (.cells Lib.zeros24 122)) w.heap.size 0 dk).drewN k) = .ok (.string ⟨(Lib.decDigits u).toArray⟩) ((putRow (fun (b : UInt8) => Value.int .u8 (b.toNat : Int)) (w.alloc (.cells Lib.zeros24 122)) w.heap.size 0 dk).drewN k) := by
      have h := run_convert_bytes_back (P := Tryz.prog) ((putRow (fun (b : UInt8) => Value.int .u8 (b.toNat : Int)) (w.alloc (.cells Lib.zeros24 122)) w.heap.size 0 dk).drewN k) 22 9 5 ⟨w.heap.size, 0, none⟩ 24 (Lib.decDigits u) Tryz.underlying22 Tryz.underlying5 Tryz.underlying9 (fun j hj => by
        rw [Lib.row_is_numeral hF j hj, Lib.add_plain, World.cell?_drewN]
        exact cell?_putRow (fun (b : UInt8) => Value.int .u8 (b.toNat : Int)) _ w.heap.size 0 _ dk HH0.out (by rw [hF.size, Array.size_replicate]) j (by rw [hF.size]; rw [Lib.decDigits_length] at hj; exact hj))
      rw [Lib.decDigits_length] at h
      exact h
    go_wp2
    go_ret
    exact ⟨rfl, fin_zero w _ dk k⟩
set_option maxHeartbeats 1000000 in
theorem fmt10 (u : Nat) (w : World) (hg : Gl w) (hu64 : u < 18446744073709551616) :
    Calls Tryz.prog 83 #[.int .u64 u, .int .i64 10] w fun e w' => e = .returned (.string ⟨(Lib.decDigits u).toArray⟩) ∧ Below w.heap.size w w' := by
  have HI := Lib.hid (fmt10_in u w hg hu64)
  clear hg hu64
  go_enter Tryz.func83, Tryz.ntmps83
  go_wp2_with fail
  refine HI.out.mono ?_
  rintro e w1 ⟨rfl, hb⟩
  go_wp2
  go_ret
  exact ⟨rfl, hb⟩
end Go.Proofs.YtmnemjhkmllniaaGreatDoor

/- The library's FormatUint at base 16, for every number of 16 bits. -/
namespace Go.Proofs.YtmnemjhkmllniaaGreatDoor
open Go.ChangeShapes Go.WideShapes Go.RowKit Go.Sort

theorem and15 (v : Nat) (h : v < 65536) : bits .and .u64 (v : Int) 15 = ((v % 16 : Nat) : Int) := by
  rw [show (15 : Int) = ((15 : Nat) : Int) by rfl, u64_and_nat _ _ (by omega) (by omega), show (15 : Nat) = 2 ^ 4 - 1 by rfl, Nat.and_two_pow_sub_one_eq_mod]
theorem tz16 (w : World) (ht : TabOk w) : Calls Tryz.prog 122 #[.int .u64 16] w fun e w' => e = .returned (.int .i64 4) ∧ w' = w := by
  have h := tz_any 16 w ht (by decide) (by decide)
  have h : Calls Tryz.prog 88 #[.int .u64 16] w fun e w' => e = .returned (.int .i64 4) ∧ w' = w := h
  have H := Lib.hid h
  clear h
  go_enter Tryz.func122, Tryz.ntmps122
  go_wp2_with fail
  refine H.out.mono ?_
  rintro e w1 ⟨rfl, rfl⟩
  go_wp2
  go_ret
  exact ⟨rfl, rfl⟩
def digs : ByteArray := ⟨#[48, 49, 50, 51, 52, 53, 54, 55, 56, 57, 97, 98, 99, 100, 101, 102, 103, 104, 105, 106, 107, 108, 109, 110, 111, 112, 113, 114, 115, 116, 117, 118, 119, 120, 121, 122]⟩
theorem zero65 : Tryz.zeroCells135 = Array.replicate 65 (.int .u8 0) := by kernel_rfl
theorem digs_at : ∀ d, (h : d < 16) → digs[d]'(by show d < 36; omega) = hexC d := by decide
theorem hexS_at (u : Nat) (hu : u < 65536) : ∃ k, k ≤ 3 ∧ u / 16 ^ k < 16 ∧ (k = 0 ∨ 16 ≤ u / 16 ^ (k - 1)) ∧ (hexS u).length = k + 1 ∧ ∀ j, j ≤ k → (hexS u)[j]? = some (hexC (u / 16 ^ (k - j) % 16)) := by
  unfold hexS
  split
  · refine ⟨0, by omega, by simpa using ‹_›, Or.inl rfl, rfl, fun j hj => ?_⟩
    obtain rfl : j = 0 := by omega
    simp
    congr 1
    omega
  · split
    · refine ⟨1, by omega, by omega, Or.inr (by omega), rfl, fun j hj => ?_⟩
      match j, hj with
      | 0, _ => simp; congr 1; omega
      | 1, _ => simp
    · split
      · refine ⟨2, by omega, by omega, Or.inr (by omega), rfl, fun j hj => ?_⟩
        match j, hj with
        | 0, _ => simp; congr 1; omega
        | 1, _ => simp
        | 2, _ => simp
      · refine ⟨3, by omega, by omega, Or.inr (by omega), rfl, fun j hj => ?_⟩
        match j, hj with
        | 0, _ => simp; congr 1; omega
        | 1, _ => simp
        | 2, _ => simp
        | 3, _ => simp
set_option maxHeartbeats 4000000 in
set_option maxRecDepth 100000 in
theorem bits16 (u : Nat) (w : World) (hg : Gl w) (hu : u < 65536) :
    Calls Tryz.prog 109 #[.slice none 0 0, .int .u64 u, .int .i64 16, .bool false, .bool false] w fun e w' => e = .returned (.tuple #[.slice none 0 0, .string ⟨(hexS u).toArray⟩]) ∧ Below w.heap.size w w' := by
  obtain ⟨W0, hW0⟩ : ∃ W0, W0 = w.alloc (.cells Tryz.zeroCells135 135) := ⟨_, rfl⟩
  have HG : Hid (Gl W0) := hW0 ▸ hg.alloc _
  have B0 : Below w.heap.size w W0 := hW0 ▸ (Below.refl _ _).alloc (Nat.le_refl _) _
  have HU := Lib.hid hu
  have HC : Hid ((∀ o, o < 65 → ∃ x, W0.cell? ⟨w.heap.size, o, none⟩ = some (.int .u8 x)) ∧ ∀ o, W0.frozen? ⟨w.heap.size, o, none⟩ = false) := by
    refine ⟨fun o ho => ⟨0, ?_⟩, fun o => ?_⟩
    · rw [hW0, World.cell?_alloc_new, zero65, Array.getElem?_replicate, if_pos ho]
    · rw [hW0]; exact World.frozen?_alloc_new _ _ _ _
  clear hu hg
  have hp2 : (bits BinOp.and IntKind.i64 16 15 == 0) = true := by decide +kernel
  go_enter Tryz.func109, Tryz.ntmps109
  go_wp2_with (first | (go_at_call 121; go_in) | fail)
  rw [← hW0]
  clear hW0
  refine (tz16 _ HG.out.tz).mono ?_
  rintro e w1 ⟨rfl, rfl⟩
  go_wp2
  go_loopw [1, 13] (fun uv iv wr => ∃ (k v : Nat), k ≤ 3 ∧ uv = .int .u64 v ∧ iv = .int .i64 (65 - (k : Int)) ∧ Hid (v = u / 16 ^ k ∧ (k = 0 ∨ 16 ≤ u / 16 ^ (k - 1)) ∧ (∀ j, j < k → wr.cell? ⟨w.heap.size, 64 - j, none⟩ = some (.int .u8 ((hexC (u / 16 ^ j % 16)).toNat : Int))) ∧ (∀ o, o < 65 → ∃ x, wr.cell? ⟨w.heap.size, o, none⟩ = some (.int .u8 x)) ∧ ∀ o, wr.frozen? ⟨w.heap.size, o, none⟩ = false) ∧ Below w.heap.size w wr)
    (fun uv _ _ => (intOf uv).toNat)
  case atStart => exact ⟨0, u, by omega, rfl, rfl, ⟨by simp, Or.inl rfl, fun j hj => by omega, HC.out.1, HC.out.2⟩, B0⟩
  case round =>
    obtain ⟨k, v, hk, rfl, rfl, hh, hb⟩ := hrel
    obtain ⟨hv, hk0, hd, hc, hf⟩ := hh.out
    have hv16 : v < 65536 := by rw [hv]; exact Nat.lt_of_le_of_lt (Nat.div_le_self _ _) HU.out
    by_cases h16 : 16 ≤ v
    · have h16' : (16 : Int) ≤ v := by omega
      have hk3 : k < 3 := by
        rcases Nat.lt_or_ge k 3 with h | h
        · exact h
        · obtain rfl : k = 3 := by omega
          have := HU.out
          omega
      have ha := and15 v hv16
      obtain ⟨x, hx⟩ := hc (65 - k - 1) (by omega)
      have hfk := hf (65 - k - 1)
      have HH := Lib.hid (And.intro hv (And.intro hd (And.intro hc hf)))
      have hm1 : ((v % 16 : Nat) : Int) < 36 := by omega
      have hm0 : (0 : Int) ≤ ((v % 16 : Nat) : Int) := by omega
      have HX := Lib.hid hx
      clear hh hv hk0 hd hc
      go_wp2
      go_roundw
      case rel =>
        obtain ⟨hv, hd, hc, hf⟩ := HH.out
        have e65 : 65 - k - 1 = 64 - k := by omega
        refine ⟨k + 1, v / 16, by omega, by go_num, by go_num, ⟨?_, Or.inr (by simpa [← hv] using h16), fun j hj => ?_, fun o ho => ?_, fun o => ?_⟩, hb.setCell (Nat.le_refl _) _⟩
        · rw [hv, Nat.div_div_eq_div_mul, ← Nat.pow_succ]
        · by_cases e : j = k
          · subst e
            rw [← hv, ← e65, World.cell?_setCell_same _ _ _ HX.out]
            exact congrArg (fun c : UInt8 => some (Value.int .u8 (c.toNat : Int))) (digs_at (v % 16) (by omega))
          · rw [World.cell?_setCell_other _ _ _ _ (by intro e; injection e with _ e; omega)]
            exact hd j (by omega)
        · by_cases e : o = 65 - k - 1
          · subst e
            exact ⟨_, World.cell?_setCell_same _ _ _ HX.out⟩
          · obtain ⟨y, hy⟩ := hc o ho
            exact ⟨y, by rw [World.cell?_setCell_other _ _ _ _ (by intro e; injection e with _ e; omega)]; exact hy⟩
        · simp [hf o]
      case measure => simp [intOf]; omega
    · have h16' : ¬ (16 : Int) ≤ v := by omega
      obtain ⟨x, hx⟩ := hc (65 - k - 1) (by omega)
      have hfk := hf (65 - k - 1)
      have HH := Lib.hid (And.intro hv (And.intro hd (And.intro hc (And.intro hf hk0))))
      have HX := Lib.hid hx
      have hm1 : (v : Int) < 36 := by omega
      have hlit : ∀ h, (⟨#[48, 49, 50, 51, 52, 53, 54, 55, 56, 57, 97, 98, 99, 100, 101, 102, 103, 104, 105, 106, 107, 108, 109, 110, 111, 112, 113, 114, 115, 116, 117, 118, 119, 120, 121, 122]⟩ : ByteArray)[v]'h = hexC v := fun h => digs_at v (by omega)
      have hal : Tryz.prog.arrayLen 135 = 65 := by kernel_rfl
      have hsl : ∀ W, (Instr.sliceAt 135 (.pointer (some ⟨w.heap.size, 0, none⟩)) (some (.int .i64 (65 - (k : Int) - 1))) none none).run Tryz.prog W = .ok (.slice (some ⟨w.heap.size, 65 - k - 1, none⟩) (k + 1) (k + 1)) W := fun W => by
        rw [run_sliceAt_array_l W 135 ⟨w.heap.size, 0, none⟩ (by kernel_rfl) .i64 (65 - (k : Int) - 1) (by omega) (by rw [hal]; omega)]
        go_simp
        omega
      have hcv : (convert 22 9 (.slice (some ⟨w.heap.size, 65 - k - 1, none⟩) (k + 1) (k + 1))).run Tryz.prog (wr.setCell ⟨w.heap.size, 65 - k - 1, none⟩ (.int .u8 ((hexC v).toNat : Int))) = .ok (.string ⟨(hexS u).toArray⟩) (wr.setCell ⟨w.heap.size, 65 - k - 1, none⟩ (.int .u8 ((hexC v).toNat : Int))) := by
        obtain ⟨k', h1, h2, h3, h4, h5⟩ := hexS_at u HU.out
        obtain rfl : k = k' := by
          have hu := HU.out
          have hv2 : u / 16 ^ k < 16 := by omega
          rcases (show k = 0 ∨ k = 1 ∨ k = 2 ∨ k = 3 by omega) with rfl | rfl | rfl | rfl <;> rcases (show k' = 0 ∨ k' = 1 ∨ k' = 2 ∨ k' = 3 by omega) with rfl | rfl | rfl | rfl <;> simp at h2 h3 hv2 hk0 ⊢ <;> omega
        have h := run_convert_bytes_back (P := Tryz.prog) (wr.setCell ⟨w.heap.size, 65 - k - 1, none⟩ (.int .u8 ((hexC v).toNat : Int))) 22 9 5 ⟨w.heap.size, 65 - k - 1, none⟩ (k + 1) (hexS u) Tryz.underlying22 Tryz.underlying5 Tryz.underlying9 (fun j hj => by
          have hj' : j ≤ k := by omega
          have e := h5 j hj'
          rw [List.getElem?_eq_getElem hj] at e
          rw [Option.some.inj e, Lib.add_plain]
          by_cases e0 : j = 0
          · subst e0
            rw [Nat.add_zero, Nat.sub_zero, ← hv, World.cell?_setCell_same _ _ _ hx, Nat.mod_eq_of_lt (by omega)]
          · rw [World.cell?_setCell_other _ _ _ _ (by intro e; injection e with _ e; omega), show 65 - k - 1 + j = 64 - (k - j) by omega]
            exact hd (k - j) (by omega))
        rw [h4] at h
        exact h
      clear hh hv hk0 hd hc hal
      go_wp2
      go_ret2
      exact ⟨rfl, hb.setCell (Nat.le_refl _) _⟩
set_option maxHeartbeats 1000000 in
theorem fmt16 (u : Nat) (w : World) (hg : Gl w) (hu : u < 65536) :
    Calls Tryz.prog 83 #[.int .u64 u, .int .i64 16] w fun e w' => e = .returned (.string ⟨(hexS u).toArray⟩) ∧ Below w.heap.size w w' := by
  have HI := Lib.hid (bits16 u w hg hu)
  have HJ : Hid (Calls Tryz.prog 97 #[.int .u64 u, .int .i64 16] w fun e w' => e = .returned (.string ⟨(hexS u).toArray⟩) ∧ Below w.heap.size w w') := by
    clear hg hu
    show Calls _ _ _ _ _
    go_enter Tryz.func97, Tryz.ntmps97
    go_wp2_with fail
    refine HI.out.mono ?_
    rintro e w1 ⟨rfl, hb⟩
    go_wp2
    go_ret
    exact ⟨rfl, hb⟩
  clear hg hu HI
  go_enter Tryz.func83, Tryz.ntmps83
  go_wp2_with fail
  refine HJ.out.mono ?_
  rintro e w1 ⟨rfl, hb⟩
  go_wp2
  go_ret
  exact ⟨rfl, hb⟩
end Go.Proofs.YtmnemjhkmllniaaGreatDoor
