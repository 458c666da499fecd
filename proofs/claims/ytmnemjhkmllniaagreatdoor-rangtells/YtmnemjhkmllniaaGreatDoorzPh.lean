/- The library's ParseUint(s, 16, 16) at texts of at most four bytes. -/
import Derived.Lib.ConvBytes
import Derived.Lib.ParseIntBMem
import Derived.Lib.Hide
import Derived.Laws.Strings3
import Derived.Laws.Closers25
import Derived.Laws.Closers25b
import Derived.BigCall
import Derived.BigGuard
import Derived.Test.YtmnemjhkmllniaaGreatDoorzGl
namespace Go.Proofs.YtmnemjhkmllniaaGreatDoor
open Go.ChangeShapes Go.WideShapes Go.RowKit Go.Sort

def lowOk (n : Nat) : Bool :=
  (if 97 ≤ n ∧ n ≤ 102 then decide (bits .or .u8 (n : Int) 32 = n) else true) && (if 65 ≤ n ∧ n ≤ 70 then decide (bits .or .u8 (n : Int) 32 = n + 32) else true) &&
  (if (97 ≤ n ∧ n ≤ 102) ∨ (65 ≤ n ∧ n ≤ 70) then true else decide (bits .or .u8 (n : Int) 32 < 97 ∨ 102 < bits .or .u8 (n : Int) 32))
theorem lowOk_all : ∀ n, n < 256 → lowOk n = true := by decide +kernel
theorem low_small {n : Nat} (h : 97 ≤ n ∧ n ≤ 102) : bits .or .u8 (n : Int) 32 = n := by
  have := lowOk_all n (by omega)
  simp [lowOk, h] at this
  exact this.1
theorem low_great {n : Nat} (h : 65 ≤ n ∧ n ≤ 70) : bits .or .u8 (n : Int) 32 = n + 32 := by
  have := lowOk_all n (by omega)
  have h1 : ¬ (97 ≤ n ∧ n ≤ 102) := by omega
  simp only [lowOk, h, h1] at this
  simpa using this
theorem low_none {n : Nat} (hn : n < 256) (h1 : ¬ (97 ≤ n ∧ n ≤ 102)) (h2 : ¬ (65 ≤ n ∧ n ≤ 70)) : bits .or .u8 (n : Int) 32 < 97 ∨ 102 < bits .or .u8 (n : Int) 32 := by
  have := lowOk_all n hn
  simp only [lowOk, h1, h2] at this
  simpa using this

/-- What the inner ParseUint answers: the number, or its ErrSyntax. -/
def hexR (r : Option Nat) : Value := match r with
  | some n => .tuple #[.int .u64 n, .nilIface]
  | none => .tuple #[.int .u64 0, .iface 127 (.int .i64 2)]

set_option maxHeartbeats 8000000 in
set_option maxRecDepth 100000 in
theorem puh_in (t : ByteArray) (hne : t.size ≠ 0) (hmax : t.size ≤ 4) (w : World) :
    Calls Tryz.prog 104 #[.string t, .int .i64 16, .int .i64 16] w fun e w' => e = .returned (hexR (hexM 0 t.data.toList)) ∧ w' = Lib.bytesWorld w 5 t := by
  have hemp : t.toList.isEmpty = false := by
    rw [← decide_eq_emptyBytes]
    exact decide_eq_false (fun h => hne (by rw [h]; rfl))
  have hcv := Lib.run_convert_string_bytes (P := Tryz.prog) w 9 22 5 t (u := .string) Tryz.underlying9 Tryz.underlying22 Tryz.underlying5
  have hB : ∀ j, j < t.size → (Lib.bytesWorld w 5 t).cell? ⟨w.heap.size, j, none⟩ = some (.int .u8 (t.data.toList.getD j 0).toNat) := fun j hj => Lib.bytesWorld_cell w 5 t j hj
  obtain ⟨W1, hW1⟩ : ∃ W1, W1 = Lib.bytesWorld w 5 t := ⟨_, rfl⟩
  rw [← hW1] at hcv hB ⊢
  clear hW1
  obtain ⟨bs, hL⟩ : ∃ bs, bs = t.data.toList := ⟨_, rfl⟩
  have hLn : bs.length = t.size := by rw [hL, Lib.size_eq]
  rw [← hL] at hB ⊢
  clear hL
  have hmv : IntKind.u64.wrap (IntKind.u64.wrap 65536 - 1) = 65535 := by
    rw [IntKind.wrap_u64, IntKind.wrap_u64]
    decide
  go_enter Tryz.func104, Tryz.ntmps104
  go_wp2
  go_loop [12, 13, 101] (fun vu vn vi => ∃ (k acc : Nat) (a : Int), vu = .bool false ∧ vn = .int .u64 a ∧ vi = .int .i64 k ∧ k ≤ t.size ∧ Hid (a = (acc : Int) ∧ acc < 16 ^ k ∧ hexM 0 bs = hexM acc (bs.drop k)))
    (fun _ _ vi => t.size - (intOf vi).toNat)
  case atStart => exact ⟨0, 0, 0, rfl, rfl, rfl, by omega, rfl, by decide, rfl⟩
  case round =>
    obtain ⟨k, acc, a, rfl, rfl, rfl, hk, hh⟩ := hrel
    obtain ⟨ha, hacc, hdec⟩ := hh.out
    clear hh
    by_cases hkn : k < t.size
    · have hp : 16 ^ k ≤ 4096 := Nat.le_trans (Nat.pow_le_pow_right (by decide) (show k ≤ 3 by omega)) (by decide)
      have a0 : 0 ≤ a := by omega
      have a1 : a ≤ 4095 := by omega
      have hc := hB k hkn
      have hdrop : bs.drop k = bs[k]'(by omega) :: bs.drop (k + 1) := List.drop_eq_getElem_cons (by omega)
      have hget : bs.getD k 0 = bs[k]'(by omega) := by simp [List.getD, List.getElem?_eq_getElem (show k < bs.length by omega)]
      rw [hdrop] at hdec
      rw [hget] at hc
      generalize bs[k]'(by omega) = c at hc hdec
      have hc256 : c.toNat < 256 := c.toNat_lt
      have hps : 16 ^ (k + 1) = 16 ^ k * 16 := Nat.pow_succ ..
      clear hB hdrop hget
      by_cases hdig : 48 ≤ c.toNat ∧ c.toNat ≤ 57
      · obtain ⟨hd0, hd1⟩ := hdig
        have HN : Hid (a * 16 + ((c.toNat : Int) - 48) = ((acc * 16 + (c.toNat - 48) : Nat) : Int) ∧ acc * 16 + (c.toNat - 48) < 16 ^ (k + 1) ∧ hexM 0 bs = hexM (acc * 16 + (c.toNat - 48)) (bs.drop (k + 1))) :=
          Lib.hid ⟨by omega, by omega, by rw [hdec]; simp [hexM, hexD, hd0, hd1]⟩
        clear hdec hacc ha hp hps
        go_wp2
        refine ⟨⟨k + 1, acc * 16 + (c.toNat - 48), a * 16 + ((c.toNat : Int) - 48), rfl, (by first | rfl | (congr 1; omega)), (by first | rfl | (congr 1; omega)), by omega, HN⟩, by simp [intOf]; omega⟩
      · by_cases hsm : 97 ≤ c.toNat ∧ c.toNat ≤ 102
        · have HN : Hid (a * 16 + ((c.toNat : Int) - 87) = ((acc * 16 + (c.toNat - 87) : Nat) : Int) ∧ acc * 16 + (c.toNat - 87) < 16 ^ (k + 1) ∧ hexM 0 bs = hexM (acc * 16 + (c.toNat - 87)) (bs.drop (k + 1))) :=
            Lib.hid ⟨by omega, by omega, by rw [hdec]; simp [hexM, hexD, hsm, hdig]⟩
          have HL := low_small hsm
          obtain ⟨hd0, hd1⟩ := hsm
          clear hdec hacc ha hp hps hdig
          go_wp2_with (go_at_call 112; refine (Tryz.internal_strconv_lower _ _).mono ?_; rintro e w' ⟨rfl, rfl⟩)
          refine ⟨⟨k + 1, acc * 16 + (c.toNat - 87), a * 16 + ((c.toNat : Int) - 87), rfl, (by first | rfl | (congr 1; omega)), (by first | rfl | (congr 1; omega)), by omega, HN⟩, by simp [intOf]; omega⟩
        · by_cases hgr : 65 ≤ c.toNat ∧ c.toNat ≤ 70
          · have HN : Hid (a * 16 + ((c.toNat : Int) - 55) = ((acc * 16 + (c.toNat - 55) : Nat) : Int) ∧ acc * 16 + (c.toNat - 55) < 16 ^ (k + 1) ∧ hexM 0 bs = hexM (acc * 16 + (c.toNat - 55)) (bs.drop (k + 1))) :=
              Lib.hid ⟨by omega, by omega, by rw [hdec]; simp [hexM, hexD, hsm, hdig, hgr]⟩
            have HL := low_great hgr
            obtain ⟨hd0, hd1⟩ := hgr
            clear hdec hacc ha hp hps hdig hsm
            go_wp2_with (go_at_call 112; refine (Tryz.internal_strconv_lower _ _).mono ?_; rintro e w' ⟨rfl, rfl⟩)
            refine ⟨⟨k + 1, acc * 16 + (c.toNat - 55), a * 16 + ((c.toNat : Int) - 55), rfl, (by first | rfl | (congr 1; omega)), (by first | rfl | (congr 1; omega)), by omega, HN⟩, by simp [intOf]; omega⟩
          · have hF : hexM acc (c :: bs.drop (k + 1)) = none := by simp [hexM, hexD, hsm, hdig, hgr]
            rw [hF] at hdec
            have HD := Lib.hid hdec
            have hl := low_none hc256 hsm hgr
            have hv0 := bits_lo_u8 .or (c.toNat : Int) 32
            have hv1 := bits_hi_u8 .or (c.toNat : Int) 32
            have hu0 := bits_lo_u8 .or 95 32
            have hu1 := bits_hi_u8 .or 95 32
            clear hdec hacc ha hp hps hF
            rcases (show (bits .or .u8 (c.toNat : Int) 32 < 97) ∨ (122 < bits .or .u8 (c.toNat : Int) 32) ∨ (103 ≤ bits .or .u8 (c.toNat : Int) 32 ∧ bits .or .u8 (c.toNat : Int) 32 ≤ 122) by omega) with h1 | h1 | ⟨h1, h2⟩
            all_goals
              clear hl
              go_wp2_with (go_at_call 112; refine (Tryz.internal_strconv_lower _ _).mono ?_; rintro e w' ⟨rfl, rfl⟩)
            all_goals go_ret2
            all_goals exact ⟨by rw [HD.out]; rfl, rfl⟩
    · have hkk : k = t.size := by omega
      subst hkk
      have hF : hexM acc (bs.drop t.size) = some acc := by rw [List.drop_eq_nil_of_le (by omega)]; rfl
      rw [hF] at hdec
      have HD := Lib.hid hdec
      subst ha
      clear hacc hF hdec
      go_wp2
      go_ret2
      exact ⟨by rw [HD.out]; rfl, rfl⟩
end Go.Proofs.YtmnemjhkmllniaaGreatDoor
