/- The laws' own maker of texts: whatever the numbers, it answers some string of at most 400 bytes (stage 3: without the checker's texts' sizes alone). -/
import Derived.Deep.QuietTactic
import Derived.BigQuiet
import Derived.Test.YtmnemjhkmllniaaGreatDoorzXp
import Derived.Test.YtmnemjhkmllniaaGreatDoorzLb
namespace Go.Proofs.YtmnemjhkmllniaaGreatDoor
open Go.ChangeShapes Go.WideShapes Go.RowKit Go.Sort

theorem baS_size (l : Bs) : (baS l).size = l.length := by simp [baS, ByteArray.size]
/-- A string of at most n bytes. -/
def Told (n : Nat) (e : Ending) : Prop := ∃ s : Bs, e = .returned (.string (baS s)) ∧ s.length ≤ n
/-- A row of n numbers lies in memory. -/
def IntsAt (w : World) (a : Option Addr) (n : Nat) : Prop := ∀ j, j < n → ∃ p z, a = some p ∧ p.block < w.heap.size ∧ w.cell? (p.add j) = some (.int .i64 z)
theorem add_block (p : Addr) (j : Nat) : (p.add j).block = p.block := by unfold Addr.add; split <;> rfl
theorem IntsAt.below {w w' : World} {a : Option Addr} {n : Nat} (h : IntsAt w a n) (hb : Below w.heap.size w w') : IntsAt w' a n := fun j hj => by
  obtain ⟨p, z, e, hl, hc⟩ := h j hj
  exact ⟨p, z, e, Nat.lt_of_lt_of_le hl hb.size, (hb.cell (p := p.add j) (by rw [add_block]; exact hl)).trans hc⟩
theorem baS_of (b : ByteArray) (l : Bs) (h : b.data.toList = l) : b = baS l := by subst h; cases b; simp [baS]
theorem sliceTo (s : Bs) (k : Nat) (hk : k ≤ s.length) (V : World) : (Instr.slice 9 (.string (baS s)) none (some (.int .i64 (k : Int))) none).run Tryz.prog V = .ok (.string (baS (s.take k))) V := by
  rw [run_slice_string_h V 9 (baS s) Tryz.underlying9 .i64 (k : Int) (by omega) (by rw [baS_size]; omega)]
  rw [baS_of ((baS s).extract 0 (k : Int).toNat) (s.take k) (by rw [Lib.extract_data]; simp [baS])]
theorem sliceFrom (s : Bs) (k : Nat) (hk : k ≤ s.length) (V : World) : (Instr.slice 9 (.string (baS s)) (some (.int .i64 (k : Int))) none none).run Tryz.prog V = .ok (.string (baS (s.drop k))) V := by
  rw [run_slice_string_l V 9 (baS s) Tryz.underlying9 .i64 (k : Int) (by omega) (by rw [baS_size]; omega)]
  rw [baS_of ((baS s).extract (k : Int).toNat (baS s).size) (s.drop k) (by rw [Lib.extract_data, baS_size]; simp [baS, List.take_of_length_le])]
/-- The sixteen pieces. -/
def Pieces (w : World) (H : Nat) : Prop := ∀ d, d < 16 → ∃ t : Bs, w.cell? ⟨H, d, none⟩ = some (.string (baS t)) ∧ t.length ≤ 8
theorem pieces_new (w : World) : Pieces (w.alloc (.cells #[.string ⟨#[58]⟩, .string ⟨#[58, 58]⟩, .string ⟨#[46]⟩, .string ⟨#[48]⟩, .string ⟨#[49]⟩, .string ⟨#[102, 102, 102, 102]⟩, .string ⟨#[49, 50, 51, 52, 53]⟩, .string ⟨#[103]⟩, .string ⟨#[50, 53, 53]⟩, .string ⟨#[50, 53, 54]⟩, .string ⟨#[48, 49]⟩, .string ⟨#[49, 48, 46, 48, 46, 48, 46, 49]⟩, .string ⟨#[65]⟩, .string ⟨#[49, 46, 50, 46, 51]⟩, .string ⟨#[47]⟩, .string ⟨#[32]⟩] 9)) w.heap.size := fun d hd => by
    rcases (show d = 0 ∨ d = 1 ∨ d = 2 ∨ d = 3 ∨ d = 4 ∨ d = 5 ∨ d = 6 ∨ d = 7 ∨ d = 8 ∨ d = 9 ∨ d = 10 ∨ d = 11 ∨ d = 12 ∨ d = 13 ∨ d = 14 ∨ d = 15 by omega) with rfl | rfl | rfl | rfl | rfl | rfl | rfl | rfl | rfl | rfl | rfl | rfl | rfl | rfl | rfl | rfl
    · exact ⟨[58], by rw [World.cell?_alloc_new]; rfl, by decide⟩
    · exact ⟨[58, 58], by rw [World.cell?_alloc_new]; rfl, by decide⟩
    · exact ⟨[46], by rw [World.cell?_alloc_new]; rfl, by decide⟩
    · exact ⟨[48], by rw [World.cell?_alloc_new]; rfl, by decide⟩
    · exact ⟨[49], by rw [World.cell?_alloc_new]; rfl, by decide⟩
    · exact ⟨[102, 102, 102, 102], by rw [World.cell?_alloc_new]; rfl, by decide⟩
    · exact ⟨[49, 50, 51, 52, 53], by rw [World.cell?_alloc_new]; rfl, by decide⟩
    · exact ⟨[103], by rw [World.cell?_alloc_new]; rfl, by decide⟩
    · exact ⟨[50, 53, 53], by rw [World.cell?_alloc_new]; rfl, by decide⟩
    · exact ⟨[50, 53, 54], by rw [World.cell?_alloc_new]; rfl, by decide⟩
    · exact ⟨[48, 49], by rw [World.cell?_alloc_new]; rfl, by decide⟩
    · exact ⟨[49, 48, 46, 48, 46, 48, 46, 49], by rw [World.cell?_alloc_new]; rfl, by decide⟩
    · exact ⟨[65], by rw [World.cell?_alloc_new]; rfl, by decide⟩
    · exact ⟨[49, 46, 50, 46, 51], by rw [World.cell?_alloc_new]; rfl, by decide⟩
    · exact ⟨[47], by rw [World.cell?_alloc_new]; rfl, by decide⟩
    · exact ⟨[32], by rw [World.cell?_alloc_new]; rfl, by decide⟩
theorem i64_and1 (n : Int) : bits .and .i64 n 1 = n % 2 := by
  have h1 : (BitVec.ofInt 64 1).toNat = 2 ^ 1 - 1 := by decide
  have h : (BitVec.ofInt 64 n &&& BitVec.ofInt 64 1).toNat = (n % ((2 ^ 64 : Nat) : Int)).toNat % 2 ^ 1 := by
    rw [BitVec.toNat_and, BitVec.toNat_ofInt, h1, Nat.and_two_pow_sub_one_eq_mod]
  show IntKind.i64.wrap ((BitVec.ofInt 64 n &&& BitVec.ofInt 64 1).toNat : Nat) = n % 2
  rw [h, IntKind.wrap_i64]
  omega
/-- A rest, as a natural number. -/
theorem rest_nat (y : Int) (m : Nat) (h : 0 ≤ y) : ∃ k : Nat, k ≤ m ∧ y.tmod ((m : Int) + 1) = (k : Int) := by
  rw [Int.tmod_eq_emod_of_nonneg h]
  have h1 := Int.emod_nonneg y (show (m : Int) + 1 ≠ 0 by omega)
  have h2 := Int.emod_lt_of_pos y (show 0 < (m : Int) + 1 by omega)
  exact ⟨(y % ((m : Int) + 1)).toNat, by omega, by omega⟩
set_option maxHeartbeats 8000000 in
set_option maxRecDepth 100000 in
theorem text_x (v a b : Int) (p : Option Addr) (n c : Nat) (w : World) (ha : 0 ≤ a ∧ a < 18446744073709551616) (hb : 0 ≤ b ∧ b < 18446744073709551616) (hp : IntsAt w p n) (_hn : n ≤ 9223372036854775807) :
    Calls Tryz.prog 8 #[.int .i64 v, .int .u64 a, .int .u64 b, .slice p n c] w fun e w' => Told 400 e ∧ Below w.heap.size w w' := by
  have HA := Lib.hid ha
  have HB := Lib.hid hb
  have HP := Lib.hid hp
  clear ha hb hp
  go_enter Tryz.func8, Tryz.ntmps8
  go_wp2_with fail
  refine (addr_x v a b w HA.out HB.out).mono ?_
  rintro e w1 ⟨⟨u, x, rfl, ho, hx⟩, hb1⟩
  have HO := Lib.hid (And.intro ho hx)
  clear ho hx
  go_wp2_with fail
  refine (printE_x u x w1 HO.out.2).mono ?_
  rintro e w2 ⟨rfl, hb2⟩
  have hs0 := tellV_len u x
  generalize tellV u x = s0 at *
  have HB2 : Hid (Below w.heap.size w w2) := below_next hb1 hb2
  have HS0 := Lib.hid hs0
  clear hb1 hb2 hs0
  go_wp2
  obtain ⟨W, hW⟩ : ∃ W, W = w2.alloc (.cells #[.string ⟨#[58]⟩, .string ⟨#[58, 58]⟩, .string ⟨#[46]⟩, .string ⟨#[48]⟩, .string ⟨#[49]⟩, .string ⟨#[102, 102, 102, 102]⟩, .string ⟨#[49, 50, 51, 52, 53]⟩, .string ⟨#[103]⟩, .string ⟨#[50, 53, 53]⟩, .string ⟨#[50, 53, 54]⟩, .string ⟨#[48, 49]⟩, .string ⟨#[49, 48, 46, 48, 46, 48, 46, 49]⟩, .string ⟨#[65]⟩, .string ⟨#[49, 46, 50, 46, 51]⟩, .string ⟨#[47]⟩, .string ⟨#[32]⟩] 9) := ⟨_, rfl⟩
  rw [← hW]
  have HPC : Hid (Pieces W w2.heap.size ∧ w2.heap.size < W.heap.size) := ⟨hW ▸ pieces_new w2, by rw [hW]; simp⟩
  have HBW : Hid (Below w.heap.size w W) := hW ▸ ball HB2.out
  clear hW HB2
  go_loopw [9, 11] (fun sv iv wr => ∃ (s : Bs) (i : Nat), sv = .string (baS s) ∧ iv = .int .i64 i ∧ i ≤ 12 ∧ Hid (s.length ≤ 100 + 10 * i) ∧ Below W.heap.size W wr)
    (fun _ iv _ => 12 - (intOf iv).toNat)
  case atStart => exact ⟨s0, 0, rfl, rfl, by omega, by show _ ≤ _; have := HS0.out; omega, Below.refl _ _⟩
  case round =>
    obtain ⟨s, i, rfl, rfl, hi, hs, hb⟩ := hrel
    by_cases hin : i < n
    · have hin' : (i : Int) < (n : Int) := by omega
      by_cases hi12 : i < 12
      · have hi12' : (i : Int) < 12 := by omega
        obtain ⟨q, z, rfl, hq, hcz⟩ := (HP.out.below (below_next HBW.out hb)) i hin
        have hpc : Hid (Pieces wr w2.heap.size) := fun d hd => by
          obtain ⟨t, h1, h2⟩ := HPC.out.1 d hd
          exact ⟨t, (hb.cell (p := ⟨w2.heap.size, d, none⟩) HPC.out.2).trans h1, h2⟩
        obtain ⟨m, hm⟩ : ∃ m, m = s.length := ⟨_, rfl⟩
        have hsz : (baS s).size = m := by rw [baS_size, hm]
        have HM := Lib.hid hm
        have hm300 : m ≤ 220 := by have := hs.out; omega
        obtain ⟨k, hkm, hkk⟩ := rest_nat (bits .and .i64 (z / 256) 255) m (by rw [i64_and255]; omega)
        obtain ⟨d, hd15, hdd⟩ := rest_nat (bits .and .i64 z 255) 15 (by rw [i64_and255]; omega)
        have hd16 : d < 16 := by omega
        rw [show (((15 : Nat) : Int) + 1) = 16 from rfl] at hdd
        cases hv : (bits .and .i64 (v / 1048576) 3 == 0)
        · 
          obtain ⟨t, hct, ht8⟩ := hpc.out d hd16
          obtain ⟨e, heK, hee⟩ := rest_nat (bits .and .i64 (z / 65536) 1) (m - k) (by rw [i64_and1]; omega)
          rw [show (((m - k : Nat) : Int) + 1) = (m : Int) - k + 1 by omega] at hee
          have hs1 := sliceTo s k (by omega)
          have hs2 := sliceFrom s (k + e) (by omega)
          rw [Int.natCast_add] at hs2
          have hadd1 := addS (s.take k) t (by simp; omega) (by omega)
          obtain ⟨A, hA⟩ : ∃ A, A = s.take k ++ t := ⟨_, rfl⟩
          have lA : A.length ≤ k + 8 := by rw [hA]; simp; omega
          rw [← hA] at hadd1
          have hadd2 := addS A (s.drop (k + e)) (by omega) (by simp; omega)
          obtain ⟨D, hD⟩ : ∃ D, D = A ++ s.drop (k + e) := ⟨_, rfl⟩
          have lD : D.length ≤ m + 8 := by rw [hD]; simp; omega
          rw [← hD] at hadd2
          generalize s.take k = S1 at hs1 hadd1
          generalize s.drop (k + e) = S2 at hs2 hadd2
          have HLD := Lib.hid lD
          clear hA hD lA lD
          clear hm
          go_wp2_with fail
          go_quiet (fail)
          go_wp2
          go_roundw
          case rel => exact ⟨D, i + 1, rfl, by go_num, by omega, by show _ ≤ _; have := HLD.out; have := hs.out; have := HM.out; omega, bdrew hb _⟩
          case measure => simp [intOf]; omega
        · 
          obtain ⟨t, hct, ht8⟩ := hpc.out d hd16
          have hee : (bits .and .i64 (z / 65536) 1).tmod 1 = 0 := Int.tmod_one _
          have hs1 := sliceTo s m (by omega)
          have hs2 := sliceFrom s m (by omega)
          have hadd1 := addS (s.take m) t (by simp; omega) (by omega)
          obtain ⟨A, hA⟩ : ∃ A, A = s.take m ++ t := ⟨_, rfl⟩
          have lA : A.length ≤ m + 8 := by rw [hA]; simp; omega
          rw [← hA] at hadd1
          have hadd2 := addS A (s.drop m) (by omega) (by simp; omega)
          obtain ⟨D, hD⟩ : ∃ D, D = A ++ s.drop m := ⟨_, rfl⟩
          have lD : D.length ≤ m + 8 := by rw [hD]; simp; omega
          rw [← hD] at hadd2
          generalize s.take m = S1 at hs1 hadd1
          generalize s.drop m = S2 at hs2 hadd2
          have HLD := Lib.hid lD
          clear hA hD lA lD
          clear hm
          go_wp2_with fail
          go_quiet (fail)
          go_wp2
          go_roundw
          case rel => exact ⟨D, i + 1, rfl, by go_num, by omega, by show _ ≤ _; have := HLD.out; have := hs.out; have := HM.out; omega, bdrew hb _⟩
          case measure => simp [intOf]; omega
      · have hi12' : ¬ (i : Int) < 12 := by omega
        go_wp2
        go_ret
        exact ⟨⟨s, rfl, by have := hs.out; omega⟩, below_next HBW.out hb⟩
    · have hin' : ¬ (i : Int) < (n : Int) := by omega
      go_wp2
      go_ret
      exact ⟨⟨s, rfl, by have := hs.out; omega⟩, below_next HBW.out hb⟩
end Go.Proofs.YtmnemjhkmllniaaGreatDoor
