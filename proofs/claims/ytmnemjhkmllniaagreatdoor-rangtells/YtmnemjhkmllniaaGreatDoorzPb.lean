/- addr.parseByte and addr.parseGroup: a number without a nought ahead, a group of hex digits. -/
import Derived.BigQuiet
import Derived.Test.YtmnemjhkmllniaaGreatDoorzPh
namespace Go.Proofs.YtmnemjhkmllniaaGreatDoor
open Go.ChangeShapes Go.WideShapes Go.RowKit Go.Sort

theorem bdrew {B : Nat} {a w : World} (h : Below B a w) (n : Nat) : Below B a (w.drewN n) := h.trans (Joins.below_draws _ _ _)

set_option maxHeartbeats 1000000 in
theorem puh_ok (s : ByteArray) (n : Nat) (w : World) (hne : s.size ≠ 0) (hmax : s.size ≤ 4) (h : hexM 0 s.data.toList = some n) :
    Calls Tryz.prog 95 #[.string s, .int .i64 16, .int .i64 16] w fun e w' => e = .returned (.tuple #[.int .u64 n, .nilIface]) ∧ Below w.heap.size w w' := by
  have hI := puh_in s hne hmax w
  rw [h] at hI
  have hI : Calls Tryz.prog 104 #[.string s, .int .i64 16, .int .i64 16] w fun e w' => e = .returned (.tuple #[.int .u64 n, .nilIface]) ∧ w' = Lib.bytesWorld w 5 s := hI
  clear h
  go_enter Tryz.func95, Tryz.ntmps95
  go_wp2_with fail
  refine hI.mono ?_
  rintro e W1 ⟨rfl, hW⟩
  have hb1 : Below w.heap.size w W1 := hW ▸ Lib.bytesWorld_below _ _ _
  clear hW
  go_wp2
  go_ret2
  exact ⟨rfl, hb1⟩
set_option maxHeartbeats 1000000 in
theorem puh_no (s : ByteArray) (w : World) (hg : Gl w) (hne : s.size ≠ 0) (hmax : s.size ≤ 4) (h : hexM 0 s.data.toList = none) :
    Calls Tryz.prog 95 #[.string s, .int .i64 16, .int .i64 16] w fun e w' => (∃ u N, e = .returned (.tuple #[.int .u64 u, .iface 130 (.pointer (some ⟨N, 0, none⟩))])) ∧ Below w.heap.size w w' := by
  have hI := puh_in s hne hmax w
  rw [h] at hI
  have hI : Calls Tryz.prog 104 #[.string s, .int .i64 16, .int .i64 16] w fun e w' => e = .returned (.tuple #[.int .u64 0, .iface 127 (.int .i64 2)]) ∧ w' = Lib.bytesWorld w 5 s := hI
  clear h
  go_enter Tryz.func95, Tryz.ntmps95
  go_wp2_with fail
  refine hI.mono ?_
  rintro e W1 ⟨rfl, hW⟩
  have hb1 : Below w.heap.size w W1 := hW ▸ Lib.bytesWorld_below _ _ _
  clear hW
  obtain ⟨ev, h1, h2⟩ := (hg.below hb1).es
  go_wp2_with fail
  refine (Tryz.strconv_toError_syntax ⟨#[80, 97, 114, 115, 101, 85, 105, 110, 116]⟩ s 16 16 ev _ (by omega) h1 h2).mono ?_
  rintro e W2 ⟨N, rfl, _, _, h3⟩
  go_wp2
  go_ret2
  exact ⟨⟨_, N, rfl⟩, hb1.trans (h3.mono hb1.size)⟩
set_option maxHeartbeats 400000 in
set_option maxRecDepth 100000 in
theorem puh_empty (w : World) (hg : Gl w) :
    Calls Tryz.prog 95 #[.string ⟨#[]⟩, .int .i64 16, .int .i64 16] w fun e w' => (∃ u N, e = .returned (.tuple #[.int .u64 u, .iface 130 (.pointer (some ⟨N, 0, none⟩))])) ∧ Below w.heap.size w w' := by
  have hI : Calls Tryz.prog 104 #[.string ⟨#[]⟩, .int .i64 16, .int .i64 16] w fun e w' => e = .returned (.tuple #[.int .u64 0, .iface 127 (.int .i64 2)]) ∧ w' = w := by
    go_enter Tryz.func104, Tryz.ntmps104
    go_wp2
    go_ret2
    exact ⟨rfl, rfl⟩
  go_enter Tryz.func95, Tryz.ntmps95
  go_wp2_with fail
  refine hI.mono ?_
  rintro e W1 ⟨rfl, rfl⟩
  obtain ⟨ev, h1, h2⟩ := hg.es
  go_wp2_with fail
  refine (Tryz.strconv_toError_syntax ⟨#[80, 97, 114, 115, 101, 85, 105, 110, 116]⟩ ⟨#[]⟩ 16 16 ev _ (by decide) h1 h2).mono ?_
  rintro e W2 ⟨N, rfl, _, _, h3⟩
  go_wp2
  go_ret2
  exact ⟨⟨_, N, rfl⟩, h3⟩

set_option maxHeartbeats 1000000 in
theorem group_ok (s : ByteArray) (n : Nat) (w : World) (h : groupV s.data.toList = some n) :
    Calls Tryz.prog 96 #[.string s] w fun e w' => e = .returned (.tuple #[.int .u64 n, .bool true]) ∧ Below w.heap.size w w' := by
  have hl := ba_len s
  unfold groupV at h
  split at h
  · cases h
  · rename_i hc
    have hne : s.size ≠ 0 := fun e => hc (Or.inl (List.length_eq_zero_iff.1 (by omega)))
    have hmax : s.size ≤ 4 := by omega
    have HI := Lib.hid (puh_ok s n w hne hmax h)
    clear hc h hne hl
    go_enter Tryz.func96, Tryz.ntmps96
    go_wp2_with fail
    refine HI.out.mono ?_
    rintro e W1 ⟨rfl, hb⟩
    go_wp2
    go_quiet (fail)
    go_wp2
    go_ret2
    exact ⟨rfl, bdrew hb _⟩
set_option maxHeartbeats 1000000 in
theorem group_no (s : ByteArray) (w : World) (hg : Gl w) (h : groupV s.data.toList = none) :
    Calls Tryz.prog 96 #[.string s] w fun e w' => (∃ u, e = .returned (.tuple #[.int .u64 u, .bool false])) ∧ Below w.heap.size w w' := by
  have hl := ba_len s
  by_cases hmax : s.size ≤ 4
  · have HI : Hid (Calls Tryz.prog 95 #[.string s, .int .i64 16, .int .i64 16] w fun e w' => (∃ u N, e = .returned (.tuple #[.int .u64 u, .iface 130 (.pointer (some ⟨N, 0, none⟩))])) ∧ Below w.heap.size w w') := by
      by_cases hz : s.size = 0
      · have he : s = ⟨#[]⟩ := by
          cases s with
          | mk d => congr 1; exact Array.eq_empty_of_size_eq_zero hz
        rw [he]; exact puh_empty w hg
      · refine puh_no s w hg hz hmax ?_
        unfold groupV at h
        rwa [if_neg (by intro e; rcases e with e | e; exact hz (by rw [← hl, e]; rfl); omega)] at h
    clear h hl
    go_enter Tryz.func96, Tryz.ntmps96
    go_wp2_with fail
    refine HI.out.mono ?_
    rintro e W1 ⟨⟨u, N, rfl⟩, hb⟩
    go_wp2
    go_quiet (fail)
    go_wp2
    go_ret2
    exact ⟨⟨_, rfl⟩, bdrew hb _⟩
  · have h4 : (4 : Int) < s.size := by omega
    clear h hl hmax
    go_enter Tryz.func96, Tryz.ntmps96
    go_wp2
    go_ret2
    exact ⟨⟨_, rfl⟩, Below.refl _ _⟩

theorem decV_ok {l : Bs} {n : Nat} (h : decV l = some n) : l.length ≤ 3 ∧ ¬ (1 < l.length ∧ l.head? = some 48) ∧ Lib.parseUintB 8 l = .ok n := by
  unfold decV at h
  split at h
  · cases h
  · rename_i hc
    split at h
    · rename_i u hu
      cases h
      exact ⟨by omega, fun e => hc (Or.inr e), hu⟩
    · cases h
theorem decV_no {l : Bs} (h : decV l = none) (h3 : l.length ≤ 3) (h0 : ¬ (1 < l.length ∧ l.head? = some 48)) : ∀ u, Lib.parseUintB 8 l ≠ .ok u := by
  intro u hu
  unfold decV at h
  rw [if_neg (by intro e; rcases e with e | e; omega; exact h0 e), hu] at h
  cases h
theorem head_byte (s : ByteArray) (h : 1 < s.size) : s.data.toList.head? = some (s[0]'(by omega)) := by
  have hl := ba_len s
  rw [List.head?_eq_getElem?, List.getElem?_eq_getElem (by omega)]
  rfl
set_option maxHeartbeats 1000000 in
theorem byte_ok (s : ByteArray) (n : Nat) (w : World) (h : decV s.data.toList = some n) :
    Calls Tryz.prog 77 #[.string s] w fun e w' => e = .returned (.tuple #[.int .u64 n, .bool true]) ∧ Below w.heap.size w w' := by
  have hl := ba_len s
  obtain ⟨h3, h0, hp⟩ := decV_ok h
  rw [hl] at h3 h0
  have HI := Lib.hid (pu10_ok s n w (by omega) hp)
  have h3' : ¬ (3 < (s.size : Int)) := by omega
  clear h hp hl
  by_cases h1 : 1 < s.size
  · have hh := head_byte s h1
    have hz : ¬ ((s[0]'(by omega)).toNat : Int) = 48 := by
      intro e
      refine h0 ⟨h1, ?_⟩
      rw [hh]
      congr 1
      exact UInt8.toNat_inj.1 (by simpa using Int.ofNat_inj.1 e)
    have hz' : (((s[0]'(by omega)).toNat : Int) == 48) = false := by simpa using hz
    have h1' : (1 : Int) < s.size := by omega
    have h1'' : 0 < s.size := by omega
    clear hh h0 hz
    go_enter Tryz.func77, Tryz.ntmps77
    go_wp2_with fail
    refine HI.out.mono ?_
    rintro e W1 ⟨rfl, hb⟩
    go_wp2
    go_quiet (fail)
    go_wp2
    go_ret2
    exact ⟨rfl, bdrew hb _⟩
  · have h1' : ¬ (1 : Int) < s.size := by omega
    clear h0
    go_enter Tryz.func77, Tryz.ntmps77
    go_wp2_with fail
    refine HI.out.mono ?_
    rintro e W1 ⟨rfl, hb⟩
    go_wp2
    go_quiet (fail)
    go_wp2
    go_ret2
    exact ⟨rfl, bdrew hb _⟩
set_option maxHeartbeats 1000000 in
theorem byte_no (s : ByteArray) (w : World) (hg : Gl w) (h : decV s.data.toList = none) :
    Calls Tryz.prog 77 #[.string s] w fun e w' => (∃ u, e = .returned (.tuple #[.int .u64 u, .bool false])) ∧ Below w.heap.size w w' := by
  have hl := ba_len s
  by_cases h3 : s.size ≤ 3
  · have h3' : ¬ (3 < (s.size : Int)) := by omega
    by_cases h1 : 1 < s.size
    · have h1' : (1 : Int) < s.size := by omega
      have h1'' : 0 < s.size := by omega
      have hh := head_byte s h1
      by_cases hz : (s[0]'(by omega)) = 48
      · have hz' : (((s[0]'(by omega)).toNat : Int) == 48) = true := by rw [hz]; rfl
        clear h hl hh hz
        go_enter Tryz.func77, Tryz.ntmps77
        go_wp2
        go_ret2
        exact ⟨⟨_, rfl⟩, Below.refl _ _⟩
      · have hz' : (((s[0]'(by omega)).toNat : Int) == 48) = false := by
          rw [beq_eq_false_iff_ne]; intro e; exact hz (UInt8.toNat_inj.1 (by simpa using Int.ofNat_inj.1 e))
        have HI := Lib.hid (pu10_no s w hg (by omega) (decV_no h (by omega) (by rw [hh]; intro e; exact hz (by simpa using e.2))))
        clear h hl hh hz
        go_enter Tryz.func77, Tryz.ntmps77
        go_wp2_with fail
        refine HI.out.mono ?_
        rintro e W1 ⟨⟨u, N, rfl⟩, hb⟩
        go_wp2
        go_quiet (fail)
        go_wp2
        go_ret2
        exact ⟨⟨_, rfl⟩, bdrew hb _⟩
    · have h1' : ¬ (1 : Int) < s.size := by omega
      have HI := Lib.hid (pu10_no s w hg (by omega) (decV_no h (by omega) (by omega)))
      clear h hl
      go_enter Tryz.func77, Tryz.ntmps77
      go_wp2_with fail
      refine HI.out.mono ?_
      rintro e W1 ⟨⟨u, N, rfl⟩, hb⟩
      go_wp2
      go_quiet (fail)
      go_wp2
      go_ret2
      exact ⟨⟨_, rfl⟩, bdrew hb _⟩
  · have h3' : 3 < (s.size : Int) := by omega
    clear h hl
    go_enter Tryz.func77, Tryz.ntmps77
    go_wp2
    go_ret2
    exact ⟨⟨_, rfl⟩, Below.refl _ _⟩
end Go.Proofs.YtmnemjhkmllniaaGreatDoor

/- addr.parseFour: four numbers with a dot between. -/
namespace Go.Proofs.YtmnemjhkmllniaaGreatDoor
open Go.ChangeShapes Go.WideShapes Go.RowKit Go.Sort

def fourR (r : Option Nat) : Value := match r with
  | some n => .tuple #[.agg #[.int .u64 0, .int .u64 n], .bool true]
  | none => .tuple #[.agg #[.int .u64 0, .int .u64 0], .bool false]
theorem or_add (k a b : Nat) (h : b < 2 ^ k) : (a * 2 ^ k) ||| b = a * 2 ^ k + b := by
  rw [Nat.mul_comm, ← Nat.two_pow_add_eq_or_of_lt h]
theorem bset2 {B b i j : Nat} {a w : World} {u v : Value} (h : Below B a w) (hb : B ≤ b) : Below B a ((w.setCell ⟨b, i, none⟩ u).setCell ⟨b, j, none⟩ v) := (h.setCell hb _).setCell hb _
theorem bset3 {B b i j k : Nat} {a w : World} {u v x : Value} (h : Below B a w) (hb : B ≤ b) : Below B a (((w.setCell ⟨b, i, none⟩ u).setCell ⟨b, j, none⟩ v).setCell ⟨b, k, none⟩ x) := ((h.setCell hb _).setCell hb _).setCell hb _
theorem cut_is (s : ByteArray) (k : UInt8) (w : World) (hg : Gl w) (hs : s.size < 4294967281) (b : Bool) (h : (Lib.cut s.data.toList [k]).2.2 = b) :
    Calls Tryz.prog 32 #[.string s, .string ⟨#[k]⟩] w fun e w' => e = .returned (.tuple #[.string ⟨(Lib.cut s.data.toList [k]).1.toArray⟩, .string ⟨(Lib.cut s.data.toList [k]).2.1.toArray⟩, .bool b]) ∧ Below w.heap.size w w' := h ▸ cut_x s k w hg hs
theorem four4_done {acc : Nat} {s : Bs} : four4 0 acc s = some acc := rfl
theorem four4_none {k acc : Nat} {s : Bs} (h : decV (Lib.cut s [46]).1 = none) : four4 (k + 1) acc s = none := by unfold four4; rw [h]
theorem four4_more {k acc n : Nat} {s : Bs} (h : decV (Lib.cut s [46]).1 = some n) (hm : (Lib.cut s [46]).2.2 ≠ decide (0 < k)) : four4 (k + 1) acc s = none := by
  unfold four4; rw [h]; simp [bne, hm]
theorem four4_step {k acc n : Nat} {s : Bs} (h : decV (Lib.cut s [46]).1 = some n) (hm : (Lib.cut s [46]).2.2 = decide (0 < k)) : four4 (k + 1) acc s = four4 k (acc * 256 + n) (Lib.cut s [46]).2.1 := by
  conv => lhs; unfold four4
  rw [h]; simp [hm]
set_option maxHeartbeats 4000000 in
set_option maxRecDepth 100000 in
theorem four_x (s : ByteArray) (w : World) (hg : Gl w) (hs : s.size < 4294967281) :
    Calls Tryz.prog 56 #[.string s] w fun e w' => e = .returned (fourR (fourV s.data.toList)) ∧ Below w.heap.size w w' := by
  have HG : Hid (Gl (w.alloc (.cells #[.int .u64 0, .int .u64 0] 26))) := hg.alloc _
  obtain ⟨W0, hW0⟩ : ∃ W0, W0 = w.alloc (.cells #[.int .u64 0, .int .u64 0] 26) := ⟨_, rfl⟩
  have B0 : Below w.heap.size w W0 := hW0 ▸ (Below.refl _ _).alloc (Nat.le_refl _) _
  have z0 : W0.cell? ⟨w.heap.size, 0, none⟩ = some (.int .u64 0) := by rw [hW0]; simp [go_sem]
  have z1 : W0.cell? ⟨w.heap.size, 1, none⟩ = some (.int .u64 0) := by rw [hW0]; simp [go_sem]
  have f0 : ∀ o, W0.frozen? ⟨w.heap.size, o, none⟩ = false := fun o => by rw [hW0]; exact World.frozen?_alloc_new _ _ _ _
  have s0 : w.heap.size < W0.heap.size := by rw [hW0]; simp
  rw [← hW0] at HG
  go_enter Tryz.func56, Tryz.ntmps56
  go_wp2
  rw [← hW0]
  clear hW0 hg
  go_loopw [4, 0, 11] (fun all sv i wr => ∃ (k acc : Nat) (t : ByteArray), k ≤ 4 ∧ i = .int .i64 k ∧ all = .int .u64 acc ∧ sv = .string t ∧ Hid (t.size < 4294967281 ∧ acc < 256 ^ k ∧ fourV s.data.toList = four4 (4 - k) acc t.data.toList) ∧ Below W0.heap.size W0 wr)
    (fun _ _ i _ => 4 - (intOf i).toNat)
  case atStart => exact ⟨0, 0, s, by omega, rfl, rfl, rfl, ⟨hs, by decide, rfl⟩, Below.refl _ _⟩
  case round =>
    obtain ⟨k, acc, t, hk, rfl, rfl, rfl, hh, hb⟩ := hrel
    obtain ⟨hts, hacc, hdec⟩ := hh.out
    clear hh
    have G1 := HG.out.below hb
    obtain ⟨kc, kf, kl⟩ := keepf hb w.heap.size s0
    have c0 : wr.cell? ⟨w.heap.size, 0, none⟩ = some (.int .u64 0) := (kc 0).trans z0
    have c1 : wr.cell? ⟨w.heap.size, 1, none⟩ = some (.int .u64 0) := (kc 1).trans z1
    have cf : ∀ o, wr.frozen? ⟨w.heap.size, o, none⟩ = false := fun o => (kf o).trans (f0 o)
    have B1 := below_next B0 hb
    clear kc kf
    by_cases hk4 : k < 4
    · have hcl := (cut_len t.data.toList [46])
      rw [ba_len] at hcl
      cases hd : decV (Lib.cut t.data.toList [46]).1 with
      | none =>
        have hF : fourV s.data.toList = none := by rw [hdec, show 4 - k = (3 - k) + 1 by omega, four4_none hd]
        have HF := Lib.hid hF
        have HD : Hid (decV (Lib.cut t.data.toList [46]).1 = none) := hd
        clear hd hF hdec hacc hcl
        go_wp2_with fail
        refine (cut_x t 46 _ G1 hts).mono ?_
        rintro e w1 ⟨rfl, hb1⟩
        have G2 := G1.below hb1
        obtain ⟨kc, kf, kl1⟩ := keepf hb1 w.heap.size kl
        have d0 : w1.cell? ⟨w.heap.size, 0, none⟩ = some (.int .u64 0) := (kc 0).trans c0
        have d1 : w1.cell? ⟨w.heap.size, 1, none⟩ = some (.int .u64 0) := (kc 1).trans c1
        have df : ∀ o, w1.frozen? ⟨w.heap.size, o, none⟩ = false := fun o => (kf o).trans (cf o)
        clear kc kf c0 c1 cf
        go_wp2_with fail
        refine (byte_no ⟨(Lib.cut t.data.toList [46]).1.toArray⟩ _ G2 HD.out).mono ?_
        rintro e w2 ⟨⟨u, rfl⟩, hb2⟩
        obtain ⟨kc, kf, kl2⟩ := keepf hb2 w.heap.size kl1
        have e0 : w2.cell? ⟨w.heap.size, 0, none⟩ = some (.int .u64 0) := (kc 0).trans d0
        have e1 : w2.cell? ⟨w.heap.size, 1, none⟩ = some (.int .u64 0) := (kc 1).trans d1
        have ef : ∀ o, w2.frozen? ⟨w.heap.size, o, none⟩ = false := fun o => (kf o).trans (df o)
        clear kc kf d0 d1 df
        go_wp2
        exact bodyPost_ret (v := .tuple #[.agg #[.int .u64 0, .int .u64 0], .bool false]) (by simp [results, Tryz.results56, go_sem, e0, e1]) rfl ⟨by rw [HF.out]; rfl, bset2 (below_next (below_next B1 hb1) hb2) (Nat.le_refl _)⟩
      | some d =>
        have hd256 := decV_lt hd
        by_cases hm : (Lib.cut t.data.toList [46]).2.2 = decide (0 < 3 - k)
        · have hF : fourV s.data.toList = four4 (4 - (k + 1)) (acc * 256 + d) (Lib.cut t.data.toList [46]).2.1 := by
            rw [hdec, show 4 - k = (3 - k) + 1 by omega, four4_step hd hm, show 4 - (k + 1) = 3 - k by omega]
          have hac : acc < 16777216 := Nat.lt_of_lt_of_le hacc (Nat.le_trans (Nat.pow_le_pow_right (by decide) (show k ≤ 3 by omega)) (by decide))
          have hor : bits .or .u64 (IntKind.u64.wrap ((acc : Int) * 256)) (d : Int) = ((acc * 256 + d : Nat) : Int) := by
            rw [IntKind.wrap_u64, show ((acc : Int) * 256) % 18446744073709551616 = ((acc * 256 : Nat) : Int) by omega, u64_or _ _ (by omega) (by omega) (by omega) (by omega)]
            simp only [Int.toNat_natCast]
            rw [or_add 8 acc d hd256]
          have hp : 256 ^ (k + 1) = 256 ^ k * 256 := Nat.pow_succ ..
          have HN : Hid ((⟨(Lib.cut t.data.toList [46]).2.1.toArray⟩ : ByteArray).size < 4294967281 ∧ acc * 256 + d < 256 ^ (k + 1) ∧ fourV s.data.toList = four4 (4 - (k + 1)) (acc * 256 + d) (Lib.cut t.data.toList [46]).2.1) :=
            ⟨by rw [ba_size]; omega, by omega, hF⟩
          have HD : Hid (decV (Lib.cut t.data.toList [46]).1 = some d) := hd
          have hmm : (Lib.cut t.data.toList [46]).2.2 = decide ((k : Int) < 3) := by rw [hm, Bool.eq_iff_iff]; simp; omega
          have HM := Lib.hid hmm
          have HO := Lib.hid hor
          clear hd hF hdec hacc hcl hp hm hmm hor hac hd256
          go_wp2_with fail
          refine (cut_is t 46 _ G1 hts _ HM.out).mono ?_
          rintro e w1 ⟨rfl, hb1⟩
          have G2 := G1.below hb1
          go_wp2_with fail
          refine (byte_ok ⟨(Lib.cut t.data.toList [46]).1.toArray⟩ d _ HD.out).mono ?_
          rintro e w2 ⟨rfl, hb2⟩
          go_wp2
          go_roundw
          case rel => exact ⟨k + 1, acc * 256 + d, ⟨(Lib.cut t.data.toList [46]).2.1.toArray⟩, by omega, by go_num, by rw [HO.out], rfl, HN.out, below_next (below_next hb hb1) hb2⟩
          case measure => simp [intOf]; omega
        · have hF : fourV s.data.toList = none := by rw [hdec, show 4 - k = (3 - k) + 1 by omega, four4_more hd hm]
          have HF := Lib.hid hF
          have HD : Hid (decV (Lib.cut t.data.toList [46]).1 = some d) := hd
          have hmm : (Lib.cut t.data.toList [46]).2.2 = !decide ((k : Int) < 3) := by
            cases hx : (Lib.cut t.data.toList [46]).2.2 <;> rw [hx] at hm <;> simp at hm ⊢ <;> omega
          have HM := Lib.hid hmm
          clear hd hF hdec hacc hcl hm hmm
          go_wp2_with fail
          refine (cut_is t 46 _ G1 hts _ HM.out).mono ?_
          rintro e w1 ⟨rfl, hb1⟩
          have G2 := G1.below hb1
          obtain ⟨kc, kf, kl1⟩ := keepf hb1 w.heap.size kl
          have d0 : w1.cell? ⟨w.heap.size, 0, none⟩ = some (.int .u64 0) := (kc 0).trans c0
          have d1 : w1.cell? ⟨w.heap.size, 1, none⟩ = some (.int .u64 0) := (kc 1).trans c1
          have df : ∀ o, w1.frozen? ⟨w.heap.size, o, none⟩ = false := fun o => (kf o).trans (cf o)
          clear kc kf c0 c1 cf
          go_wp2_with fail
          refine (byte_ok ⟨(Lib.cut t.data.toList [46]).1.toArray⟩ d _ HD.out).mono ?_
          rintro e w2 ⟨rfl, hb2⟩
          obtain ⟨kc, kf, kl2⟩ := keepf hb2 w.heap.size kl1
          have e0 : w2.cell? ⟨w.heap.size, 0, none⟩ = some (.int .u64 0) := (kc 0).trans d0
          have e1 : w2.cell? ⟨w.heap.size, 1, none⟩ = some (.int .u64 0) := (kc 1).trans d1
          have ef : ∀ o, w2.frozen? ⟨w.heap.size, o, none⟩ = false := fun o => (kf o).trans (df o)
          clear kc kf d0 d1 df
          by_cases hk3 : (k : Int) < 3
          all_goals
            go_wp2
            exact bodyPost_ret (v := .tuple #[.agg #[.int .u64 0, .int .u64 0], .bool false]) (by simp [results, Tryz.results56, go_sem, e0, e1]) rfl ⟨by rw [HF.out]; rfl, bset2 (below_next (below_next B1 hb1) hb2) (Nat.le_refl _)⟩
    · have hkk : k = 4 := by omega
      subst hkk
      have hF : fourV s.data.toList = some acc := hdec
      have HF := Lib.hid hF
      clear hF hdec hacc
      go_wp2
      exact bodyPost_ret (v := .tuple #[.agg #[.int .u64 0, .int .u64 acc], .bool true]) (by simp [results, Tryz.results56, go_sem, c0, c1]) rfl ⟨by rw [HF.out]; rfl, bset2 B1 (Nat.le_refl _)⟩
end Go.Proofs.YtmnemjhkmllniaaGreatDoor
