/- addr.parseByte and addr.parseGroup: a number without a nought ahead, a group of hex digits. -/
import Derived.BigQuiet
import Derived.Test.YtkmbfnjmgimlhaaGreatDoorzPh
namespace Go.Proofs.YtkmbfnjmgimlhaaGreatDoor
open Go.ChangeShapes Go.WideShapes Go.RowKit Go.Sort

theorem bdrew {B : Nat} {a w : World} (h : Below B a w) (n : Nat) : Below B a (w.drewN n) := h.trans (Joins.below_draws _ _ _)

set_option maxHeartbeats 1000000 in
theorem puh_ok (s : ByteArray) (n : Nat) (w : World) (hne : s.size ≠ 0) (hmax : s.size ≤ 4) (h : hexM 0 s.data.toList = some n) :
    Calls Tryz.prog 87 #[.string s, .int .i64 16, .int .i64 16] w fun e w' => e = .returned (.tuple #[.int .u64 n, .nilIface]) ∧ Below w.heap.size w w' := by
  have hI := puh_in s hne hmax w
  rw [h] at hI
  have hI : Calls Tryz.prog 107 #[.string s, .int .i64 16, .int .i64 16] w fun e w' => e = .returned (.tuple #[.int .u64 n, .nilIface]) ∧ w' = Lib.bytesWorld w 5 s := hI
  clear h
  go_enter Tryz.func87, Tryz.ntmps87
  go_wp2_with fail
  refine hI.mono ?_
  rintro e W1 ⟨rfl, hW⟩
  have hb1 : Below w.heap.size w W1 := hW ▸ Lib.bytesWorld_below _ _ _
  clear hW
  go_wp2
  go_ret2
  exact ⟨rfl, hb1⟩
set_option maxHeartbeats 1000000 in
theorem puh_no (s : ByteArray) (w : World) (hg : Gl w) (hne : s.size ≠ 0) (hmax : s.size ≤ 4) (h : hexM 0 s.data.toList = none) :
    Calls Tryz.prog 87 #[.string s, .int .i64 16, .int .i64 16] w fun e w' => (∃ u N, e = .returned (.tuple #[.int .u64 u, .iface 129 (.pointer (some ⟨N, 0, none⟩))])) ∧ Below w.heap.size w w' := by
  have hI := puh_in s hne hmax w
  rw [h] at hI
  have hI : Calls Tryz.prog 107 #[.string s, .int .i64 16, .int .i64 16] w fun e w' => e = .returned (.tuple #[.int .u64 0, .iface 126 (.int .i64 2)]) ∧ w' = Lib.bytesWorld w 5 s := hI
  clear h
  go_enter Tryz.func87, Tryz.ntmps87
  go_wp2_with fail
  refine hI.mono ?_
  rintro e W1 ⟨rfl, hW⟩
  have hb1 : Below w.heap.size w W1 := hW ▸ Lib.bytesWorld_below _ _ _
  clear hW
  obtain ⟨ev, h1, h2⟩ := (hg.below hb1).es
  go_wp2_with fail
  refine (Tryz.strconv_toError_syntax ⟨#[80, 97, 114, 115, 101, 85, 105, 110, 116]⟩ s 16 16 ev _ (by omega) h1 h2).mono ?_
  rintro e W2 ⟨N, rfl, _, _, h3⟩
  go_wp2
  go_ret2
  exact ⟨⟨_, N, rfl⟩, hb1.trans (h3.mono hb1.size)⟩
set_option maxHeartbeats 400000 in
set_option maxRecDepth 100000 in
theorem puh_empty (w : World) (hg : Gl w) :
    Calls Tryz.prog 87 #[.string ⟨#[]⟩, .int .i64 16, .int .i64 16] w fun e w' => (∃ u N, e = .returned (.tuple #[.int .u64 u, .iface 129 (.pointer (some ⟨N, 0, none⟩))])) ∧ Below w.heap.size w w' := by
  have hI : Calls Tryz.prog 107 #[.string ⟨#[]⟩, .int .i64 16, .int .i64 16] w fun e w' => e = .returned (.tuple #[.int .u64 0, .iface 126 (.int .i64 2)]) ∧ w' = w := by
    go_enter Tryz.func107, Tryz.ntmps107
    go_wp2
    go_ret2
    exact ⟨rfl, rfl⟩
  go_enter Tryz.func87, Tryz.ntmps87
  go_wp2_with fail
  refine hI.mono ?_
  rintro e W1 ⟨rfl, rfl⟩
  obtain ⟨ev, h1, h2⟩ := hg.es
  go_wp2_with fail
  refine (Tryz.strconv_toError_syntax ⟨#[80, 97, 114, 115, 101, 85, 105, 110, 116]⟩ ⟨#[]⟩ 16 16 ev _ (by decide) h1 h2).mono ?_
  rintro e W2 ⟨N, rfl, _, _, h3⟩
  go_wp2
  go_ret2
  exact ⟨⟨_, N, rfl⟩, h3⟩

set_option maxHeartbeats 1000000 in
theorem group_ok (s : ByteArray) (n : Nat) (w : World) (h : groupV s.data.toList = some n) :
    Calls Tryz.prog 121 #[.string s] w fun e w' => e = .returned (.tuple #[.int .u64 n, .bool true]) ∧ Below w.heap.size w w' := by
  have hl := ba_len s
  unfold groupV at h
  split at h
  · cases h
  · rename_i hc
    have hne : s.size ≠ 0 := fun e => hc (Or.inl (List.length_eq_zero_iff.1 (by omega)))
    have hmax : s.size ≤ 4 := by omega
    have HI := Lib.hid (puh_ok s n w hne hmax h)
    clear hc h hne hl
    go_enter Tryz.func121, Tryz.ntmps121
    go_wp2_with fail
    refine HI.out.mono ?_
    rintro e W1 ⟨rfl, hb⟩
    go_wp2
    go_quiet (fail)
    go_wp2
    go_ret2
    exact ⟨rfl, bdrew hb _⟩
set_option maxHeartbeats 1000000 in
theorem group_no (s : ByteArray) (w : World) (hg : Gl w) (h : groupV s.data.toList = none) :
    Calls Tryz.prog 121 #[.string s] w fun e w' => (∃ u, e = .returned (.tuple #[.int .u64 u, .bool false])) ∧ Below w.heap.size w w' := by
  have hl := ba_len s
  by_cases hmax : s.size ≤ 4
  · have HI : Hid (Calls Tryz.prog 87 #[.string s, .int .i64 16, .int .i64 16] w fun e w' => (∃ u N, e = .returned (.tuple #[.int .u64 u, .iface 129 (.pointer (some ⟨N, 0, none⟩))])) ∧ Below w.heap.size w w') := by
      by_cases hz : s.size = 0
      · have he : s = ⟨#[]⟩ := by
          cases s with
          | mk d => congr 1; exact Array.eq_empty_of_size_eq_zero hz
        rw [he]; exact puh_empty w hg
      · refine puh_no s w hg hz hmax ?_
        unfold groupV at h
        rwa [if_neg (by intro e; rcases e with e | e; exact hz (by rw [← hl, e]; rfl); omega)] at h
    clear h hl
    go_enter Tryz.func121, Tryz.ntmps121
    go_wp2_with fail
    refine HI.out.mono ?_
    rintro e W1 ⟨⟨u, N, rfl⟩, hb⟩
    go_wp2
    go_quiet (fail)
    go_wp2
    go_ret2
    exact ⟨⟨_, rfl⟩, bdrew hb _⟩
  · have h4 : (4 : Int) < s.size := by omega
    clear h hl hmax
    go_enter Tryz.func121, Tryz.ntmps121
    go_wp2
    go_ret2
    exact ⟨⟨_, rfl⟩, Below.refl _ _⟩

theorem decV_ok {l : Bs} {n : Nat} (h : decV l = some n) : l.length ≤ 3 ∧ ¬ (1 < l.length ∧ l.head? = some 48) ∧ Lib.parseUintB 8 l = .ok n := by
  unfold decV at h
  split at h
  · cases h
  · rename_i hc
    split at h
    · rename_i u hu
      cases h
      exact ⟨by omega, fun e => hc (Or.inr e), hu⟩
    · cases h
theorem decV_no {l : Bs} (h : decV l = none) (h3 : l.length ≤ 3) (h0 : ¬ (1 < l.length ∧ l.head? = some 48)) : ∀ u, Lib.parseUintB 8 l ≠ .ok u := by
  intro u hu
  unfold decV at h
  rw [if_neg (by intro e; rcases e with e | e; omega; exact h0 e), hu] at h
  cases h
theorem head_byte (s : ByteArray) (h : 1 < s.size) : s.data.toList.head? = some (s[0]'(by omega)) := by
  have hl := ba_len s
  rw [List.head?_eq_getElem?, List.getElem?_eq_getElem (by omega)]
  rfl
set_option maxHeartbeats 1000000 in
theorem byte_ok (s : ByteArray) (n : Nat) (w : World) (h : decV s.data.toList = some n) :
    Calls Tryz.prog 102 #[.string s] w fun e w' => e = .returned (.tuple #[.int .u64 n, .bool true]) ∧ Below w.heap.size w w' := by
  have hl := ba_len s
  obtain ⟨h3, h0, hp⟩ := decV_ok h
  rw [hl] at h3 h0
  have HI := Lib.hid (pu10_ok s n w (by omega) hp)
  have h3' : ¬ (3 < (s.size : Int)) := by omega
  clear h hp hl
  by_cases h1 : 1 < s.size
  · have hh := head_byte s h1
    have hz : ¬ ((s[0]'(by omega)).toNat : Int) = 48 := by
      intro e
      refine h0 ⟨h1, ?_⟩
      rw [hh]
      congr 1
      exact UInt8.toNat_inj.1 (by simpa using Int.ofNat_inj.1 e)
    have hz' : (((s[0]'(by omega)).toNat : Int) == 48) = false := by simpa using hz
    have h1' : (1 : Int) < s.size := by omega
    have h1'' : 0 < s.size := by omega
    clear hh h0 hz
    go_enter Tryz.func102, Tryz.ntmps102
    go_wp2_with fail
    refine HI.out.mono ?_
    rintro e W1 ⟨rfl, hb⟩
    go_wp2
    go_quiet (fail)
    go_wp2
    go_ret2
    exact ⟨rfl, bdrew hb _⟩
  · have h1' : ¬ (1 : Int) < s.size := by omega
    clear h0
    go_enter Tryz.func102, Tryz.ntmps102
    go_wp2_with fail
    refine HI.out.mono ?_
    rintro e W1 ⟨rfl, hb⟩
    go_wp2
    go_quiet (fail)
    go_wp2
    go_ret2
    exact ⟨rfl, bdrew hb _⟩
set_option maxHeartbeats 1000000 in
theorem byte_no (s : ByteArray) (w : World) (hg : Gl w) (h : decV s.data.toList = none) :
    Calls Tryz.prog 102 #[.string s] w fun e w' => (∃ u, e = .returned (.tuple #[.int .u64 u, .bool false])) ∧ Below w.heap.size w w' := by
  have hl := ba_len s
  by_cases h3 : s.size ≤ 3
  · have h3' : ¬ (3 < (s.size : Int)) := by omega
    by_cases h1 : 1 < s.size
    · have h1' : (1 : Int) < s.size := by omega
      have h1'' : 0 < s.size := by omega
      have hh := head_byte s h1
      by_cases hz : (s[0]'(by omega)) = 48
      · have hz' : (((s[0]'(by omega)).toNat : Int) == 48) = true := by rw [hz]; rfl
        clear h hl hh hz
        go_enter Tryz.func102, Tryz.ntmps102
        go_wp2
        go_ret2
        exact ⟨⟨_, rfl⟩, Below.refl _ _⟩
      · have hz' : (((s[0]'(by omega)).toNat : Int) == 48) = false := by
          rw [beq_eq_false_iff_ne]; intro e; exact hz (UInt8.toNat_inj.1 (by simpa using Int.ofNat_inj.1 e))
        have HI := Lib.hid (pu10_no s w hg (by omega) (decV_no h (by omega) (by rw [hh]; intro e; exact hz (by simpa using e.2))))
        clear h hl hh hz
        go_enter Tryz.func102, Tryz.ntmps102
        go_wp2_with fail
        refine HI.out.mono ?_
        rintro e W1 ⟨⟨u, N, rfl⟩, hb⟩
        go_wp2
        go_quiet (fail)
        go_wp2
        go_ret2
        exact ⟨⟨_, rfl⟩, bdrew hb _⟩
    · have h1' : ¬ (1 : Int) < s.size := by omega
      have HI := Lib.hid (pu10_no s w hg (by omega) (decV_no h (by omega) (by omega)))
      clear h hl
      go_enter Tryz.func102, Tryz.ntmps102
      go_wp2_with fail
      refine HI.out.mono ?_
      rintro e W1 ⟨⟨u, N, rfl⟩, hb⟩
      go_wp2
      go_quiet (fail)
      go_wp2
      go_ret2
      exact ⟨⟨_, rfl⟩, bdrew hb _⟩
  · have h3' : 3 < (s.size : Int) := by omega
    clear h hl
    go_enter Tryz.func102, Tryz.ntmps102
    go_wp2
    go_ret2
    exact ⟨⟨_, rfl⟩, Below.refl _ _⟩
end Go.Proofs.YtkmbfnjmgimlhaaGreatDoor
