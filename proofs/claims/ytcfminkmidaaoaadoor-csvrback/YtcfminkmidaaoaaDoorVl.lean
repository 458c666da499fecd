/- strings.ContainsAny at any text and the four marks. -/
import Derived.Test.YtcfminkmidaaoaaDoorVj
namespace Go.Proofs.YtcfminkmidaaoaaDoor
open Go.ChangeShapes Go.WideShapes Go.RowKit Go.Sort
set_option maxHeartbeats 2000000 in
set_option maxRecDepth 100000 in
theorem irune_low (c : UInt8) (h : c.toNat < 128) (w : World) :
    Calls Tryd.prog 41 #[.string ⟨#[34, 44, 13, 10]⟩, .int .i32 (c.toNat : Int)] w fun e w' => e = .returned (.int .i64 (Lib.indexByte marks9 c)) ∧ Below w.heap.size w w' := by
  have HI : Hid (∀ V, Calls Tryd.prog 39 #[.string ⟨#[34, 44, 13, 10]⟩, .int .u8 ((c.toNat : Nat) : Int)] V fun e w' => e = .returned (.int .i64 (Lib.indexByte marks9 c)) ∧ w' = V) := fun V => sidx_x marks9 c V
  have h1 : (c.toNat : Int) < 128 := by omega
  have h2 : ((c.toNat : Nat) : Int) % 256 = ((c.toNat : Nat) : Int) := by omega
  generalize c.toNat = u at *
  go_enter Tryd.func41, Tryd.ntmps41
  go_wp2_with fail
  refine (HI.out _).mono ?_
  rintro e w' ⟨rfl, rfl⟩
  go_wp2
  go_ret
  exact ⟨rfl, Below.refl _ _⟩
theorem mark_low {c : UInt8} (h : marks9.contains c = true) : c.toNat < 128 := by
  have : ∀ c ∈ marks9, c.toNat < 128 := by decide
  exact this c (by simpa using h)
set_option maxHeartbeats 4000000 in
set_option maxRecDepth 100000 in
theorem sascii_x (n : Int) (w : World) :
    Calls Tryd.prog 42 #[.int .i64 n] w fun e w' => e = .returned (.bool (decide (8 < n))) ∧ w' = w := by
  go_enter Tryd.func42, Tryd.ntmps42
  go_wp2
  go_ret
  exact ⟨rfl, rfl⟩
set_option maxHeartbeats 8000000 in
set_option maxRecDepth 100000 in
theorem indexAny_short (s : ByteArray) (w : World) (h8 : s.size ≤ 8) :
    Calls Tryd.prog 36 #[.string s, .string ⟨#[34, 44, 13, 10]⟩] w fun e w' => e = .returned (.int .i64 (Lib.indexAny s.data.toList marks9)) ∧ Below w.heap.size w w' := by
  have h8z : decide ((8 : Int) < (s.size : Int)) = false := decide_eq_false (by omega)
  have HS : Hid (∀ V, Calls Tryd.prog 42 #[.int .i64 (s.size : Int)] V fun e w' => e = .returned (.bool false) ∧ w' = V) := fun V => by
    have := sascii_x (s.size : Int) V
    rwa [h8z] at this
  go_enter Tryd.func36, Tryd.ntmps36
  go_wp2_with fail
  refine (HS.out _).mono ?_
  rintro e w' ⟨rfl, rfl⟩
  go_wp2_with fail
  go_loopw [9, 10] (fun _ _ wx => ∃ i : Nat, i ≤ s.size ∧ wx.heap[w'.heap.size]? = some (.stringIter s i) ∧ Below w'.heap.size w' wx ∧ Hid (Lib.NoAny s.data.toList marks9 i)) (fun _ _ wx => s.size + 1 - wx.iterPos w'.heap.size)
  case atStart => exact ⟨0, Nat.zero_le _, World.iter_heap _ _ _, ball (Below.refl _ _), Lib.hid (Lib.NoAny.zero _ _)⟩
  case round =>
    obtain ⟨i, hi, hit, hb, hno⟩ := hrel
    have hk : w'.heap.size < wr.heap.size := (Array.getElem?_eq_some_iff.1 hit).1
    have hpos : wr.iterPos w'.heap.size = i := by simp [World.iterPos, hit]
    by_cases hlt : i < s.size
    · obtain ⟨x, hx⟩ : ∃ x : UInt8, s[i]'hlt = x := ⟨_, rfl⟩
      have hxl : s.data.toList[i]? = some x := by rw [← hx]; exact Lib.data_getElem? s i hlt
      by_cases hx128 : x.toNat < 128
      · have hnx := fun ty => Lib.run_next_ascii_at (P := Tryd.prog) wr w'.heap.size s i ty hit hlt (by rw [hx]; exact hx128)
        rw [hx] at hnx
        have h2 := Lib.iterAt_heap wr w'.heap.size s i (i + 1) hit
        have b2 := Lib.below_iterAt hb (Nat.le_refl _) s (i + 1)
        have z2 := Lib.iterAt_size wr w'.heap.size s (i + 1)
        generalize wr.iterAt w'.heap.size s (i + 1) = W2 at *
        have HL := Lib.hid (irune_low x hx128)
        have Hx := Lib.hid hxl
        have hcon := Lib.contains_iff_indexByte marks9 x
        clear hxl hx
        cases hin : marks9.contains x
        · rw [hin] at hcon
          have hlt0 : ¬ ((0 : Int) ≤ Lib.indexByte marks9 x) := of_decide_eq_false hcon.symm
          have HN := Lib.hid (hno.out.succ Hx.out hin)
          clear hcon hin hno Hx hx128
          generalize Lib.indexByte marks9 x = z at *
          generalize x.toNat = u at *
          go_wp2_with fail
          refine (HL.out _).mono ?_
          rintro e w2 ⟨rfl, hb2⟩
          go_wp2
          have h3 : w2.heap[w'.heap.size]? = some (.stringIter s (i + 1)) := (hb2.block _ (by omega)).trans h2
          exact ⟨⟨i + 1, by omega, h3, below_next b2 hb2, HN⟩, by rw [hpos, show w2.iterPos w'.heap.size = i + 1 by simp [World.iterPos, h3]]; omega⟩
        · rw [hin] at hcon
          have hge0 : (0 : Int) ≤ Lib.indexByte marks9 x := of_decide_eq_true hcon.symm
          have HF := Lib.hid (Lib.indexAny_hit hno.out Hx.out hin)
          clear hcon hin hno Hx hx128
          generalize Lib.indexByte marks9 x = z at *
          generalize x.toNat = u at *
          go_wp2_with fail
          refine (HL.out _).mono ?_
          rintro e w2 ⟨rfl, hb2⟩
          go_wp2
          go_ret
          exact ⟨by rw [HF.out]; rfl, below_next b2 hb2⟩
      · have hge : 128 ≤ (s[i]'hlt).toNat := by rw [hx]; omega
        have hnx := fun ty => Lib.run_next_any_at (P := Tryd.prog) wr w'.heap.size s i ty hit hlt
        obtain ⟨hd1, hd2⟩ := decode_high s i hlt hge
        have hd3 := decode_le s i
        have hdv := decode_valid s i hlt hge
        have hsk := decode_skip s i hlt hge
        generalize (Utf8.decode s i).1 = r at *
        generalize (Utf8.decode s i).2 = n at *
        have hin : i + n ≤ s.size := by
          obtain ⟨hj, _⟩ := hsk (i + n - 1) (by omega) (by omega)
          omega
        have HN : Hid (Lib.NoAny s.data.toList marks9 (i + n)) := Lib.hid (fun j b hj hb => by
          by_cases hji : j < i
          · exact hno.out j b hji hb
          · obtain ⟨hjs, hb128⟩ := hsk j (by omega) hj
            have e : b = s[j]'hjs := by
              have := Lib.data_getElem? s j hjs
              rw [this] at hb
              exact (Option.some.inj hb).symm
            by_cases hc : marks9.contains b = true
            · have := mark_low hc
              rw [e] at this
              omega
            · simpa using hc)
        have HH := Lib.hid (irune_high (r : Int) (by omega) (by omega) hdv)
        have h2 := Lib.iterAt_heap wr w'.heap.size s i (i + n) hit
        have b2 := Lib.below_iterAt hb (Nat.le_refl _) s (i + n)
        have z2 := Lib.iterAt_size wr w'.heap.size s (i + n)
        generalize wr.iterAt w'.heap.size s (i + n) = W2 at *
        clear hno hsk hdv hxl hx hge
        go_wp2_with fail
        refine (HH.out _).mono ?_
        rintro e w2 ⟨rfl, hb2⟩
        go_wp2
        have h3 : w2.heap[w'.heap.size]? = some (.stringIter s (i + n)) := (hb2.block _ (by omega)).trans h2
        exact ⟨⟨i + n, hin, h3, below_next b2 hb2, HN⟩, by rw [hpos, show w2.iterPos w'.heap.size = i + n by simp [World.iterPos, h3]]; omega⟩
    · have hnx := fun ty => Lib.run_next_end_at (P := Tryd.prog) wr w'.heap.size s i ty hit hlt
      have HF : Hid (Lib.indexAny s.data.toList marks9 = -1) := Lib.hid (Lib.indexAny_none (by rw [← Lib.size_eq, show s.size = i by omega]; exact hno.out))
      clear hno
      go_wp2
      go_ret
      exact ⟨by rw [HF.out]; rfl, hb⟩
theorem indexAny_x (s : ByteArray) (w : World) (hs : s.size < 4294967281) :
    Calls Tryd.prog 36 #[.string s, .string ⟨#[34, 44, 13, 10]⟩] w fun e w' => e = .returned (.int .i64 (Lib.indexAny s.data.toList marks9)) ∧ Below w.heap.size w w' := by
  by_cases h8 : s.size ≤ 8
  · exact indexAny_short s w h8
  · refine (Tryd.strings_IndexAny_long (zero_of_info (n := 256) (by kernel_rfl)).1 s ⟨#[34, 44, 13, 10]⟩ w (by decide) (by omega) hs (by decide) (fun j b hj => ?_)).mono fun e w' ⟨h1, h2⟩ => ⟨h1, by rw [h2]; exact ball (ball (Below.refl _ _))⟩
    have : ∀ c ∈ marks9, c.toNat < 128 := by decide
    exact this b (List.mem_of_getElem? hj)
theorem any_marks (l : Bs) : Lib.containsAny l marks9 = l.any markB := by
  unfold Lib.containsAny
  induction l with
  | nil => rfl
  | cons c r ih =>
    rw [List.any_cons, ← ih]
    have e : marks9.contains c = markB c := by
      have : ∀ n, n < 256 → marks9.contains (UInt8.ofNat n) = markB (UInt8.ofNat n) := by decide +kernel
      have h := this c.toNat c.toNat_lt
      rwa [show UInt8.ofNat c.toNat = c by simp] at h
    have step : Lib.indexAny (c :: r) marks9 = if marks9.contains c then 0 else if Lib.indexAny r marks9 == -1 then -1 else Lib.indexAny r marks9 + 1 := rfl
    rw [step, e]
    have hge := Lib.indexAny_ge marks9 r
    cases markB c
    · simp only [Bool.false_or, Bool.false_eq_true, if_false]
      by_cases hz : Lib.indexAny r marks9 = -1
      · rw [hz]; rfl
      · rw [if_neg (by simpa using hz)]
        exact decide_eq_decide.2 (by omega)
    · rfl
set_option maxHeartbeats 2000000 in
set_option maxRecDepth 100000 in
theorem containsAny_x (l : Bs) (w : World) (hs : l.length < 4294967281) :
    Calls Tryd.prog 29 #[.string (baS l), .string ⟨#[34, 44, 13, 10]⟩] w fun e w' => e = .returned (.bool (l.any markB)) ∧ Below w.heap.size w w' := by
  rw [← any_marks]
  have H := Lib.hid (indexAny_x (baS l) w (by rw [baS_size]; exact hs))
  unfold Lib.containsAny
  have e : (baS l).data.toList = l := by simp [baS]
  rw [e] at H
  generalize Lib.indexAny l marks9 = z at *
  generalize baS l = L at *
  clear e
  go_enter Tryd.func29, Tryd.ntmps29
  go_wp2_with fail
  refine H.out.mono ?_
  rintro e w' ⟨rfl, hb⟩
  go_wp2
  go_ret
  exact ⟨rfl, hb⟩
end Go.Proofs.YtcfminkmidaaoaaDoor
