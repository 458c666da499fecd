/- Where blanks and comments end: the code's own skip. -/
import Derived.Test.YtbbaeipobgomdaaTb
namespace Go.Proofs.Ytbbaeipobgomdaa
open Go.ChangeShapes Go.WideShapes Go.RowKit Go.Sort
theorem blank_mem (c : UInt8) : decide (c ∈ [32, 9, 13, 10]) = blankB c := by
  have : ∀ n, n < 256 → decide (UInt8.ofNat n ∈ [32, 9, 13, 10]) = blankB (UInt8.ofNat n) := by decide +kernel
  have h := this c.toNat c.toNat_lt
  rwa [show UInt8.ofNat c.toNat = c by simp] at h
theorem sign_mem (c : UInt8) : decide (c ∈ [123, 125, 59, 44]) = signB c := by
  have : ∀ n, n < 256 → decide (UInt8.ofNat n ∈ [123, 125, 59, 44]) = signB (UInt8.ofNat n) := by decide +kernel
  have h := this c.toNat c.toNat_lt
  rwa [show UInt8.ofNat c.toNat = c by simp] at h
theorem byte_is {c : UInt8} {k : Nat} (hk : k < 256) : ((c.toNat : Int) = (k : Int)) ↔ c = UInt8.ofNat k := by
  constructor
  · intro h
    apply UInt8.toNat_inj.1
    simp; omega
  · rintro rfl; simp; omega
set_option maxHeartbeats 4000000 in
set_option maxRecDepth 100000 in
theorem skip_some (l : Bs) (ad : Addr) (c i : Nat) (w : World) (h : BytesAt w (some ad) l) (hc : l.length ≤ c) (hl : l.length ≤ 1000000) (hi : i ≤ l.length) :
    Calls Try.prog 15 #[.slice (some ad) l.length c, .int .i64 (i : Int)] w fun e w' => (∃ j, e = .returned (.int .i64 (j : Nat)) ∧ SkipTo l i j) ∧ Below w.heap.size w w' := by
  have HH := Lib.hid h
  clear h
  go_enter Try.func15, Try.ntmps15
  go_wp2
  go_loopw [1] (fun iv wr => ∃ j : Nat, iv = .int .i64 (j : Int) ∧ i ≤ j ∧ j ≤ l.length ∧ Hid (tokA .top i (l.drop i) = tokA .top j (l.drop j)) ∧ Below w.heap.size w wr) (fun iv _ => l.length + 1 - intN iv)
  case atStart => exact ⟨i, rfl, Nat.le_refl _, hi, Lib.hid rfl, Below.refl _ _⟩
  case round =>
    obtain ⟨j, rfl, hij, hjl, hp, hb⟩ := hrel
    by_cases hlt : j < l.length
    · have hcell := bytesAt_cell (HH.out.below hb) j hlt
      have hget := Lib.hid (List.getElem?_eq_getElem hlt)
      have HX := Lib.hid (oneOf_x [32, 9, 13, 10] (l[j]'hlt) wr)
      rw [blank_mem] at HX
      generalize l[j]'hlt = b at *
      have h35 := byte_is (c := b) (k := 35) (by decide)
      by_cases hw : blankB b = true
      · have HP : Hid (tokA .top i (l.drop i) = tokA .top (j + 1) (l.drop (j + 1))) := Lib.hid (hp.out.trans (blank_at hget.out hw))
        rw [hw] at HX
        clear hw hp h35 hget
        generalize b.toNat = u at *
        go_wp2_with fail
        refine HX.out.mono ?_
        rintro e w' ⟨rfl, rfl⟩
        clear HX
        go_wp2
        exact ⟨⟨j + 1, by simp, by omega, by omega, HP, hb⟩, by simp [intN]; omega⟩
      · by_cases hs : b = 35
        · obtain ⟨q1, q2, q3⟩ := com_at (hs ▸ hget.out)
          have HP : Hid (tokA .top i (l.drop i) = tokA .top (j + comN l j) (l.drop (j + comN l j))) := Lib.hid (hp.out.trans q1)
          obtain ⟨v, b2, hv⟩ := cut_first (l.drop j) (adv (some ad) c j) (c - j)
          have HC : Hid (∀ V g, BytesAt V (some ad) l → V.cell? ⟨g, 0, none⟩ = some (.int .u8 10) → Calls Try.prog 24 #[.slice (adv (some ad) c j) (l.length - j) (c - j), .slice (some ⟨g, 0, none⟩) 1 1] V fun e w' => e = .returned (.tuple #[.slice (adv (some ad) c j) (comN l j) (c - j), v, b2]) ∧ ∃ q, w' = V.drewN q) := fun V g hV hg => by
            have := bcut_x (l.drop j) (adv (some ad) c j) (c - j) g V (hV.drop c j hc) (by rw [List.length_drop]; omega) (by rw [List.length_drop]; omega) hg
            rw [hv, List.length_drop] at this
            exact this
          have hu : (b.toNat : Int) = 35 := h35.2 hs
          have hsl := fun V => sl_l (some ad) l.length c j hjl V
          rw [show blankB b = false by simpa using hw] at HX
          clear hw hp h35 hget hs q1 hv
          generalize comN l j = m at *
          rw [hu] at HX hcell
          clear hu
          have HB : Hid (BytesAt wr (some ad) l) := Lib.hid (HH.out.below hb)
          go_wp2_with fail
          refine HX.out.mono ?_
          rintro e w' ⟨rfl, rfl⟩
          clear HX
          go_wp2_with fail
          refine (HC.out _ _ (HB.out.below (ball (Below.refl _ _))) (by simp [go_sem])).mono ?_
          rintro e w' ⟨rfl, nq, rfl⟩
          have BW : Below w.heap.size w ((w'.alloc (.cells #[.int .u8 10] 5)).drewN nq) := bdrew (ball hb) nq
          generalize (w'.alloc (.cells #[.int .u8 10] 5)).drewN nq = W1 at *
          clear hsl HC HB hcell hb
          go_wp2
          exact ⟨⟨j + m, by simp, by omega, by omega, HP, BW⟩, by simp [intN]; omega⟩
        · have hu : ¬ ((b.toNat : Int) = 35) := fun e => hs (h35.1 e)
          rw [show blankB b = false by simpa using hw] at HX
          have HF : Hid (∀ c, l[j]? = some c → blankB c = false ∧ c ≠ 35) := Lib.hid (fun c hc => by rw [hget.out] at hc; cases hc; exact ⟨by simpa using hw, hs⟩)
          clear hw h35 hget hs
          generalize b.toNat = u at *
          go_wp2_with fail
          refine HX.out.mono ?_
          rintro e w' ⟨rfl, rfl⟩
          clear HX
          go_wp2
          go_ret
          exact ⟨⟨j, rfl, hij, hjl, hp.out, HF.out⟩, hb⟩
    · obtain rfl : j = l.length := by omega
      go_wp2
      go_ret
      exact ⟨⟨l.length, rfl, hij, hjl, hp.out, fun c hc => by simp at hc⟩, hb⟩
set_option maxRecDepth 100000 in
theorem skip_none (c : Nat) (w : World) :
    Calls Try.prog 15 #[.slice none 0 c, .int .i64 0] w fun e w' => (∃ j, e = .returned (.int .i64 (j : Nat)) ∧ SkipTo [] 0 j) ∧ Below w.heap.size w w' := by
  go_enter Try.func15, Try.ntmps15
  go_wp2
  go_loopw [1] (fun iv wr => iv = .int .i64 0 ∧ wr = w) (fun _ _ => 0)
  case atStart => exact ⟨rfl, rfl⟩
  case round =>
    obtain ⟨rfl, rfl⟩ := hrel
    go_wp2
    go_ret
    exact ⟨⟨0, rfl, Nat.le_refl _, Nat.le_refl _, rfl, fun c hc => by simp at hc⟩, Below.refl _ _⟩
theorem skip_x (l : Bs) (a : Option Addr) (c i : Nat) (w : World) (h : BytesAt w a l) (hc : l.length ≤ c) (hl : l.length ≤ 1000000) (hi : i ≤ l.length) :
    Calls Try.prog 15 #[.slice a l.length c, .int .i64 (i : Int)] w fun e w' => (∃ j, e = .returned (.int .i64 (j : Nat)) ∧ SkipTo l i j) ∧ Below w.heap.size w w' := by
  cases a with
  | some ad => exact skip_some l ad c i w h hc hl hi
  | none =>
    have hn : l = [] := by
      cases l with
      | nil => rfl
      | cons a r => obtain ⟨ad, e, _⟩ := h 0 a rfl; cases e
    subst hn
    obtain rfl : i = 0 := by simpa using hi
    exact skip_none c w
end Go.Proofs.Ytbbaeipobgomdaa
