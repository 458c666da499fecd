/- Package json: the four digits of an escape. -/
import Derived.Test.YtgiihljiekagdaaDoorKh
namespace Go.Proofs.YtgiihljiekagdaaDoor
open Go.ChangeShapes Go.WideShapes Go.RowKit Go.Sort
theorem hexs_some {l : Bs} {j d : Nat} (h : digOf l j = some d) (k n : Nat) : hexsJ (k + 1) n (l.drop j) = hexsJ k (16 * n + d) (l.drop (j + 1)) := by
  unfold digOf at h
  cases hg : l[j]? with
  | none => rw [hg] at h; cases h
  | some y =>
    rw [hg] at h
    have h2 : hexJ y = some d := h
    rw [drop_at hg, hexsJ, h2]
theorem hexs_none {l : Bs} {j : Nat} (h : digOf l j = none) (hj : j < l.length) (k n : Nat) : hexsJ (k + 1) n (l.drop j) = none := by
  unfold digOf at h
  have hg := List.getElem?_eq_getElem hj
  rw [hg] at h
  have h2 : hexJ (l[j]'hj) = none := h
  rw [drop_at hg, hexsJ, h2]
theorem hexs_end {l : Bs} {j : Nat} (hj : l.length ≤ j) (k n : Nat) : hexsJ (k + 1) n (l.drop j) = some none := by
  rw [List.drop_eq_nil_of_le hj, hexsJ]
theorem hexJ_lt {y : UInt8} {d : Nat} (h : hexJ y = some d) : d < 16 := by
  have : ∀ n, n < 256 → ∀ d, hexJ (UInt8.ofNat n) = some d → d < 16 := by
    have h0 : ∀ n, n < 256 → (match hexJ (UInt8.ofNat n) with | some d => decide (d < 16) | none => true) = true := by decide +kernel
    intro n hn d hd
    have := h0 n hn
    rw [hd] at this
    simpa using this
  have h1 := this y.toNat y.toNat_lt d
  simp only [UInt8.ofNat_toNat] at h1
  exact h1 h
theorem digOf_lt {l : Bs} {j d : Nat} (h : digOf l j = some d) : d < 16 := by
  unfold digOf at h
  cases hg : l[j]? with
  | none => rw [hg] at h; cases h
  | some y => rw [hg] at h; exact hexJ_lt h
theorem word_len : ∀ (q : Bs) (i j : Nat) (s t : Bs), wordJ q i s = .ok () j t → j = i + q.length
  | [], i, j, s, t, h => by simp [wordJ] at h; simp [h.1]
  | c :: q, i, j, s, t, h => by
    rw [wordJ] at h
    cases hs : signJ c i s with
    | bad k a => rw [hs] at h; cases h
    | ok u i2 s2 =>
      rw [hs, PJ.andThen_ok] at h
      have h1 := word_len q i2 j s2 t h
      have : i2 = i + 1 := by
        unfold signJ at hs
        cases s with
        | nil => cases hs
        | cons d r =>
          simp only at hs
          split at hs
          · cases hs; rfl
          · cases hs
      rw [h1, this]; simp; omega
theorem or16 {n d : Nat} (hn : n < 4096) (hd : d < 16) : bits .or .i32 (wrap32 ((n : Int) * 16)) (d : Int) = ((16 * n + d : Nat) : Int) := by
  have hw : wrap32 ((n : Int) * 16) = ((n * 16 : Nat) : Int) := by unfold wrap32; omega
  have h1 : ((((n * 16 : Nat) : Int)) % ((2 ^ 32 : Nat) : Int)).toNat = n * 16 := by omega
  have h2 : (((d : Int)) % ((2 ^ 32 : Nat) : Int)).toNat = d := by omega
  have h : (BitVec.ofInt 32 ((n * 16 : Nat) : Int) ||| BitVec.ofInt 32 (d : Int)).toNat = n * 16 + d := by
    rw [BitVec.toNat_or, BitVec.toNat_ofInt, BitVec.toNat_ofInt, h1, h2]
    have := Nat.shiftLeft_add_eq_or_of_lt (b := d) (i := 4) hd n
    simpa [Nat.shiftLeft_eq] using this.symm
  rw [hw]
  show IntKind.i32.wrap ((BitVec.ofInt 32 ((n * 16 : Nat) : Int) ||| BitVec.ofInt 32 (d : Int)).toNat : Nat) = _
  rw [h, IntKind.wrap_i32]
  omega
/-- The four digits of an escape that begins at i are none: where that is told. -/
def digBad (l : Bs) (st i a : Nat) : Prop := (∃ x, wordJ [92, 117] i (l.drop i) = .bad 1 x ∧ a = if x < l.length then st else x) ∨
  (wordJ [92, 117] i (l.drop i) = .ok () (i + 2) (l.drop (i + 2)) ∧ ((hexsJ 4 0 (l.drop (i + 2)) = none ∧ a = st) ∨ (hexsJ 4 0 (l.drop (i + 2)) = some none ∧ a = l.length)))
set_option maxHeartbeats 8000000 in
set_option maxRecDepth 100000 in
theorem digits_x {l : Bs} {b o c R : Nat} {w : World} {i : Nat} (hs : Src l b o c R w) (h : Rd l.length b o c R w i 0 0) (hi : i ≤ l.length) (st : Nat) :
    Calls Tryd.prog 93 #[.pointer (some ⟨R, 0, none⟩), .int .i64 (st : Int)] w fun e w' => But R w w' ∧
      ((∃ n : Nat, wordJ [92, 117] i (l.drop i) = .ok () (i + 2) (l.drop (i + 2)) ∧ hexsJ 4 0 (l.drop (i + 2)) = some (some (n, l.drop (i + 6))) ∧ i + 6 ≤ l.length ∧ n < 65536 ∧ e = .returned (.tuple #[.int .i32 (n : Int), .bool true]) ∧ Rd l.length b o c R w' (i + 6) 0 0) ∨
       (∃ (v : Value) (a j : Nat), digBad l st i a ∧ e = .returned (.tuple #[v, .bool false]) ∧ Rd l.length b o c R w' j 1 (a : Int))) := by
  have HS := Lib.hid hs
  have HR := Lib.hid h
  have hsm := hs.small
  have hcap := hs.cap
  have HX := Lib.hid (spell_x hs h hi [92, 117] (by decide))
  clear hs h
  go_enter Tryd.func93, Tryd.ntmps93
  go_wp2_with fail
  refine HX.out.mono ?_
  rintro e w1 ⟨B1, hx⟩
  obtain ⟨okb, rfl, hst⟩ : ∃ okb : Bool, e = .returned (.bool okb) ∧ Hid ((okb = true ∧ wordJ [92, 117] i (l.drop i) = .ok () (i + 2) (l.drop (i + 2)) ∧ i + 2 ≤ l.length ∧ Rd l.length b o c R w1 (i + 2) 0 0) ∨
      (okb = false ∧ ∃ j : Nat, j ≤ l.length ∧ digBad l st i (if j < l.length then st else j) ∧ Rd l.length b o c R w1 j 1 (j : Int))) := by
    rcases hx with ⟨j, h1, h2, h3, h4⟩ | ⟨a, h1, h2, h3, h4⟩
    · have := word_len _ _ _ _ _ h1
      simp at this
      subst this
      exact ⟨true, h3, .inl ⟨rfl, h1, h2, h4⟩⟩
    · exact ⟨false, h3, .inr ⟨rfl, a, h2, .inl ⟨a, h1, rfl⟩, h4⟩⟩
  clear hx HX HR
  go_wp2_with fail
  go_loopw [6, 7, 8, 9] (fun cv okv iv _ wr => But R w wr ∧ ((∃ (k n : Nat), k ≤ 4 ∧ cv = .int .i32 (n : Int) ∧ Hid (n < 16 ^ k) ∧ okv = .bool true ∧ iv = .int .i64 (k : Int) ∧ Rd l.length b o c R wr (i + 2 + k) 0 0 ∧ i + 2 + k ≤ l.length ∧ Hid (wordJ [92, 117] i (l.drop i) = .ok () (i + 2) (l.drop (i + 2)) ∧ hexsJ 4 0 (l.drop (i + 2)) = hexsJ (4 - k) n (l.drop (i + 2 + k)))) ∨
     (∃ (v : Int) (k j : Nat), cv = .int .i32 v ∧ okv = .bool false ∧ iv = .int .i64 (k : Int) ∧ Rd l.length b o c R wr j 1 (j : Int) ∧ j ≤ l.length ∧ Hid (digBad l st i (if j < l.length then st else j))))) (fun _ _ iv _ _ => 7 - intN iv)
  case atStart =>
    refine ⟨B1, ?_⟩
    rcases hst.out with ⟨rfl, h1, h2, h3⟩ | ⟨rfl, j, h1, h2, h3⟩
    · exact .inl ⟨0, 0, by decide, rfl, Lib.hid (by decide), rfl, rfl, h3, h2, Lib.hid ⟨h1, rfl⟩⟩
    · exact .inr ⟨0, 0, j, rfl, rfl, rfl, h3, h1, h2⟩
  case round =>
    obtain ⟨hb, hrel⟩ := hrel
    rcases hrel with ⟨k, n, hk, rfl, hn, rfl, rfl, hr, hj, hp⟩ | ⟨v, k, j, rfl, rfl, rfl, hr, hj, hp⟩
    · by_cases h4 : k < 4
      · have HX := Lib.hid (digit_x (HS.out.but hb) hr hj)
        have hw : IntKind.i64.wrap ((k : Int) + 1) = ((k + 1 : Nat) : Int) := by rw [IntKind.wrap_i64]; omega
        clear hr
        go_wp2_with fail
        refine HX.out.mono ?_
        rintro e w2 ⟨B2, hx⟩
        rcases hx with ⟨d, h1, h2, rfl, h3⟩ | ⟨h1, rfl, h3⟩
        · have H3 := Lib.hid h3
          clear h3 HX
          go_wp2_with fail
          have hn2 : n < 16 ^ k := hn.out
          have hn4 : n < 4096 := Nat.lt_of_lt_of_le hn2 (by have := Nat.pow_le_pow_right (n := 16) (by decide) (show k ≤ 3 by omega); simpa using this)
          have hd := digOf_lt h1
          refine ⟨⟨hb.trans B2, .inl ⟨k + 1, 16 * n + d, by omega, by rw [or16 hn4 hd], ?_, rfl, by simp, H3.out, by omega, hp.out.1, ?_⟩⟩, by simp [intN]; omega⟩
          · rw [Nat.pow_succ]; show 16 * n + d < _; omega
          · rw [hp.out.2, show 4 - k = (4 - (k + 1)) + 1 by omega, hexs_some h1]; rfl
        · have H3 := Lib.hid h3
          clear h3 HX
          go_wp2_with fail
          have H4 := H3.out
          refine ⟨⟨hb.trans B2, .inr ⟨_, k + 1, i + 2 + k, rfl, rfl, by simp, H4, hj, ?_⟩⟩, by simp [intN]; omega⟩
          by_cases hlt : i + 2 + k < l.length
          · rw [if_pos hlt]
            exact .inr ⟨hp.out.1, .inl ⟨by rw [hp.out.2, show 4 - k = (3 - k) + 1 by omega, hexs_none h1 hlt], rfl⟩⟩
          · rw [if_neg hlt]
            exact .inr ⟨hp.out.1, .inr ⟨by rw [hp.out.2, show 4 - k = (3 - k) + 1 by omega, hexs_end (by omega)], by omega⟩⟩
      · obtain rfl : k = 4 := by omega
        have hn2 : n < 65536 := hn.out
        have hp2 : Hid (wordJ [92, 117] i (l.drop i) = .ok () (i + 2) (l.drop (i + 2)) ∧ hexsJ 4 0 (l.drop (i + 2)) = some (some (n, l.drop (i + 6)))) := Lib.hid ⟨hp.out.1, by rw [hp.out.2]; rfl⟩
        have HR := Lib.hid hr
        obtain ⟨c0, c1, c2, c3, fz, lt⟩ := hr
        clear hp hn
        go_wp2_with fail
        go_quiet (fail)
        go_wp2_with fail
        go_ret2
        exact ⟨hb.drewN _, .inl ⟨n, hp2.out.1, hp2.out.2, hj, hn2, rfl, HR.out.below (bdrew (Below.refl _ _) _)⟩⟩
    · have HR := Lib.hid hr
      obtain ⟨c0, c1, c2, c3, fz, lt⟩ := hr
      by_cases hlt : j < l.length
      · rw [if_pos hlt] at hp
        go_wp2_with fail
        go_quiet (fail)
        go_wp2_with fail
        refine (fail_x (HR.out.below (bdrew (Below.refl _ _) _)) 1 (st : Int)).mono ?_
        rintro e w5 ⟨rfl, h1, h2⟩
        go_wp2_with fail
        go_ret2
        exact ⟨(hb.drewN _).trans h2, .inr ⟨_, st, j, hp, rfl, h1⟩⟩
      · rw [if_neg hlt] at hp
        have hd2 : decide (j < l.length) = false := by simpa using hlt
        go_wp2_with fail
        go_quiet (fail)
        go_wp2_with fail
        go_ret2
        exact ⟨hb.drewN _, .inr ⟨_, j, j, hp, rfl, HR.out.below (bdrew (Below.refl _ _) _)⟩⟩
end Go.Proofs.YtgiihljiekagdaaDoor
