/- Package json: code, escape. -/
import Derived.Test.YtgiihljiekagdaaDoorKi
namespace Go.Proofs.YtgiihljiekagdaaDoor
open Go.ChangeShapes Go.WideShapes Go.RowKit Go.Sort
theorem word_ok2 {l : Bs} {i : Nat} (h0 : l[i]? = some 92) (h1 : l[i + 1]? = some 117) : wordJ [92, 117] i (l.drop i) = .ok () (i + 2) (l.drop (i + 2)) := by
  rw [wordJ, sign_yes h0, PJ.andThen_ok, wordJ, sign_yes h1, PJ.andThen_ok, wordJ]
/-- What an escape says whose first half is none, or whose second is none. -/
theorem esc_first {l : Bs} {i a : Nat} (h0 : l[i]? = some 92) (h1 : l[i + 1]? = some 117) (h : digBad l i i a) : escJ i (l.drop (i + 1)) = .bad 1 a := by
  have hl := (List.getElem?_eq_some_iff.1 h1).1
  rcases h with ⟨x, hx, _⟩ | ⟨_, h⟩
  · rw [word_ok2 h0 h1] at hx; cases hx
  · rw [drop_at h1, escJ]
    have hp : plainJ 117 = none := by decide
    simp only [hp]
    rw [if_neg (by decide)]
    rcases h with ⟨h2, rfl⟩ | ⟨h2, rfl⟩
    · rw [h2]
    · rw [h2]; simp; omega
theorem esc_one {l : Bs} {i n : Nat} (h1 : l[i + 1]? = some 117) (h2 : hexsJ 4 0 (l.drop (i + 2)) = some (some (n, l.drop (i + 6)))) (hn : n < 0xd800 ∨ 0xe000 ≤ n) : escJ i (l.drop (i + 1)) = .ok (encJ n) (i + 6) (l.drop (i + 6)) := by
  rw [drop_at h1, escJ]
  have hp : plainJ 117 = none := by decide
  simp only [hp]
  rw [if_neg (by decide), h2]
  simp only
  rw [if_pos (by omega)]
theorem esc_low {l : Bs} {i n : Nat} (h1 : l[i + 1]? = some 117) (h2 : hexsJ 4 0 (l.drop (i + 2)) = some (some (n, l.drop (i + 6)))) (hn : 0xdc00 ≤ n) (hn2 : n < 0xe000) : escJ i (l.drop (i + 1)) = .bad 1 i := by
  rw [drop_at h1, escJ]
  have hp : plainJ 117 = none := by decide
  simp only [hp]
  rw [if_neg (by decide), h2]
  simp only
  rw [if_neg (by omega), if_pos (by omega)]
theorem esc_two {l : Bs} {i n : Nat} (h1 : l[i + 1]? = some 117) (h2 : hexsJ 4 0 (l.drop (i + 2)) = some (some (n, l.drop (i + 6)))) (hn : 0xd800 ≤ n) (hn2 : n < 0xdc00) :
    (∀ a, digBad l i (i + 6) a → i + 6 ≤ l.length → escJ i (l.drop (i + 1)) = .bad 1 a) ∧
    (∀ m, wordJ [92, 117] (i + 6) (l.drop (i + 6)) = .ok () (i + 6 + 2) (l.drop (i + 6 + 2)) → hexsJ 4 0 (l.drop (i + 6 + 2)) = some (some (m, l.drop (i + 6 + 6))) →
      escJ i (l.drop (i + 1)) = if m < 0xdc00 ∨ 0xdfff < m then .bad 1 i else .ok (encJ (0x10000 + (n - 0xd800) * 1024 + (m - 0xdc00))) (i + 12) (l.drop (i + 12))) := by
  have hp : plainJ 117 = none := by decide
  have hE : escJ i (l.drop (i + 1)) = match l.drop (i + 6) with
            | [] => .bad 1 (i + 6)
            | c1 :: r3 =>
              if c1 ≠ 92 then .bad 1 i
              else match r3 with
                | [] => .bad 1 (i + 7)
                | c2 :: r4 =>
                  if c2 ≠ 117 then .bad 1 i
                  else match hexsJ 4 0 r4 with
                    | none => .bad 1 i
                    | some none => .bad 1 (i + 8 + r4.length)
                    | some (some (m, r5)) => if m < 0xdc00 ∨ 0xdfff < m then .bad 1 i else .ok (encJ (0x10000 + (n - 0xd800) * 1024 + (m - 0xdc00))) (i + 12) r5 := by
    rw [drop_at h1, escJ]
    simp only [hp]
    rw [if_neg (by decide), h2]
    simp only
    rw [if_neg (by omega), if_neg (by omega)]
    rfl
  rw [hE]
  cases hg : l[i + 6]? with
  | none =>
    have hd : l.drop (i + 6) = [] := List.drop_eq_nil_of_le (List.getElem?_eq_none_iff.1 hg)
    have hle := List.getElem?_eq_none_iff.1 hg
    rw [hd]
    refine ⟨fun a h hl => ?_, fun m h _ => ?_⟩
    · rcases h with ⟨x, hx, rfl⟩ | ⟨h, _⟩
      · rw [hd] at hx
        cases hx
        rw [if_neg (by omega)]
      · rw [hd] at h; cases h
    · cases h
  | some c1 =>
    have hlt := (List.getElem?_eq_some_iff.1 hg).1
    have hd := drop_at hg
    rw [hd]
    by_cases h92 : c1 = 92
    · subst h92
      simp only [ne_eq, not_true_eq_false, if_false]
      cases hg2 : l[i + 6 + 1]? with
      | none =>
        have hd2 : l.drop (i + 6 + 1) = [] := List.drop_eq_nil_of_le (List.getElem?_eq_none_iff.1 hg2)
        have hle := List.getElem?_eq_none_iff.1 hg2
        rw [hd2]
        refine ⟨fun a h hl => ?_, fun m h _ => ?_⟩
        · rcases h with ⟨x, hx, rfl⟩ | ⟨h, _⟩
          · rw [wordJ, sign_yes hg, PJ.andThen_ok, hd2] at hx
            cases hx
            rw [if_neg (by omega)]
          · rw [wordJ, sign_yes hg, PJ.andThen_ok, hd2] at h; cases h
        · rw [← hd2, ← hd, wordJ, sign_yes hg, PJ.andThen_ok, hd2] at h; cases h
      | some c2 =>
        have hlt2 := (List.getElem?_eq_some_iff.1 hg2).1
        have hd2 := drop_at hg2
        rw [hd2]
        by_cases h117 : c2 = 117
        · subst h117
          simp only [not_true_eq_false, if_false]
          refine ⟨fun a h hl => ?_, fun m h h3 => ?_⟩
          · rcases h with ⟨x, hx, rfl⟩ | ⟨h, h3⟩
            · rw [word_ok2 hg hg2] at hx; cases hx
            · rcases h3 with ⟨h3, rfl⟩ | ⟨h3, rfl⟩
              · rw [h3]
              · rw [h3]; simp; omega
          · rw [show i + 6 + 1 + 1 = i + 6 + 2 from rfl, h3]
        · simp only [h117, not_false_eq_true, if_true]
          have hw : wordJ [92, 117] (i + 6) (l.drop (i + 6)) = .bad 1 (i + 6 + 1) := by
            rw [wordJ, sign_yes hg, PJ.andThen_ok, wordJ, sign_no (by rw [hg2]; simpa using h117)]; rfl
          refine ⟨fun a h hl => ?_, fun m h _ => ?_⟩
          · rcases h with ⟨x, hx, rfl⟩ | ⟨h, _⟩
            · rw [hw] at hx; cases hx
              rw [if_pos hlt2]
            · rw [hw] at h; cases h
          · rw [← hd2, ← hd, hw] at h; cases h
    · simp only [ne_eq, h92, not_false_eq_true, if_true]
      have hw : wordJ [92, 117] (i + 6) (l.drop (i + 6)) = .bad 1 (i + 6) := by
        rw [wordJ, sign_no (by rw [hg]; simpa using h92)]; rfl
      refine ⟨fun a h hl => ?_, fun m h _ => ?_⟩
      · rcases h with ⟨x, hx, rfl⟩ | ⟨h, _⟩
        · rw [hw] at hx; cases hx
          rw [if_pos hlt]
        · rw [hw] at h; cases h
      · rw [← hd, hw] at h; cases h
/-- What a rune that is read is, or what is wrong. -/
def RuneP (l : Bs) (b o c R : Nat) (w : World) (r : PJ Bs) (e : Ending) (w' : World) : Prop :=
  But R w w' ∧ ((∃ n j : Nat, r = .ok (encJ n) j (l.drop j) ∧ j ≤ l.length ∧ n < 0x110000 ∧ (n < 0xd800 ∨ 0xe000 ≤ n) ∧ e = .returned (.tuple #[.int .i32 (n : Int), .bool true]) ∧ Rd l.length b o c R w' j 0 0) ∨
    ∃ (v : Value) (a j : Nat), r = .bad 1 a ∧ e = .returned (.tuple #[v, .bool false]) ∧ Rd l.length b o c R w' j 1 (a : Int))
set_option maxHeartbeats 8000000 in
set_option maxRecDepth 100000 in
theorem code_x {l : Bs} {b o c R : Nat} {w : World} {i : Nat} (hs : Src l b o c R w) (h : Rd l.length b o c R w i 0 0) (h0 : l[i]? = some 92) (h1 : l[i + 1]? = some 117) :
    Calls Tryd.prog 79 #[.pointer (some ⟨R, 0, none⟩)] w fun e w' => RuneP l b o c R w (escJ i (l.drop (i + 1))) e w' := by
  have hi := (List.getElem?_eq_some_iff.1 h0).1
  have HS := Lib.hid hs
  have HX := Lib.hid (digits_x hs h (Nat.le_of_lt hi) i)
  have H0 := Lib.hid h0
  have H1 := Lib.hid h1
  obtain ⟨c0, c1, c2, c3, fz, lt⟩ := h
  clear hs h0 h1
  go_enter Tryd.func79, Tryd.ntmps79
  go_wp2_with fail
  refine HX.out.mono ?_
  rintro e w1 ⟨B1, hx⟩
  clear HX c0 c1 c2 c3 fz lt
  rcases hx with ⟨n, h2, h3, h4, h5, rfl, h6⟩ | ⟨v, a, j, h2, rfl, h6⟩
  · have H3 := Lib.hid h3
    have H6 := Lib.hid h6
    have H5 := Lib.hid h5
    clear h2 h3 h6 h5
    obtain ⟨z, hz⟩ : ∃ z : Int, z = (n : Int) := ⟨_, rfl⟩
    have HZ := Lib.hid hz
    rw [← hz]
    clear hz
    by_cases hA : n < 0xd800
    · have g1 : z < 55296 := by have := HZ.out; omega
      have HE := Lib.hid (esc_one H1.out H3.out (.inl hA))
      clear hA
      go_wp2_with fail
      go_ret2
      exact ⟨B1, .inl ⟨n, i + 6, HE.out, h4, by have := H5.out; omega, by have := HZ.out; omega, by rw [HZ.out]; rfl, H6.out⟩⟩
    · have g1 : ¬ (z < 55296) := by have := HZ.out; omega
      by_cases hB : 0xe000 ≤ n
      · have g2 : (57344 : Int) ≤ z := by have := HZ.out; omega
        have HE := Lib.hid (esc_one H1.out H3.out (.inr hB))
        clear hA hB
        go_wp2_with fail
        go_ret2
        exact ⟨B1, .inl ⟨n, i + 6, HE.out, h4, by have := H5.out; omega, by have := HZ.out; omega, by rw [HZ.out]; rfl, H6.out⟩⟩
      · have g2 : ¬ ((57344 : Int) ≤ z) := by have := HZ.out; omega
        by_cases hC : 0xdc00 ≤ n
        · have g3 : (56320 : Int) ≤ z := by have := HZ.out; omega
          have HE := Lib.hid (esc_low H1.out H3.out hC (by omega))
          clear hA hB hC
          go_wp2_with fail
          refine (fail_x H6.out 1 (i : Int)).mono ?_
          rintro e w5 ⟨rfl, k1, k2⟩
          go_wp2_with fail
          go_ret2
          exact ⟨B1.trans k2, .inr ⟨_, i, i + 6, HE.out, rfl, k1⟩⟩
        · have g3 : ¬ ((56320 : Int) ≤ z) := by have := HZ.out; omega
          obtain ⟨E1, E2⟩ := esc_two H1.out H3.out (by omega) (by omega)
          have E1 := Lib.hid E1
          have E2 := Lib.hid E2
          have HY := Lib.hid (digits_x (HS.out.but B1) H6.out h4 i)
          have HN : Hid (0xd800 ≤ n ∧ n < 0xdc00) := ⟨by omega, by omega⟩
          clear hA hB hC
          go_wp2_with fail
          refine HY.out.mono ?_
          rintro e w2 ⟨B2, hy⟩
          clear HY H6
          have B3 := B1.trans B2
          rcases hy with ⟨m, k2, k3, k4, k5, rfl, k6⟩ | ⟨v, a, j, k2, rfl, k6⟩
          · have E3 := Lib.hid (E2.out m k2 k3)
            have K6 := Lib.hid k6
            have K5 := Lib.hid k5
            clear k2 k3 k6 k5 E1 E2
            obtain ⟨y, hy⟩ : ∃ y : Int, y = (m : Int) := ⟨_, rfl⟩
            have HY := Lib.hid hy
            rw [← hy]
            clear hy
            by_cases hD : m < 0xdc00
            · have g4 : y < 56320 := by have := HY.out; omega
              have E4 := Lib.hid (E3.out.trans (if_pos (.inl hD)))
              clear hD
              go_wp2_with fail
              refine (fail_x K6.out 1 (i : Int)).mono ?_
              rintro e w5 ⟨rfl, k1, k2⟩
              go_wp2_with fail
              go_ret2
              exact ⟨B3.trans k2, .inr ⟨_, i, _, E4.out, rfl, k1⟩⟩
            · have g4 : ¬ (y < 56320) := by have := HY.out; omega
              by_cases hF : 0xe000 ≤ m
              · have g5 : (57344 : Int) ≤ y := by have := HY.out; omega
                have E4 := Lib.hid (E3.out.trans (if_pos (.inr (by omega))))
                clear hD hF
                go_wp2_with fail
                refine (fail_x K6.out 1 (i : Int)).mono ?_
                rintro e w5 ⟨rfl, k1, k2⟩
                go_wp2_with fail
                go_ret2
                exact ⟨B3.trans k2, .inr ⟨_, i, _, E4.out, rfl, k1⟩⟩
              · have g5 : ¬ ((57344 : Int) ≤ y) := by have := HY.out; omega
                have E4 := Lib.hid (E3.out.trans (if_neg (by omega)))
                have HM : Hid (0xdc00 ≤ m ∧ m < 0xe000) := ⟨by omega, by omega⟩
                clear hD hF
                go_wp2_with fail
                go_ret2
                have hm := HM.out
                have hn := HN.out
                refine ⟨B3, .inl ⟨_, i + 12, E4.out, k4, by omega, .inr (by omega), ?_, K6.out⟩⟩
                show Ending.returned (.tuple #[.int .i32 (65536 + (z - 55296) * 1024 + y - 56320), .bool true]) = _
                rw [show 65536 + (z - 55296) * 1024 + y - 56320 = ((0x10000 + (n - 0xd800) * 1024 + (m - 0xdc00) : Nat) : Int) by have := HZ.out; have := HY.out; omega]
          · have E3 := Lib.hid (E1.out a k2 h4)
            go_wp2_with fail
            go_ret2
            exact ⟨B3, .inr ⟨_, a, j, E3.out, rfl, k6⟩⟩
  · have HE := Lib.hid (esc_first H0.out H1.out h2)
    go_wp2_with fail
    go_ret2
    exact ⟨B1, .inr ⟨_, a, j, HE.out, rfl, h6⟩⟩
end Go.Proofs.YtgiihljiekagdaaDoor
