/- Package json: what stands in brackets, whatever reads its items. -/
import Derived.Test.YtgiihljiekagdaaDoorKt
namespace Go.Proofs.YtgiihljiekagdaaDoor
open Go.ChangeShapes Go.WideShapes Go.RowKit Go.Sort
/-- Items with commas between, up to the last sign. -/
def loopJ {σ : Type} (step : σ → Nat → Bs → PJ σ) (e : UInt8) : Nat → σ → Nat → Bs → PJ σ
  | 0, _, i, _ => .bad 1 i
  | k + 1, s, i, t => (step s i t).andThen fun s2 j t2 => if t2.head? = some e then .ok s2 (j + 1) t2.tail
      else ((signJ 44 j t2).andThen fun _ j t => skipJ 0 0 j t).andThen fun _ j3 t3 => loopJ step e k s2 j3 t3
/-- One item of a list, or a map. -/
def stepJ (vf : Nat → Bs → PJ Js) (m : Bool) (s : List Js × List Bs) (i : Nat) (t : Bs) : PJ (List Js × List Bs) :=
  (if m then (nameJ s.2 i t).andThen fun x j t => .ok (s.2 ++ [x]) j t else .ok s.2 i t).andThen fun ks2 j t => (vf j t).andThen fun v j2 t2 => (skipJ 0 0 j2 t2).andThen fun _ j3 t3 => .ok (s.1 ++ [v], ks2) j3 t3
theorem items_loop (vf : Nat → Bs → PJ Js) (m : Bool) (e : UInt8) (he : e ≠ 44) : ∀ (k : Nat) (vs : List Js) (ks : List Bs) (i : Nat) (t : Bs), itemsJ vf m e k vs ks i t = loopJ (stepJ vf m) e k (vs, ks) i t
  | 0, _, _, _, _ => rfl
  | k + 1, vs, ks, i, t => by
    rw [itemsJ, loopJ]
    unfold stepJ
    cases hn : (if m then (nameJ ks i t).andThen fun x j t => PJ.ok (ks ++ [x]) j t else .ok ks i t : PJ (List Bs)) with
    | bad q a => rfl
    | ok ks2 j t1 =>
      simp only [PJ.andThen_ok]
      cases hv : vf j t1 with
      | bad q a => rfl
      | ok v j2 t2 =>
        simp only [PJ.andThen_ok]
        cases hs : skipJ 0 0 j2 t2 with
        | bad q a => rfl
        | ok u j3 t3 =>
          simp only [PJ.andThen_ok]
          cases t3 with
          | nil =>
            simp [signJ, PJ.andThen_bad]
          | cons d r =>
            by_cases h44 : d = 44
            · subst h44
              have : ¬ ((44 : UInt8) = e) := fun h => he h.symm
              simp [signJ, PJ.andThen_ok, this, items_loop vf m e he k]
              cases skipJ 0 0 (j3 + 1) r <;> rfl
            · by_cases hde : d = e
              · subst hde
                simp [signJ, PJ.andThen_ok, h44]
              · simp [signJ, PJ.andThen_bad, h44, hde]
/-- What an item that is read does, or what is wrong. -/
def ItemP {σ : Type} (step : σ → Nat → Bs → PJ σ) (Inv : σ → World → Prop) (Bad : World → Prop) (l : Bs) (b o c R : Nat) (s : σ) (i : Nat) (e : Ending) (w' : World) : Prop :=
  (∃ (s2 : σ) (j : Nat), step s i (l.drop i) = .ok s2 j (l.drop j) ∧ i < j ∧ j ≤ l.length ∧ e = .returned (.bool true) ∧ Inv s2 w' ∧ Rd l.length b o c R w' j 0 0) ∨
    ∃ (k a j : Nat), step s i (l.drop i) = .bad k a ∧ e = .returned (.bool false) ∧ Bad w' ∧ Rd l.length b o c R w' j (k : Int) (a : Int)
/-- What brackets and their inside say. -/
def insR {σ : Type} (step : σ → Nat → Bs → PJ σ) (l : Bs) (e : UInt8) (s0 : σ) (inn i : Nat) : PJ σ :=
  if inn = 64 then .bad 2 i else (skipJ 0 0 (i + 1) (l.drop (i + 1))).andThen fun _ j t => if t.head? = some e then .ok s0 (j + 1) t.tail else loopJ step e (l.length - i + 1) s0 j t
set_option maxHeartbeats 8000000 in
set_option maxRecDepth 100000 in
theorem inside_L {σ : Type} (step : σ → Nat → Bs → PJ σ) (Inv : σ → World → Prop) (Bad : World → Prop) {l : Bs} {b o c R : Nat} {cap : Array Value}
    (hsrc : ∀ s w, Inv s w → Src l b o c R w) (hst : ∀ s w w', Inv s w → But R w w' → Inv s w') (hbs : ∀ s w, Inv s w → Bad w) (hbst : ∀ w w', Bad w → But R w w' → Bad w')
    (size : σ → Nat) (hsize : ∀ s i t s2 j t2, step s i t = .ok s2 j t2 → size s2 ≤ size s + 1)
    (inn : Nat) (hitem : inn ≠ 64 → ∀ s w i, size s ≤ i → Inv s w → Rd l.length b o c R w i 0 0 → i ≤ l.length → Calls Tryd.prog 50 cap w fun e w' => ItemP step Inv Bad l b o c R s i e w')
    {w : World} {i : Nat} (s0 : σ) (h00 : size s0 = 0) (hI : Inv s0 w) (h : Rd l.length b o c R w i 0 0) (h0 : l[i]? = some 91) :
    Calls Tryd.prog 49 #[.pointer (some ⟨R, 0, none⟩), .int .u8 91, .int .u8 93, .int .i64 (inn : Int), .func (.func 50) #[] cap] w fun e w' =>
      (∃ (s2 : σ) (j : Nat), insR step l 93 s0 inn i = .ok s2 j (l.drop j) ∧ j ≤ l.length ∧ e = .returned (.bool true) ∧ Inv s2 w' ∧ Rd l.length b o c R w' j 0 0) ∨
      ∃ (k a j : Nat), insR step l 93 s0 inn i = .bad k a ∧ e = .returned (.bool false) ∧ Bad w' ∧ Rd l.length b o c R w' j (k : Int) (a : Int) := by
  have hi := (List.getElem?_eq_some_iff.1 h0).1
  have HS := Lib.hid (hsrc s0 w hI)
  have HR := Lib.hid h
  have HI := Lib.hid hI
  have hsm := (hsrc s0 w hI).small
  by_cases hin : inn = 64
  · have HE : Hid (insR step l 93 s0 inn i = .bad 2 i) := Lib.hid (by unfold insR; rw [if_pos hin])
    obtain ⟨c0, c1, c2, c3, fz, lt⟩ := h
    subst hin
    clear hsize h00 h0 hI hsrc hst hitem
    go_enter Tryd.func49, Tryd.ntmps49
    go_wp2_with fail
    refine (fail_x HR.out 2 (i : Int)).mono ?_
    rintro e w5 ⟨rfl, k1, k2⟩
    have HBd := Lib.hid (hbst _ _ (hbs _ _ HI.out) k2)
    clear hbst hbs
    go_wp2_with fail
    go_ret
    exact .inr ⟨2, i, i, HE.out, rfl, HBd.out, k1⟩
  · have hin2 : ¬ ((inn : Int) = 64) := by omega
    have HT := Lib.hid (take_x (hsrc s0 w hI) h 91)
    have HE : Hid (insR step l 93 s0 inn i = (skipJ 0 0 (i + 1) (l.drop (i + 1))).andThen fun _ j t => if t.head? = some 93 then .ok s0 (j + 1) t.tail else loopJ step 93 (l.length - i + 1) s0 j t) := Lib.hid (by unfold insR; rw [if_neg hin])
    have e1 : (signJ 91 i (l.drop i)).andThen (fun _ j t => skipJ 0 0 j t) = skipJ 0 0 (i + 1) (l.drop (i + 1)) := by rw [sign_yes h0]; rfl
    rw [e1] at HT
    have SRC := Lib.hid hsrc
    have ST := Lib.hid hst
    have BS := Lib.hid hbs
    have BST := Lib.hid hbst
    have IT := Lib.hid (hitem hin)
    have SZ := Lib.hid hsize
    have Z0 := Lib.hid h00
    clear hsize h00 h0 hI hsrc hst hbs hbst hitem hin e1 h
    go_enter Tryd.func49, Tryd.ntmps49
    go_wp2_with fail
    refine HT.out.mono ?_
    rintro e w1 ⟨B1, hx⟩
    clear HT
    rcases hx with ⟨j, q1, q2, rfl, q3⟩ | ⟨k, a, j, q1, rfl, q3⟩
    · have HE2 := Lib.hid (HE.out.trans (by rw [q1, PJ.andThen_ok, List.head?_drop, List.tail_drop]))
      have HF : Hid (i < j) := Lib.hid (Nat.lt_of_succ_le (skip_fwd _ _ _ _ _ _ q1))
      have I1 := Lib.hid (ST.out _ _ _ HI.out B1)
      have R1 := Lib.hid q3
      clear q1 q3 HE HI HR HS
      go_wp2_with fail
      refine (sees_x (SRC.out _ _ I1.out) R1.out 93).mono ?_
      rintro e w2 ⟨rfl, B2⟩
      have I2 := Lib.hid (ST.out _ _ _ I1.out (.of R B2))
      have R2 := Lib.hid (R1.out.below B2)
      obtain ⟨c0, c1, c2, c3, fz, lt⟩ := R1.out.below B2
      clear I1 R1
      by_cases hl : l[j]? = some 93
      · have hlt := (List.getElem?_eq_some_iff.1 hl).1
        rw [if_pos hl] at HE2
        have hdd : decide (l[j]? = some 93) = true := by simp [hl]
        rw [hdd]
        have hw : IntKind.i64.wrap ((j : Int) + 1) = ((j + 1 : Nat) : Int) := by rw [IntKind.wrap_i64]; omega
        have hj1 : Hid (j + 1 ≤ l.length) := hlt
        have I3 : Inv s0 (w2.setCell ⟨R, 1, none⟩ (.int .i64 ((j + 1 : Nat) : Int))) := ST.out _ _ _ I2.out ((But.refl _ _).set _ _)
        have I3 := Lib.hid I3
        have R3 := Lib.hid (R2.out.at_ (j + 1))
        clear hl hdd hlt
        generalize j + 1 = j1 at *
        go_wp2_with fail
        go_ret
        exact .inl ⟨s0, j1, HE2.out, hj1.out, rfl, I3.out, R3.out⟩
      · rw [if_neg hl] at HE2
        have hdd : decide (l[j]? = some 93) = false := by simp [hl]
        rw [hdd]
        clear hl hdd
        clear c0 c1 c2 c3 fz lt
        go_wp2_with fail
        go_loopw [] (fun wr => ∃ (s : σ) (j k : Nat), Inv s wr ∧ Rd l.length b o c R wr j 0 0 ∧ j ≤ l.length ∧ Hid (size s ≤ j) ∧ Hid (l.length - j < k) ∧ Hid (insR step l 93 s0 inn i = loopJ step 93 k s j (l.drop j))) (fun wr => l.length + 2 - (intCell wr ⟨R, 1, none⟩).toNat)
        case atStart => exact ⟨s0, j, l.length - i + 1, I2.out, R2.out, q2, Lib.hid (by rw [Z0.out]; exact Nat.zero_le _), Lib.hid (by have := HF.out; omega), HE2⟩
        case round =>
          clear HE2 HF I2 R2 q2
          obtain ⟨s, j, k, hI, hr, hj, hz, hk, hp⟩ := hrel
          obtain ⟨k1, rfl⟩ : ∃ k1, k = k1 + 1 := ⟨k - 1, by have := hk.out; omega⟩
          have hm0 := Lib.hid hr.ic
          have HX := Lib.hid (IT.out s wr j hz.out hI hr hj)
          clear hI hr
          go_wp2_with fail
          refine HX.out.mono ?_
          intro e w2 hx
          clear HX
          rcases hx with ⟨s2, j2, q1, q2, q3, rfl, q4, q5⟩ | ⟨k, a, j2, q1, rfl, q4, q5⟩
          · have HP := Lib.hid (hp.out.trans (by rw [loopJ, q1, PJ.andThen_ok, List.head?_drop, List.tail_drop]))
            have HF := Lib.hid q2
            have HZ : Hid (size s2 ≤ j2) := Lib.hid (by have h1 := SZ.out _ _ _ _ _ _ q1; have := hz.out; omega)
            have I2 := Lib.hid q4
            have R2 := Lib.hid q5
            clear hp q1 q2 q4 q5
            go_wp2_with fail
            refine (sees_x (SRC.out _ _ I2.out) R2.out 93).mono ?_
            rintro e w3 ⟨rfl, B3⟩
            have I3 := Lib.hid (ST.out _ _ _ I2.out (.of R B3))
            have R3 := Lib.hid (R2.out.below B3)
            obtain ⟨c0, c1, c2, c3, fz, lt⟩ := R2.out.below B3
            clear I2 R2
            by_cases hl : l[j2]? = some 93
            · have hlt := (List.getElem?_eq_some_iff.1 hl).1
              rw [if_pos hl] at HP
              have hdd : decide (l[j2]? = some 93) = true := by simp [hl]
              rw [hdd]
              have hw : IntKind.i64.wrap ((j2 : Int) + 1) = ((j2 + 1 : Nat) : Int) := by rw [IntKind.wrap_i64]; omega
              have hj1 : Hid (j2 + 1 ≤ l.length) := hlt
              have I4 : Inv s2 (w3.setCell ⟨R, 1, none⟩ (.int .i64 ((j2 + 1 : Nat) : Int))) := ST.out _ _ _ I3.out ((But.refl _ _).set _ _)
              have I4 := Lib.hid I4
              have R4 := Lib.hid (R3.out.at_ (j2 + 1))
              clear hl hdd hlt
              generalize j2 + 1 = j1 at *
              go_wp2_with fail
              go_ret
              exact .inl ⟨s2, j1, HP.out, hj1.out, rfl, I4.out, R4.out⟩
            · rw [if_neg hl] at HP
              have hdd : decide (l[j2]? = some 93) = false := by simp [hl]
              rw [hdd]
              clear hl hdd c0 c1 c2 c3 fz lt
              go_wp2_with fail
              refine (take_x (SRC.out _ _ I3.out) R3.out 44).mono ?_
              rintro e w4 ⟨B4, hx⟩
              have I4 := Lib.hid (ST.out _ _ _ I3.out B4)
              rcases hx with ⟨j3, p1, p2, rfl, p3⟩ | ⟨k, a, j3, p1, rfl, p3⟩
              · have HP2 := Lib.hid (HP.out.trans (by rw [p1, PJ.andThen_ok]))
                have HF2 : Hid (j2 < j3) := Lib.hid (by
                  obtain ⟨_, j4, s4, g1, g2⟩ := PJ.then_ok p1
                  have g3 := sign_fwd g1
                  have g4 := skip_fwd _ _ _ _ _ _ g2
                  omega)
                have R5 := Lib.hid p3
                clear p1 p3 HP
                go_wp2_with fail
                refine ⟨⟨s2, j3, k1, I4.out, R5.out, p2, Lib.hid (by have := HZ.out; have := HF2.out; omega), Lib.hid (by have := HF.out; have := HF2.out; have := hk.out; omega), HP2⟩, ?_⟩
                rw [hm0.out, R5.out.ic]
                have := HF.out
                have := HF2.out
                omega
              · have HP2 : Hid (insR step l 93 s0 inn i = .bad k a) := Lib.hid (HP.out.trans (by rw [p1, PJ.andThen_bad]))
                have HBd := Lib.hid (BS.out _ _ I4.out)
                have R5 := Lib.hid p3
                clear p1 p3 HP
                go_wp2_with fail
                go_ret
                exact .inr ⟨k, a, j3, HP2.out, rfl, HBd.out, R5.out⟩
          · have HP : Hid (insR step l 93 s0 inn i = .bad k a) := Lib.hid (hp.out.trans (by rw [loopJ, q1, PJ.andThen_bad]))
            have HBd := Lib.hid q4
            have R2 := Lib.hid q5
            clear hp q1 q4 q5
            go_wp2_with fail
            go_ret
            exact .inr ⟨k, a, j2, HP.out, rfl, HBd.out, R2.out⟩
    · have HE2 : Hid (insR step l 93 s0 inn i = .bad k a) := Lib.hid (HE.out.trans (by rw [q1, PJ.andThen_bad]))
      have HBd := Lib.hid (BST.out _ _ (BS.out _ _ HI.out) B1)
      have Q3 := Lib.hid q3
      clear q1 q3 HE
      go_wp2_with fail
      go_ret
      exact .inr ⟨k, a, j, HE2.out, rfl, HBd.out, Q3.out⟩
set_option maxHeartbeats 8000000 in
set_option maxRecDepth 100000 in
theorem inside_M {σ : Type} (step : σ → Nat → Bs → PJ σ) (Inv : σ → World → Prop) (Bad : World → Prop) {l : Bs} {b o c R : Nat} {cap : Array Value}
    (hsrc : ∀ s w, Inv s w → Src l b o c R w) (hst : ∀ s w w', Inv s w → But R w w' → Inv s w') (hbs : ∀ s w, Inv s w → Bad w) (hbst : ∀ w w', Bad w → But R w w' → Bad w')
    (size : σ → Nat) (hsize : ∀ s i t s2 j t2, step s i t = .ok s2 j t2 → size s2 ≤ size s + 1)
    (inn : Nat) (hitem : inn ≠ 64 → ∀ s w i, size s ≤ i → Inv s w → Rd l.length b o c R w i 0 0 → i ≤ l.length → Calls Tryd.prog 51 cap w fun e w' => ItemP step Inv Bad l b o c R s i e w')
    {w : World} {i : Nat} (s0 : σ) (h00 : size s0 = 0) (hI : Inv s0 w) (h : Rd l.length b o c R w i 0 0) (h0 : l[i]? = some 123) :
    Calls Tryd.prog 49 #[.pointer (some ⟨R, 0, none⟩), .int .u8 123, .int .u8 125, .int .i64 (inn : Int), .func (.func 51) #[] cap] w fun e w' =>
      (∃ (s2 : σ) (j : Nat), insR step l 125 s0 inn i = .ok s2 j (l.drop j) ∧ j ≤ l.length ∧ e = .returned (.bool true) ∧ Inv s2 w' ∧ Rd l.length b o c R w' j 0 0) ∨
      ∃ (k a j : Nat), insR step l 125 s0 inn i = .bad k a ∧ e = .returned (.bool false) ∧ Bad w' ∧ Rd l.length b o c R w' j (k : Int) (a : Int) := by
  have hi := (List.getElem?_eq_some_iff.1 h0).1
  have HS := Lib.hid (hsrc s0 w hI)
  have HR := Lib.hid h
  have HI := Lib.hid hI
  have hsm := (hsrc s0 w hI).small
  by_cases hin : inn = 64
  · have HE : Hid (insR step l 125 s0 inn i = .bad 2 i) := Lib.hid (by unfold insR; rw [if_pos hin])
    obtain ⟨c0, c1, c2, c3, fz, lt⟩ := h
    subst hin
    clear hsize h00 h0 hI hsrc hst hitem
    go_enter Tryd.func49, Tryd.ntmps49
    go_wp2_with fail
    refine (fail_x HR.out 2 (i : Int)).mono ?_
    rintro e w5 ⟨rfl, k1, k2⟩
    have HBd := Lib.hid (hbst _ _ (hbs _ _ HI.out) k2)
    clear hbst hbs
    go_wp2_with fail
    go_ret
    exact .inr ⟨2, i, i, HE.out, rfl, HBd.out, k1⟩
  · have hin2 : ¬ ((inn : Int) = 64) := by omega
    have HT := Lib.hid (take_x (hsrc s0 w hI) h 123)
    have HE : Hid (insR step l 125 s0 inn i = (skipJ 0 0 (i + 1) (l.drop (i + 1))).andThen fun _ j t => if t.head? = some 125 then .ok s0 (j + 1) t.tail else loopJ step 125 (l.length - i + 1) s0 j t) := Lib.hid (by unfold insR; rw [if_neg hin])
    have e1 : (signJ 123 i (l.drop i)).andThen (fun _ j t => skipJ 0 0 j t) = skipJ 0 0 (i + 1) (l.drop (i + 1)) := by rw [sign_yes h0]; rfl
    rw [e1] at HT
    have SRC := Lib.hid hsrc
    have ST := Lib.hid hst
    have BS := Lib.hid hbs
    have BST := Lib.hid hbst
    have IT := Lib.hid (hitem hin)
    have SZ := Lib.hid hsize
    have Z0 := Lib.hid h00
    clear hsize h00 h0 hI hsrc hst hbs hbst hitem hin e1 h
    go_enter Tryd.func49, Tryd.ntmps49
    go_wp2_with fail
    refine HT.out.mono ?_
    rintro e w1 ⟨B1, hx⟩
    clear HT
    rcases hx with ⟨j, q1, q2, rfl, q3⟩ | ⟨k, a, j, q1, rfl, q3⟩
    · have HE2 := Lib.hid (HE.out.trans (by rw [q1, PJ.andThen_ok, List.head?_drop, List.tail_drop]))
      have HF : Hid (i < j) := Lib.hid (Nat.lt_of_succ_le (skip_fwd _ _ _ _ _ _ q1))
      have I1 := Lib.hid (ST.out _ _ _ HI.out B1)
      have R1 := Lib.hid q3
      clear q1 q3 HE HI HR HS
      go_wp2_with fail
      refine (sees_x (SRC.out _ _ I1.out) R1.out 125).mono ?_
      rintro e w2 ⟨rfl, B2⟩
      have I2 := Lib.hid (ST.out _ _ _ I1.out (.of R B2))
      have R2 := Lib.hid (R1.out.below B2)
      obtain ⟨c0, c1, c2, c3, fz, lt⟩ := R1.out.below B2
      clear I1 R1
      by_cases hl : l[j]? = some 125
      · have hlt := (List.getElem?_eq_some_iff.1 hl).1
        rw [if_pos hl] at HE2
        have hdd : decide (l[j]? = some 125) = true := by simp [hl]
        rw [hdd]
        have hw : IntKind.i64.wrap ((j : Int) + 1) = ((j + 1 : Nat) : Int) := by rw [IntKind.wrap_i64]; omega
        have hj1 : Hid (j + 1 ≤ l.length) := hlt
        have I3 : Inv s0 (w2.setCell ⟨R, 1, none⟩ (.int .i64 ((j + 1 : Nat) : Int))) := ST.out _ _ _ I2.out ((But.refl _ _).set _ _)
        have I3 := Lib.hid I3
        have R3 := Lib.hid (R2.out.at_ (j + 1))
        clear hl hdd hlt
        generalize j + 1 = j1 at *
        go_wp2_with fail
        go_ret
        exact .inl ⟨s0, j1, HE2.out, hj1.out, rfl, I3.out, R3.out⟩
      · rw [if_neg hl] at HE2
        have hdd : decide (l[j]? = some 125) = false := by simp [hl]
        rw [hdd]
        clear hl hdd
        clear c0 c1 c2 c3 fz lt
        go_wp2_with fail
        go_loopw [] (fun wr => ∃ (s : σ) (j k : Nat), Inv s wr ∧ Rd l.length b o c R wr j 0 0 ∧ j ≤ l.length ∧ Hid (size s ≤ j) ∧ Hid (l.length - j < k) ∧ Hid (insR step l 125 s0 inn i = loopJ step 125 k s j (l.drop j))) (fun wr => l.length + 2 - (intCell wr ⟨R, 1, none⟩).toNat)
        case atStart => exact ⟨s0, j, l.length - i + 1, I2.out, R2.out, q2, Lib.hid (by rw [Z0.out]; exact Nat.zero_le _), Lib.hid (by have := HF.out; omega), HE2⟩
        case round =>
          clear HE2 HF I2 R2 q2
          obtain ⟨s, j, k, hI, hr, hj, hz, hk, hp⟩ := hrel
          obtain ⟨k1, rfl⟩ : ∃ k1, k = k1 + 1 := ⟨k - 1, by have := hk.out; omega⟩
          have hm0 := Lib.hid hr.ic
          have HX := Lib.hid (IT.out s wr j hz.out hI hr hj)
          clear hI hr
          go_wp2_with fail
          refine HX.out.mono ?_
          intro e w2 hx
          clear HX
          rcases hx with ⟨s2, j2, q1, q2, q3, rfl, q4, q5⟩ | ⟨k, a, j2, q1, rfl, q4, q5⟩
          · have HP := Lib.hid (hp.out.trans (by rw [loopJ, q1, PJ.andThen_ok, List.head?_drop, List.tail_drop]))
            have HF := Lib.hid q2
            have HZ : Hid (size s2 ≤ j2) := Lib.hid (by have h1 := SZ.out _ _ _ _ _ _ q1; have := hz.out; omega)
            have I2 := Lib.hid q4
            have R2 := Lib.hid q5
            clear hp q1 q2 q4 q5
            go_wp2_with fail
            refine (sees_x (SRC.out _ _ I2.out) R2.out 125).mono ?_
            rintro e w3 ⟨rfl, B3⟩
            have I3 := Lib.hid (ST.out _ _ _ I2.out (.of R B3))
            have R3 := Lib.hid (R2.out.below B3)
            obtain ⟨c0, c1, c2, c3, fz, lt⟩ := R2.out.below B3
            clear I2 R2
            by_cases hl : l[j2]? = some 125
            · have hlt := (List.getElem?_eq_some_iff.1 hl).1
              rw [if_pos hl] at HP
              have hdd : decide (l[j2]? = some 125) = true := by simp [hl]
              rw [hdd]
              have hw : IntKind.i64.wrap ((j2 : Int) + 1) = ((j2 + 1 : Nat) : Int) := by rw [IntKind.wrap_i64]; omega
              have hj1 : Hid (j2 + 1 ≤ l.length) := hlt
              have I4 : Inv s2 (w3.setCell ⟨R, 1, none⟩ (.int .i64 ((j2 + 1 : Nat) : Int))) := ST.out _ _ _ I3.out ((But.refl _ _).set _ _)
              have I4 := Lib.hid I4
              have R4 := Lib.hid (R3.out.at_ (j2 + 1))
              clear hl hdd hlt
              generalize j2 + 1 = j1 at *
              go_wp2_with fail
              go_ret
              exact .inl ⟨s2, j1, HP.out, hj1.out, rfl, I4.out, R4.out⟩
            · rw [if_neg hl] at HP
              have hdd : decide (l[j2]? = some 125) = false := by simp [hl]
              rw [hdd]
              clear hl hdd c0 c1 c2 c3 fz lt
              go_wp2_with fail
              refine (take_x (SRC.out _ _ I3.out) R3.out 44).mono ?_
              rintro e w4 ⟨B4, hx⟩
              have I4 := Lib.hid (ST.out _ _ _ I3.out B4)
              rcases hx with ⟨j3, p1, p2, rfl, p3⟩ | ⟨k, a, j3, p1, rfl, p3⟩
              · have HP2 := Lib.hid (HP.out.trans (by rw [p1, PJ.andThen_ok]))
                have HF2 : Hid (j2 < j3) := Lib.hid (by
                  obtain ⟨_, j4, s4, g1, g2⟩ := PJ.then_ok p1
                  have g3 := sign_fwd g1
                  have g4 := skip_fwd _ _ _ _ _ _ g2
                  omega)
                have R5 := Lib.hid p3
                clear p1 p3 HP
                go_wp2_with fail
                refine ⟨⟨s2, j3, k1, I4.out, R5.out, p2, Lib.hid (by have := HZ.out; have := HF2.out; omega), Lib.hid (by have := HF.out; have := HF2.out; have := hk.out; omega), HP2⟩, ?_⟩
                rw [hm0.out, R5.out.ic]
                have := HF.out
                have := HF2.out
                omega
              · have HP2 : Hid (insR step l 125 s0 inn i = .bad k a) := Lib.hid (HP.out.trans (by rw [p1, PJ.andThen_bad]))
                have HBd := Lib.hid (BS.out _ _ I4.out)
                have R5 := Lib.hid p3
                clear p1 p3 HP
                go_wp2_with fail
                go_ret
                exact .inr ⟨k, a, j3, HP2.out, rfl, HBd.out, R5.out⟩
          · have HP : Hid (insR step l 125 s0 inn i = .bad k a) := Lib.hid (hp.out.trans (by rw [loopJ, q1, PJ.andThen_bad]))
            have HBd := Lib.hid q4
            have R2 := Lib.hid q5
            clear hp q1 q4 q5
            go_wp2_with fail
            go_ret
            exact .inr ⟨k, a, j2, HP.out, rfl, HBd.out, R2.out⟩
    · have HE2 : Hid (insR step l 125 s0 inn i = .bad k a) := Lib.hid (HE.out.trans (by rw [q1, PJ.andThen_bad]))
      have HBd := Lib.hid (BST.out _ _ (BS.out _ _ HI.out) B1)
      have Q3 := Lib.hid q3
      clear q1 q3 HE
      go_wp2_with fail
      go_ret
      exact .inr ⟨k, a, j, HE2.out, rfl, HBd.out, Q3.out⟩
end Go.Proofs.YtgiihljiekagdaaDoor
