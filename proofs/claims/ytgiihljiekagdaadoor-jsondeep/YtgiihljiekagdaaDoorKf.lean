/- Package json: take, spell. -/
import Derived.Test.YtgiihljiekagdaaDoorKe
namespace Go.Proofs.YtgiihljiekagdaaDoor
open Go.ChangeShapes Go.WideShapes Go.RowKit Go.Sort
theorem sign_no {l : Bs} {i : Nat} {x : UInt8} (h : l[i]? ≠ some x) : signJ x i (l.drop i) = .bad 1 i := by
  cases hg : l[i]? with
  | none =>
    have : l.drop i = [] := List.drop_eq_nil_of_le (List.getElem?_eq_none_iff.1 hg)
    rw [this]; rfl
  | some y =>
    rw [drop_at hg]
    rw [hg] at h
    have : y ≠ x := fun e => h (by rw [e])
    simp [signJ, this]
theorem sign_yes {l : Bs} {i : Nat} {x : UInt8} (h : l[i]? = some x) : signJ x i (l.drop i) = .ok () (i + 1) (l.drop (i + 1)) := by
  rw [drop_at h]; simp [signJ]
set_option maxHeartbeats 4000000 in
set_option maxRecDepth 100000 in
theorem take_x {l : Bs} {b o c R : Nat} {w : World} {i : Nat} (hs : Src l b o c R w) (h : Rd l.length b o c R w i 0 0) (x : UInt8) :
    Calls Tryd.prog 66 #[.pointer (some ⟨R, 0, none⟩), .int .u8 (x.toNat : Int)] w fun e w' => BoolP l b o c R w ((signJ x i (l.drop i)).andThen fun _ j t => skipJ 0 0 j t) e w' := by
  have HX := Lib.hid (sees_x hs h x)
  have HS := Lib.hid hs
  have HR := Lib.hid h
  have hsm := hs.small
  clear h hs
  go_enter Tryd.func66, Tryd.ntmps66
  go_wp2_with fail
  refine HX.out.mono ?_
  rintro e w1 ⟨rfl, B1⟩
  have H1 := Lib.hid (HR.out.below B1)
  have C1 := H1.out
  have S1 := Lib.hid (HS.out.below B1)
  have BB := But.of R B1
  obtain ⟨c0, c1, c2, c3, fz, lt⟩ := C1
  by_cases hx : l[i]? = some x
  · have hlt : i < l.length := (List.getElem?_eq_some_iff.1 hx).1
    have e1 := Lib.hid (sign_yes hx)
    have hd : decide (l[i]? = some x) = true := by simp [hx]
    rw [hd]
    have hw : IntKind.i64.wrap ((i : Int) + 1) = ((i + 1 : Nat) : Int) := by rw [IntKind.wrap_i64]; omega
    have hj1 : Hid (i + 1 ≤ l.length) := hlt
    clear hd hx HX
    generalize i + 1 = j at *
    go_wp2_with fail
    have H2 := H1.out.at_ j
    have BS : But R w1 (w1.setCell ⟨R, 1, none⟩ (.int .i64 (j : Int))) := (But.refl _ _).set _ _
    refine (skip_x (S1.out.but BS) H2 hj1.out).mono ?_
    rintro e w2 ⟨B2, h2⟩
    have B3 := (BB.trans BS).trans B2
    rcases h2 with ⟨q, h3, h4, rfl, h5⟩ | ⟨k, a, q, h3, rfl, h5⟩
    · go_wp2_with fail
      go_ret
      exact ⟨B3, .inl ⟨q, by rw [e1.out]; exact h3, h4, rfl, h5⟩⟩
    · go_wp2_with fail
      go_ret
      exact ⟨B3, .inr ⟨k, a, q, by rw [e1.out]; exact h3, rfl, h5⟩⟩
  · have hd : decide (l[i]? = some x) = false := by simp [hx]
    rw [hd]
    have e1 := Lib.hid (sign_no hx)
    clear hd hx HX
    go_wp2_with fail
    refine (fail_x H1.out 1 (i : Int)).mono ?_
    rintro e w2 ⟨rfl, h1, h2⟩
    go_wp2_with fail
    go_ret
    exact ⟨BB.trans h2, .inr ⟨1, i, i, by rw [e1.out]; rfl, rfl, h1⟩⟩
/-- What spell and digit hand back: where it fails the place is where the reader stands. -/
def BoolQ (l : Bs) (b o c R : Nat) (w : World) (r : PJ Unit) (e : Ending) (w' : World) : Prop :=
  But R w w' ∧ ((∃ j, r = .ok () j (l.drop j) ∧ j ≤ l.length ∧ e = .returned (.bool true) ∧ Rd l.length b o c R w' j 0 0) ∨ ∃ a : Nat, r = .bad 1 a ∧ a ≤ l.length ∧ e = .returned (.bool false) ∧ Rd l.length b o c R w' a 1 a)
theorem BoolQ.weak {l : Bs} {b o c R : Nat} {w : World} {r : PJ Unit} {e : Ending} {w' : World} (h : BoolQ l b o c R w r e w') : BoolP l b o c R w r e w' := by
  obtain ⟨h1, h2⟩ := h
  refine ⟨h1, ?_⟩
  rcases h2 with h | ⟨a, h3, _, h4, h5⟩
  · exact .inl h
  · exact .inr ⟨1, a, a, h3, h4, h5⟩
set_option maxHeartbeats 4000000 in
set_option maxRecDepth 100000 in
theorem spell_x {l : Bs} {b o c R : Nat} {w : World} {i : Nat} (hs : Src l b o c R w) (h : Rd l.length b o c R w i 0 0) (hi : i ≤ l.length) (q : Bs) (hq : q.length ≤ 1000) :
    Calls Tryd.prog 33 #[.pointer (some ⟨R, 0, none⟩), .string (baS q)] w fun e w' => BoolQ l b o c R w (wordJ q i (l.drop i)) e w' := by
  have HS := Lib.hid hs
  have HR := Lib.hid h
  have hsm := hs.small
  have hz := baS_size q
  clear h hs
  go_enter Tryd.func33, Tryd.ntmps33
  go_wp2_with fail
  go_loopw [5, 8] (fun _ kv wr => ∃ k : Nat, kv = .int .i64 (k : Int) ∧ k ≤ q.length ∧ But R w wr ∧ Rd l.length b o c R wr (i + k) 0 0 ∧ i + k ≤ l.length ∧ Hid (wordJ q i (l.drop i) = wordJ (q.drop k) (i + k) (l.drop (i + k)))) (fun _ kv _ => q.length + 2 - intN kv)
  case atStart => exact ⟨0, rfl, Nat.zero_le _, But.refl _ _, HR.out, hi, Lib.hid rfl⟩
  case round =>
    obtain ⟨k, rfl, hk, hb, hr, hj, hp⟩ := hrel
    have H1 := Lib.hid hr
    obtain ⟨c0, c1, c2, c3, fz, lt⟩ := hr
    by_cases hlt : k < q.length
    · have hget := List.getElem?_eq_getElem hlt
      have hd := Lib.hid (drop_at hget)
      have HX := Lib.hid (sees_x (HS.out.but hb) H1.out (q[k]'hlt))
      generalize hy : q[k]'hlt = y at *
      have HY := Lib.hid hy
      clear hy hget
      go_wp2_with fail
      simp only [baS_at q k hlt, HY.out]
      refine HX.out.mono ?_
      rintro e w1 ⟨rfl, B1⟩
      have H2 := Lib.hid (H1.out.below B1)
      have C1 := H2.out
      have BB := hb.trans (.of R B1)
      clear c0 c1 c2 c3 fz lt
      obtain ⟨c0, c1, c2, c3, fz, lt⟩ := C1
      by_cases hx : l[i + k]? = some y
      · have hlt2 : i + k < l.length := (List.getElem?_eq_some_iff.1 hx).1
        have e1 := Lib.hid (sign_yes hx)
        have hdd : decide (l[i + k]? = some y) = true := by simp [hx]
        rw [hdd]
        have hw : IntKind.i64.wrap ((i : Int) + (k : Int) + 1) = ((i + (k + 1) : Nat) : Int) := by rw [IntKind.wrap_i64]; omega
        have hw2 : IntKind.i64.wrap ((k : Int) + 1) = ((k + 1 : Nat) : Int) := by rw [IntKind.wrap_i64]; omega
        have HP : Hid (wordJ q i (l.drop i) = wordJ (q.drop (k + 1)) (i + (k + 1)) (l.drop (i + (k + 1)))) := Lib.hid (by
          rw [hp.out, hd.out, wordJ, e1.out]; rfl)
        have hj1 : Hid (i + (k + 1) ≤ l.length ∧ k + 1 ≤ q.length ∧ k < k + 1) := ⟨by omega, hlt, by omega⟩
        clear hdd hx HX hp hd HY e1
        generalize k + 1 = k1 at *
        go_wp2_with fail
        have e2 : ((i : Int) + (k1 : Int)) = ((i + k1 : Nat) : Int) := (Int.natCast_add i k1).symm
        rw [e2]
        refine ⟨⟨k1, rfl, hj1.out.2.1, BB.set _ _, H2.out.at_ (i + k1), hj1.out.1, HP⟩, ?_⟩
        have := hj1.out
        simp [intN]
        omega
      · have hdd : decide (l[i + k]? = some y) = false := by simp [hx]
        rw [hdd]
        have e1 : Hid (wordJ q i (l.drop i) = .bad 1 (i + k)) := Lib.hid (by rw [hp.out, hd.out, wordJ, sign_no hx]; rfl)
        clear hdd hx HX hp hd HY
        go_wp2_with fail
        have e2 : ((i : Int) + (k : Int)) = ((i + k : Nat) : Int) := (Int.natCast_add i k).symm
        rw [e2]
        clear e2
        refine (fail_x H2.out 1 ((i + k : Nat) : Int)).mono ?_
        rintro e w5 ⟨rfl, h1, h2⟩
        go_wp2_with fail
        go_ret
        exact ⟨BB.trans h2, .inr ⟨i + k, e1.out, hj, rfl, h1⟩⟩
    · have e1 : Hid (wordJ q i (l.drop i) = .ok () (i + k) (l.drop (i + k))) := Lib.hid (by rw [hp.out, List.drop_eq_nil_of_le (by omega)]; rfl)
      clear hp
      have hnk : ¬ ((k : Int) < (q.length : Int)) := by omega
      go_wp2_with fail
      go_ret
      exact ⟨hb, .inl ⟨_, e1.out, hj, rfl, H1.out⟩⟩
end Go.Proofs.YtgiihljiekagdaaDoor
