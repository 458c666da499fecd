/- Package json: name. -/
import Derived.Test.YtgiihljiekagdaaDoorKs
import Derived.Test.YtgiihljiekagdaaDoorJp
import Derived.Maps.OwnSet
import Derived.StringKeys
namespace Go.Proofs.YtgiihljiekagdaaDoor
open Go.ChangeShapes Go.WideShapes Go.RowKit Go.Sort Go.Maps
/-- w' is w but for the blocks of X, and what came to it. -/
structure Bt (X : Nat → Prop) (w w' : World) : Prop where
  os : w'.os = w.os
  tape : w'.tape = w.tape
  output : w'.output = w.output
  size : w.heap.size ≤ w'.heap.size
  block : ∀ k, k < w.heap.size → ¬ X k → w'.heap[k]? = w.heap[k]?
theorem But.bt {R : Nat} {w w' : World} (h : But R w w') {X : Nat → Prop} (hX : X R) : Bt X w w' := ⟨h.os, h.tape, h.output, h.size, fun k hk hx => h.block k hk (fun e => hx (e ▸ hX))⟩
theorem Bt.refl (X : Nat → Prop) (w : World) : Bt X w w := ⟨rfl, rfl, rfl, Nat.le_refl _, fun _ _ _ => rfl⟩
theorem Bt.trans {X : Nat → Prop} {a b c : World} (h : Bt X a b) (k : Bt X b c) : Bt X a c :=
  ⟨k.os.trans h.os, k.tape.trans h.tape, k.output.trans h.output, Nat.le_trans h.size k.size, fun i hi hr => (k.block i (Nat.lt_of_lt_of_le hi h.size) hr).trans (h.block i hi hr)⟩
theorem Bt.grown {X : Nat → Prop} {a w w' : World} {row : Option Nat} (h : Bt X a w) (hg : w.grownBy w' row) (hr : ∀ k, row = some k → k < a.heap.size → X k) : Bt X a w' :=
  ⟨hg.os.trans h.os, hg.tape.trans h.tape, hg.output.trans h.output, Nat.le_trans h.size hg.size, fun k hk hn => (hg.block k (Nat.lt_of_lt_of_le hk h.size) (fun e => hn (hr k e.symm hk))).trans (h.block k hk hn)⟩
theorem Bt.keep {X : Nat → Prop} {w w' : World} (h : Bt X w w') (b : Nat) (hb : b < w.heap.size) (hr : ¬ X b) : (∀ o, w'.cell? ⟨b, o, none⟩ = w.cell? ⟨b, o, none⟩) ∧ (∀ o, w'.frozen? ⟨b, o, none⟩ = w.frozen? ⟨b, o, none⟩) ∧ b < w'.heap.size :=
  ⟨fun _ => World.cell?_of_block (w := w) (h.block b hb hr), fun _ => World.frozen?_of_block (w := w) (h.block b hb hr), Nat.lt_of_lt_of_le hb h.size⟩
/-- A set of names lies in a block. -/
def SetAt (w : World) (M : Nat) (ks : List Bs) : Prop := w.ownsMap (H := Unit) Tryd.prog 9 unitElem M ks.length (setOf (.agg []) (ks.map fun s => Lit.string s))
theorem law9 : Keyed Tryd.prog 9 := string_keyed Tryd.underlying9
theorem zeroU (w : World) : (zeroValue 54).run Tryd.prog w = .ok (.agg #[]) w := by kernel_rfl
theorem key9 (s : Bs) (h : s.length ≤ 255) : keyOf Tryd.prog 9 (.string (baS s)) = some (.string s) := by
  have := WideMaps.keyOf_string_mk (P := Tryd.prog) Tryd.underlying9 (s := baS s) (by rw [baS_size]; unfold maxLen; omega)
  simpa [baS] using this
theorem isKeys (ks : List Bs) : ∀ x ∈ ks.map (fun s => Lit.string s), WideAt.IsKeyLit x := fun x hx => by
  obtain ⟨s, _, rfl⟩ := List.mem_map.1 hx
  exact trivial
theorem has_ks (ks : List Bs) (s : Bs) : Maps.has (setOf (H := Unit) (.agg []) (ks.map fun s => Lit.string s)) (.string s) = decide (s ∈ ks) := by
  rw [has_setOf _ _ _ (isKeys ks), List.any_map]
  by_cases h : s ∈ ks
  · rw [decide_eq_true h]
    exact List.any_eq_true.2 ⟨s, h, by simp [Lit.sameKey]⟩
  · rw [decide_eq_false h]
    refine (Bool.eq_false_iff).2 fun e => h ?_
    obtain ⟨t, ht, e2⟩ := List.any_eq_true.1 e
    have : t = s := by simpa [Lit.sameKey] using e2
    exact this ▸ ht
theorem SetAt.but {w w' : World} {R M : Nat} {ks : List Bs} (h : SetAt w M ks) (hb : But R w w') (hM : M ≠ R) : SetAt w' M ks := by
  obtain ⟨es, clock, h1, h2⟩ := h
  exact ⟨es, clock, (hb.block M (Array.getElem?_eq_some_iff.1 h1).1 hM).trans h1, h2⟩
theorem SetAt.lt {w : World} {M : Nat} {ks : List Bs} (h : SetAt w M ks) : M < w.heap.size := World.ownsMap.lt h
theorem and_assoc' {α β γ : Type} (a : PJ α) (f : α → Nat → Bs → PJ β) (g : β → Nat → Bs → PJ γ) : (a.andThen fun x i s => (f x i s).andThen g) = (a.andThen f).andThen g := by
  cases a <;> rfl
theorem Rd.but' {n b o c R M : Nat} {w w' : World} {i : Nat} {k a : Int} (h : Rd n b o c R w i k a) (hb : But M w w') (hR : R ≠ M) : Rd n b o c R w' i k a := by
  obtain ⟨k1, f, m⟩ := hb.keep R h.lt hR
  exact ⟨(k1 0).trans h.c0, (k1 1).trans h.c1, (k1 2).trans h.c2, (k1 3).trans h.c3, fun o => (f o).trans (h.fz o), m⟩
theorem Src.but' {l : Bs} {b o c R M : Nat} {w w' : World} (h : Src l b o c R w) (hb : But M w w') (hM : M ≠ b) (h8 : 8 ≤ M) : Src l b o c R w' := by
  refine ⟨fun j x hj => ?_, h.cap, h.small, h.far, h.hR, Nat.lt_of_lt_of_le h.ltb hb.size, h.gl.but hb h8⟩
  obtain ⟨ad, e, h1, h2⟩ := h.bytes j x hj
  cases e
  exact ⟨_, rfl, Nat.lt_of_lt_of_le h1 hb.size, (hb.cell (p := Addr.add ⟨b, o, none⟩ j) (by rw [add_block]; exact h1) (by rw [add_block]; exact hM.symm)).trans h2⟩
/-- What a name that is read is, or what is wrong. -/
def NameP (ks : List Bs) (l : Bs) (b o c R M : Nat) (w : World) (i : Nat) (e : Ending) (w' : World) : Prop :=
  Bt (fun k => k = R ∨ k = M) w w' ∧ ((∃ (x : Bs) (j : Nat), nameJ ks i (l.drop i) = .ok x j (l.drop j) ∧ i < j ∧ j ≤ l.length ∧ e = .returned (.tuple #[.string (baS x), .bool true]) ∧ Rd l.length b o c R w' j 0 0 ∧ SetAt w' M (ks ++ [x])) ∨
    ∃ (k a j : Nat) (s : Bs), nameJ ks i (l.drop i) = .bad k a ∧ e = .returned (.tuple #[.string (baS s), .bool false]) ∧ Rd l.length b o c R w' j (k : Int) (a : Int))
set_option maxHeartbeats 8000000 in
set_option maxRecDepth 100000 in
theorem name_x {l : Bs} {b o c R M : Nat} {w : World} {i : Nat} (ks : List Bs) (hs : Src l b o c R w) (h : Rd l.length b o c R w i 0 0) (hM : SetAt w M ks) (hMR : M ≠ R) (hMb : M ≠ b) (hM8 : 8 ≤ M) (hks : ks.length ≤ 1000000) :
    Calls Tryd.prog 52 #[.pointer (some ⟨R, 0, none⟩), .map (some M)] w fun e w' => NameP ks l b o c R M w i e w' := by
  have HS := Lib.hid hs
  have HR := Lib.hid h
  have HM := Lib.hid hM
  have HX := Lib.hid (sees_x hs h 34)
  obtain ⟨c0, c1, c2, c3, fz, lt⟩ := h
  clear hs hM
  by_cases h34 : l[i]? = some 34
  · have hdd : decide (l[i]? = some 34) = true := by simp [h34]
    rw [hdd] at HX
    have H34 := Lib.hid h34
    have HN : Hid (nameJ ks i (l.drop i) = (textJ i (l.drop i)).andThen fun x j t => if x ∈ ks then .bad 3 i else (skipJ 0 0 j t).andThen fun _ j2 t2 => (signJ 58 j2 t2).andThen fun _ j3 t3 => (skipJ 0 0 j3 t3).andThen fun _ j4 t4 => .ok x j4 t4) := Lib.hid (by
      unfold nameJ
      rw [drop_at h34, if_neg (by simp)])
    clear hdd h34
    go_enter Tryd.func52, Tryd.ntmps52
    go_wp2_with fail
    refine HX.out.mono ?_
    rintro e w1 ⟨rfl, B1⟩
    have HT := Lib.hid (text_f (HS.out.below B1) (HR.out.below B1) H34.out)
    have BB := But.of R B1
    clear HX c0 c1 c2 c3 fz lt
    go_wp2_with fail
    refine HT.out.mono ?_
    rintro e w2 ⟨B2, hx⟩
    clear HT
    have B3 := BB.trans B2
    rcases hx with ⟨x, j, h1, h2, h3, h4, rfl, h5⟩ | ⟨k, a, j, h1, rfl, h5⟩
    · have hkey := key9 x h4
      have HM2 := Lib.hid (HM.out.but B3 hMR)
      have HK := Lib.hid hkey
      have hhas := has_ks ks x
      have H5 := Lib.hid h5
      have HN2 := Lib.hid (HN.out.trans (by rw [h1, PJ.andThen_ok]))
      clear h1 HN h5 hkey
      by_cases hmem : x ∈ ks
      · rw [decide_eq_true hmem] at hhas
        have HN3 : Hid (nameJ ks i (l.drop i) = .bad 3 i) := Lib.hid (HN2.out.trans (if_pos hmem))
        have HH := Lib.hid hhas
        clear hhas hmem HN2
        go_wp2_with (at_lookup; refine wpList_lookup_own_unit _ rfl _ _ 93 rfl 9 54 law9 Tryd.underlying93 (zeroU _) M ks.length _ rfl HM2.out _ _ rfl HK.out ?_; rw [HH.out])
        refine (fail_x (H5.out.below (ball (Below.refl _ _))) 3 (i : Int)).mono ?_
        rintro e w5 ⟨rfl, k1, k2⟩
        go_wp2_with fail
        go_ret2
        exact ⟨((B3.alloc _).trans k2).bt (.inl rfl), .inr ⟨3, i, j, [], HN3.out, rfl, k1⟩⟩
      · rw [decide_eq_false hmem] at hhas
        have HN3 := Lib.hid (HN2.out.trans (if_neg hmem))
        have HH := Lib.hid hhas
        clear hhas hmem HN2
        go_wp2_with (first
          | (at_lookup; refine wpList_lookup_own_unit _ rfl _ _ 93 rfl 9 54 law9 Tryd.underlying93 (zeroU _) M ks.length _ rfl HM2.out _ _ rfl HK.out ?_; rw [HH.out])
          | (at_mapUpdate; refine wpList_mapUpdate_own _ rfl _ _ _ 93 rfl 9 54 law9 Tryd.underlying93 unitElem M ks.length _ rfl (HM2.out.alloc _) (by unfold maxLen; omega) _ _ _ rfl rfl HK.out (.agg []) [] unitElem_mk ?_))
        intro w3 hown3 hgrow3
        have HM3 : Hid (SetAt w3 M (ks ++ [x])) := Lib.hid (by
          unfold SetAt
          rw [List.map_append, List.map_cons, List.map_nil, setOf_snoc, List.length_append]
          exact hown3)
        have BT3 : Bt (fun k => k = R ∨ k = M) w w3 := ((B3.alloc _).bt (.inl rfl)).grown hgrow3 (fun k hk _ => by cases hk; exact .inr rfl)
        have BM : But M w2 w3 := (But.refl M w2 |>.alloc _).trans ⟨hgrow3.os, hgrow3.tape, hgrow3.output, hgrow3.size, fun k hk hn => hgrow3.block k hk (fun e => by cases e; exact hn rfl)⟩
        have H6 := Lib.hid (H5.out.but' BM (Ne.symm hMR))
        have S6 := Lib.hid ((HS.out.but B3).but' BM hMb hM8)
        clear hown3 hgrow3 HM2 HK HH
        go_wp2_with fail
        refine (skip_x S6.out H6.out h3).mono ?_
        rintro e w4 ⟨B4, hx⟩
        rcases hx with ⟨j2, q1, q2, rfl, q3⟩ | ⟨k, a, j2, q1, rfl, q3⟩
        · have HN4 := Lib.hid (HN3.out.trans (by rw [q1, PJ.andThen_ok]))
          have Q3 := Lib.hid q3
          clear q1 q3 HN3
          go_wp2_with fail
          refine (take_x (S6.out.but B4) Q3.out 58).mono ?_
          rintro e w7 ⟨B7, hx⟩
          rcases hx with ⟨j3, q1, q4, rfl, q3⟩ | ⟨k, a, j3, q1, rfl, q3⟩
          · have HN5 : Hid (nameJ ks i (l.drop i) = .ok x j3 (l.drop j3)) := Lib.hid (HN4.out.trans (by rw [show (signJ 58 j2 (l.drop j2)).andThen (fun _ j3 t3 => (skipJ 0 0 j3 t3).andThen fun _ j4 t4 => PJ.ok x j4 t4) = ((signJ 58 j2 (l.drop j2)).andThen fun _ j t => skipJ 0 0 j t).andThen fun _ j4 t4 => PJ.ok x j4 t4 from and_assoc' _ _ _, q1, PJ.andThen_ok]))
            have BB7 := B4.trans B7
            have HM7 := HM3.out.but BB7 hMR
            have HF : Hid (i < j3) := name_fwd HN5.out
            have Q3 := Lib.hid q3
            clear q1 q3 HN4
            go_wp2_with fail
            go_ret2
            exact ⟨BT3.trans (BB7.bt (.inl rfl)), .inl ⟨x, j3, HN5.out, HF.out, q4, rfl, Q3.out, HM7⟩⟩
          · have HN5 : Hid (nameJ ks i (l.drop i) = .bad k a) := Lib.hid (HN4.out.trans (by rw [show (signJ 58 j2 (l.drop j2)).andThen (fun _ j3 t3 => (skipJ 0 0 j3 t3).andThen fun _ j4 t4 => PJ.ok x j4 t4) = ((signJ 58 j2 (l.drop j2)).andThen fun _ j t => skipJ 0 0 j t).andThen fun _ j4 t4 => PJ.ok x j4 t4 from and_assoc' _ _ _, q1, PJ.andThen_bad]))
            have Q3 := Lib.hid q3
            clear q1 q3 HN4
            go_wp2_with fail
            go_ret2
            exact ⟨BT3.trans ((B4.trans B7).bt (.inl rfl)), .inr ⟨k, a, j3, x, HN5.out, rfl, Q3.out⟩⟩
        · have HN4 : Hid (nameJ ks i (l.drop i) = .bad k a) := Lib.hid (HN3.out.trans (by rw [q1, PJ.andThen_bad]))
          have Q3 := Lib.hid q3
          clear q1 q3 HN3
          go_wp2_with fail
          go_ret2
          exact ⟨BT3.trans (B4.bt (.inl rfl)), .inr ⟨k, a, j2, x, HN4.out, rfl, Q3.out⟩⟩
    · have HN2 : Hid (nameJ ks i (l.drop i) = .bad k a) := Lib.hid (HN.out.trans (by rw [h1]; rfl))
      clear h1 HN
      go_wp2_with fail
      go_ret2
      exact ⟨B3.bt (.inl rfl), .inr ⟨k, a, j, [], HN2.out, rfl, h5⟩⟩
  · have hdd : decide (l[i]? = some 34) = false := by simp [h34]
    rw [hdd] at HX
    have HN : Hid (nameJ ks i (l.drop i) = .bad 1 i) := Lib.hid (by
      unfold nameJ
      rw [if_pos]
      cases hg : l[i]? with
      | none => rw [List.drop_eq_nil_of_le (List.getElem?_eq_none_iff.1 hg)]; simp
      | some y => rw [drop_at hg]; rw [hg] at h34; simpa using h34)
    clear hdd h34
    go_enter Tryd.func52, Tryd.ntmps52
    go_wp2_with fail
    refine HX.out.mono ?_
    rintro e w1 ⟨rfl, B1⟩
    clear HX
    go_wp2_with fail
    refine (fail_x (HR.out.below B1) 1 (i : Int)).mono ?_
    rintro e w5 ⟨rfl, k1, k2⟩
    go_wp2_with fail
    go_ret2
    exact ⟨((But.of R B1).trans k2).bt (.inl rfl), .inr ⟨1, i, i, [], HN.out, rfl, k1⟩⟩
end Go.Proofs.YtgiihljiekagdaaDoor
