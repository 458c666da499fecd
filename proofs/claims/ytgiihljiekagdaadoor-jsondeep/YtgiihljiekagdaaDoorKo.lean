/- Package json: char. -/
import Derived.Test.YtgiihljiekagdaaDoorKl
import Derived.Test.YtgiihljiekagdaaDoorJr
namespace Go.Proofs.YtgiihljiekagdaaDoor
open Go.ChangeShapes Go.WideShapes Go.RowKit Go.Sort
/-- A sign of a text, or an escape. -/
def charJ (l : Bs) (i : Nat) : PJ Bs :=
  if l[i]? = some 92 then escJ i (l.drop (i + 1))
  else match l.drop i with
    | [] => .bad 1 i
    | c :: r => if c < 32 ∨ runeJ (c :: r) = 0 then .bad 1 i else .ok ((c :: r).take (runeJ (c :: r))) (i + runeJ (c :: r)) ((c :: r).drop (runeJ (c :: r)))
set_option maxHeartbeats 8000000 in
set_option maxRecDepth 100000 in
theorem char_x {l : Bs} {b o c R : Nat} {w : World} {i : Nat} (hs : Src l b o c R w) (h : Rd l.length b o c R w i 0 0) (hi : i ≤ l.length) :
    Calls Tryd.prog 47 #[.pointer (some ⟨R, 0, none⟩)] w fun e w' => RuneP l b o c R w (charJ l i) e w' := by
  have HS := Lib.hid hs
  have HR := Lib.hid h
  have hsm := hs.small
  have hcap := hs.cap
  have HX := Lib.hid (sees_x hs h 92)
  by_cases h92 : l[i]? = some 92
  · have hdd : decide (l[i]? = some 92) = true := by simp [h92]
    rw [hdd] at HX
    have HE : Hid (charJ l i = escJ i (l.drop (i + 1))) := Lib.hid (by unfold charJ; rw [if_pos h92])
    have H9 := Lib.hid h92
    clear hs h hdd h92
    go_enter Tryd.func47, Tryd.ntmps47
    go_wp2_with fail
    refine HX.out.mono ?_
    rintro e w1 ⟨rfl, B1⟩
    have HC := Lib.hid (escape_x (HS.out.below B1) (HR.out.below B1) H9.out)
    have BB := But.of R B1
    clear HX
    go_wp2_with fail
    refine HC.out.mono ?_
    rintro e w2 ⟨B2, hx⟩
    clear HC
    rcases hx with ⟨n, j, h1, h2, h3, h4, rfl, h5⟩ | ⟨v, a, j, h1, rfl, h5⟩
    · have H1 := Lib.hid (HE.out.trans h1)
      have H3 := Lib.hid h3
      have H4 := Lib.hid h4
      clear h1 h3 h4
      go_wp2_with fail
      go_ret2
      exact ⟨BB.trans B2, .inl ⟨n, j, H1.out, h2, H3.out, H4.out, rfl, h5⟩⟩
    · have H1 := Lib.hid (HE.out.trans h1)
      clear h1
      go_wp2_with fail
      go_ret2
      exact ⟨BB.trans B2, .inr ⟨_, a, j, H1.out, rfl, h5⟩⟩
  · have hdd : decide (l[i]? = some 92) = false := by simp [h92]
    rw [hdd] at HX
    obtain ⟨p, hp⟩ : ∃ p, adv (some ⟨b, o, none⟩) c i = some ⟨b, p, none⟩ := by
      unfold adv; split
      · exact ⟨_, rfl⟩
      · simp only [Option.map_some, Addr.add]; split <;> exact ⟨_, rfl⟩
    have H2 : ∀ V : World, (Instr.slice 29 (.slice (some ⟨b, o, none⟩) l.length c) (some (.int .i64 (i : Int))) none none).run Tryd.prog V = .ok (.slice (some ⟨b, p, none⟩) (l.length - i) (c - i)) V := fun V => by
      have := sl_l (some ⟨b, o, none⟩) l.length c i hi V
      rwa [hp] at this
    have hdl : (l.drop i).length = l.length - i := by simp
    have hsz : (baS (l.drop i)).size = l.length - i := by rw [baS_size, hdl]
    have HC : Hid (∀ V : World, Below w.heap.size w V → Calls Tryd.prog 64 #[.slice (some ⟨b, p, none⟩) (l.length - i) (c - i)] V fun e w' => e = .returned (.tuple #[.int .i32 (Lib.decodeGo (baS (l.drop i))).1, .int .i64 (Lib.decodeGo (baS (l.drop i))).2]) ∧ Below V.heap.size V w') := fun V hV => by
      have hsv := HS.out.below hV
      have hby := hsv.bytes.drop c i hsv.cap
      rw [hp] at hby
      have := decodeRune_x (baS (l.drop i)) b p (c - i) V hsv.gl (fun j hj => by
        rw [hsz] at hj
        have hjl : j < (l.drop i).length := by rw [hdl]; exact hj
        obtain ⟨ad, e, _, hc⟩ := hby j _ (List.getElem?_eq_getElem hjl)
        cases e
        have ea : Addr.add ⟨b, p, none⟩ j = ⟨b, p + j, none⟩ := by unfold Addr.add; split <;> simp_all
        rw [ea] at hc
        rw [hc]
        have eg : (baS (l.drop i)).get! j = (l.drop i)[j]'hjl := by
          show ((l.drop i).toArray[j]!) = _
          simp [List.getElem!_eq_getElem?_getD, List.getElem?_eq_getElem hjl]
        rw [eg])
      rwa [hsz] at this
    -- what is decoded: bad, or a rune
    have HE : Hid ((charJ l i = .bad 1 i ∧ ((Lib.decodeGo (baS (l.drop i))).1 < 32 ∨ (32 ≤ (Lib.decodeGo (baS (l.drop i))).1 ∧ (Lib.decodeGo (baS (l.drop i))).1 = 65533 ∧ (Lib.decodeGo (baS (l.drop i))).2 < 2))) ∨
        (charJ l i = .ok (encJ (Lib.decodeGo (baS (l.drop i))).1) (i + (Lib.decodeGo (baS (l.drop i))).2) (l.drop (i + (Lib.decodeGo (baS (l.drop i))).2)) ∧ i + (Lib.decodeGo (baS (l.drop i))).2 ≤ l.length ∧ 32 ≤ (Lib.decodeGo (baS (l.drop i))).1 ∧ (Lib.decodeGo (baS (l.drop i))).1 < 0x110000 ∧
          ((Lib.decodeGo (baS (l.drop i))).1 < 0xd800 ∨ 0xe000 ≤ (Lib.decodeGo (baS (l.drop i))).1) ∧ ((Lib.decodeGo (baS (l.drop i))).1 = 65533 → 2 ≤ (Lib.decodeGo (baS (l.drop i))).2))) := by
      show _ ∨ _
      unfold charJ
      rw [if_neg h92]
      cases hdr : l.drop i with
      | nil => exact .inl ⟨rfl, .inr ⟨by decide, rfl, by decide⟩⟩
      | cons y q =>
        have hlen : (y :: q).length = l.length - i := by rw [← hdr]; exact hdl
        simp only
        rcases dec_cases y q with ⟨h1, h2⟩ | ⟨v, h1, h2, h3, h4, h5, h6, h7, h8, h9⟩
        · rw [h2]
          exact .inl ⟨if_pos (.inr h1), .inr ⟨by decide, rfl, by decide⟩⟩
        · rw [h2]
          by_cases h32 : y < 32
          · have h32' : y.toNat < 32 := UInt8.lt_iff_toNat_lt.1 h32
            refine .inl ⟨if_pos (.inl h32), .inl ?_⟩
            show v < 32
            by_cases hk : (encJ v).length = 1
            · rw [(h6 hk).1]; exact h32'
            · exfalso
              have hv : 128 ≤ v := h7 (by omega)
              have hy128 : y < 128 := UInt8.lt_iff_toNat_lt.2 (show y.toNat < 128 by omega)
              have hy : runeJ (y :: q) = 1 := by simp only [runeJ]; rw [if_pos hy128]
              omega
          · have h32' : 32 ≤ y.toNat := by
              have : ¬ (y.toNat < 32) := fun e => h32 (UInt8.lt_iff_toNat_lt.2 e)
              omega
            refine .inr ⟨?_, ?_, ?_, h4, h5, ?_⟩
            · rw [if_neg (by rintro (h | h); exact h32 h; omega), h3, h1]
              show PJ.ok _ _ _ = PJ.ok _ _ (l.drop (i + (encJ v).length))
              rw [← List.drop_drop, hdr]
            · show i + (encJ v).length ≤ l.length; omega
            · show 32 ≤ v
              by_cases hk : (encJ v).length = 1
              · rw [(h6 hk).1]; exact h32'
              · exact Nat.le_trans (by decide) (h7 (by omega))
            · intro hv
              show 2 ≤ (encJ v).length
              by_cases hk : (encJ v).length = 1
              · have := (h6 hk).2; have hv' : v = 65533 := hv; omega
              · omega
    clear hs h hdd h92 hdl hsz hp
    generalize (Lib.decodeGo (baS (l.drop i))).1 = n at *
    generalize (Lib.decodeGo (baS (l.drop i))).2 = k at *
    go_enter Tryd.func47, Tryd.ntmps47
    go_wp2_with fail
    refine HX.out.mono ?_
    rintro e w1 ⟨rfl, B1⟩
    clear HX
    go_wp2_with fail
    obtain ⟨d0, d1, d2, d3, dz, dl⟩ := HR.out.below B1
    have r0 := cell_regrown d0
    have r1 := cell_regrown d1
    clear d0 d1 d2 d3 dz dl
    refine wp_region_quiet_below (by kernel_rfl) (by kernel_rfl) ?_
    repeat (go_big_quiet_step (first | (go_at_call 64; exact Calls.regrown_of (HC.out _ (below_next B1 (below_regrown _ _ _))))))
    refine wpQuiet_nil ?_
    intro _ hw'
    obtain ⟨⟨dq, osq⟩, hw''⟩ := hw'
    subst hw''
    have BR := below_next B1 (below_regrown w1 dq osq)
    clear r0 r1 HC H2
    generalize grow (redrawn w1 dq) osq = V at *
    have HV := Lib.hid (HR.out.below BR)
    obtain ⟨d0, d1, d2, d3, dz, dl⟩ := HR.out.below BR
    rcases HE.out with ⟨q1, hx⟩ | ⟨q1, hle, h32, hn1, hn2, hbad⟩
    · have E1 := Lib.hid q1
      clear q1
      rcases hx with hx | ⟨hx, rfl, hk⟩
      · have g1 : (n : Int) < 32 := by omega
        clear hx HE
        go_wp2_with fail
        refine (fail_x HV.out 1 (i : Int)).mono ?_
        rintro e w5 ⟨rfl, k1, k2⟩
        go_wp2_with fail
        go_ret2
        exact ⟨(But.of R BR).trans k2, .inr ⟨_, i, i, E1.out, rfl, k1⟩⟩
      · have g2 : (k : Int) < 2 := by omega
        clear hx HE hk
        go_wp2_with fail
        refine (fail_x HV.out 1 (i : Int)).mono ?_
        rintro e w5 ⟨rfl, k1, k2⟩
        go_wp2_with fail
        go_ret2
        exact ⟨(But.of R BR).trans k2, .inr ⟨_, i, i, E1.out, rfl, k1⟩⟩
    · have E1 := Lib.hid q1
      clear q1
      have N1 := Lib.hid hn1
      have N2 := Lib.hid hn2
      have hw : IntKind.i64.wrap ((i : Int) + (k : Int)) = ((i + k : Nat) : Int) := by rw [IntKind.wrap_i64]; omega
      have HW := Lib.hid hw
      have L1 := Lib.hid hle
      have hT := HV.out.at_ (i + k)
      have g1 : ¬ ((n : Int) < 32) := by omega
      clear hn1 hn2 HE hw hle h32
      generalize i + k = ik at *
      by_cases hf : n = 65533
      · have hk2 : ¬ ((k : Int) < 2) := by have := hbad hf; omega
        have hw := HW.out
        subst hf
        clear hbad
        go_wp2_with fail
        go_ret2
        exact ⟨(But.of R BR).set _ _, .inl ⟨_, ik, E1.out, L1.out, N1.out, N2.out, rfl, hT⟩⟩
      · have hf2 : ¬ ((n : Int) = 65533) := by omega
        have hw := HW.out
        clear hbad hf
        go_wp2_with fail
        go_ret2
        exact ⟨(But.of R BR).set _ _, .inl ⟨n, ik, E1.out, L1.out, N1.out, N2.out, rfl, hT⟩⟩
end Go.Proofs.YtgiihljiekagdaaDoor
