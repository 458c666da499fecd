/- Package json: skip. -/
import Derived.Test.YtgiihljiekagdaaDoorKd
import Derived.Lib.QuietBelow
namespace Go.Proofs.YtgiihljiekagdaaDoor
open Go.ChangeShapes Go.WideShapes Go.RowKit Go.Sort
/-- What a method hands back that answers a bool alone. -/
def BoolP (l : Bs) (b o c R : Nat) (w : World) (r : PJ Unit) (e : Ending) (w' : World) : Prop :=
  But R w w' ∧ ((∃ j, r = .ok () j (l.drop j) ∧ j ≤ l.length ∧ e = .returned (.bool true) ∧ Rd l.length b o c R w' j 0 0) ∨ ∃ k a j : Nat, r = .bad k a ∧ e = .returned (.bool false) ∧ Rd l.length b o c R w' j k a)
theorem byte_is {c : UInt8} {k : Nat} (hk : k < 256) : ((c.toNat : Int) = (k : Int)) ↔ c = UInt8.ofNat k := by
  constructor
  · intro h
    apply UInt8.toNat_inj.1
    simp; omega
  · rintro rfl; simp; omega
set_option maxHeartbeats 4000000 in
set_option maxRecDepth 100000 in
theorem drop_at {l : Bs} {i : Nat} {x : UInt8} (h : l[i]? = some x) : l.drop i = x :: l.drop (i + 1) := by
  obtain ⟨hi, e⟩ := List.getElem?_eq_some_iff.1 h
  rw [List.drop_eq_getElem_cons hi, e]
set_option maxHeartbeats 8000000 in
set_option maxRecDepth 100000 in
theorem skip_x {l : Bs} {b o c R : Nat} {w : World} {i : Nat} (hs : Src l b o c R w) (h : Rd l.length b o c R w i 0 0) (hi : i ≤ l.length) :
    Calls Tryd.prog 20 #[.pointer (some ⟨R, 0, none⟩)] w fun e w' => BoolP l b o c R w (skipJ 0 0 i (l.drop i)) e w' := by
  have HS := Lib.hid hs
  have hcap := hs.cap
  have hsm := hs.small
  clear hs
  go_enter Tryd.func20, Tryd.ntmps20
  go_wp2_with fail
  have H0 := Lib.hid h
  clear h
  go_loopw [3, 4] (fun _ _ wr => ∃ (j f : Nat), But R w wr ∧ Rd l.length b o c R wr j 0 0 ∧ j ≤ l.length ∧ Hid (skipJ 0 0 i (l.drop i) = skipJ 0 f j (l.drop j))) (fun _ _ wr => l.length - (intCell wr ⟨R, 1, none⟩).toNat)
  case atStart => exact ⟨i, 0, But.refl _ _, H0.out, hi, Lib.hid rfl⟩
  case round =>
    obtain ⟨j, f, hb, hr, hj, hp⟩ := hrel
    have HR := Lib.hid hr
    have hm0 := Lib.hid hr.ic
    obtain ⟨c0, c1, c2, c3, fz, lt⟩ := hr
    by_cases hlt : j < l.length
    · have hget := List.getElem?_eq_getElem hlt
      have hcell := (HS.out.but hb).byte hget
      have hd := Lib.hid (drop_at hget)
      generalize l[j]'hlt = y at *
      clear hget
      by_cases hbl : y = 32 ∨ y = 9 ∨ y = 10 ∨ y = 13
      · have HP : Hid (skipJ 0 0 i (l.drop i) = skipJ 0 f (j + 1) (l.drop (j + 1))) := Lib.hid (hp.out.trans (by rw [hd.out, skip_blank0 hbl]))
        have hw : IntKind.i64.wrap ((j : Int) + 1) = ((j + 1 : Nat) : Int) := by rw [IntKind.wrap_i64]; omega
        have hj1 : Hid (j < j + 1 ∧ j + 1 ≤ l.length) := ⟨by omega, hlt⟩
        clear hp hd
        generalize j + 1 = j1 at *
        rcases hbl with rfl | rfl | rfl | rfl
        all_goals
          go_wp2_with fail
          go_quiet (fail)
          go_wp2_with fail
          go_quiet (fail)
          go_wp2_with fail
          refine ⟨⟨j1, f, (hb.drewN _).set _ _, (HR.out.below (bdrew (Below.refl _ _) _)).at_ j1, hj1.out.2, HP⟩, ?_⟩
          rw [hm0.out, ((HR.out.below (bdrew (Below.refl _ _) _)).at_ j1).ic]
          have := hj1.out
          omega
      · by_cases hcm : y = 35 ∨ y = 47
        · have hcj : j < c := by omega
          have hsk := Lib.hid (skip_cmt hd.out hcm f j)
          have hdl : (l.drop j).length = l.length - j := by simp
          have hne : l.drop j ≠ [] := by rw [hd.out]; simp
          have hadv : adv (some ⟨b, o, none⟩) c j = some ⟨b, o + j, none⟩ := by
            unfold adv; rw [if_neg (by omega)]; simp only [Option.map_some, Addr.add]; split <;> simp_all
          have H2 : ∀ V : World, (Instr.slice 29 (.slice (some ⟨b, o, none⟩) l.length c) (some (.int .i64 (j : Int))) none none).run Tryd.prog V = .ok (.slice (some ⟨b, o + j, none⟩) (l.length - j) (c - j)) V := fun V => by
            have := sl_l (some ⟨b, o, none⟩) l.length c j hj V
            rwa [hadv] at this
          have HC : Hid (∀ V : World, Below wr.heap.size wr V → Calls Tryd.prog 26 #[.slice (some ⟨b, o + j, none⟩) (l.length - j) (c - j)] V fun e w' => e = .returned (.tuple #[.int .i64 ((cmtJ (l.drop j)).1 : Int), .bool (cmtJ (l.drop j)).2]) ∧ Below V.heap.size V w') := fun V hV => by
            have hsv := (HS.out.but hb).below hV
            have hby := hsv.bytes.drop c j hsv.cap
            rw [hadv] at hby
            have := cmt_x (l.drop j) b (o + j) (c - j) V hby hne (by rw [hdl]; omega) (by rw [hdl]; omega) hsv.gl
            rwa [hdl] at this
          clear hne hadv hd
          cases hok : (cmtJ (l.drop j)).2 with
          | true =>
            rw [hok, if_pos rfl] at hsk
            rw [hok] at HC
            rw [hdl] at hsk
            have hw : IntKind.i64.wrap ((j : Int) + ((cmtJ (l.drop j)).1 : Int)) = ((j + (cmtJ (l.drop j)).1 : Nat) : Int) := by rw [IntKind.wrap_i64]; have := hsk.out.2.1; omega
            generalize (cmtJ (l.drop j)).1 = s at *
            have HW := Lib.hid hw
            clear hw hdl hok
            rcases hcm with rfl | rfl
            all_goals
              go_wp2_with fail
              go_quiet (fail)
              go_wp2_with fail
              go_quiet (fail)
              go_wp2_with fail
              generalize hW : wr.drewN _ = V1
              have BQ : Below wr.heap.size wr V1 := hW ▸ bdrew (Below.refl _ _) _
              clear hW
              obtain ⟨d0, d1, d2, d3, dz, dl⟩ := HR.out.below BQ
              have r0 := cell_regrown d0
              have r1 := cell_regrown d1
              clear c0 c1 c2 c3 fz lt hcell d0 d1 d2 d3 dz dl
              refine wp_region_quiet_below (by kernel_rfl) (by kernel_rfl) ?_
              repeat (go_big_quiet_step (first | (go_at_call 26; exact Calls.regrown_of (HC.out _ (below_next BQ (below_regrown _ _ _))))))
              refine wpQuiet_nil ?_
              intro _ hw'
              obtain ⟨⟨dq, osq⟩, hw''⟩ := hw'
              subst hw''
              have BR := below_next BQ (below_regrown V1 dq osq)
              clear r0 r1
              generalize grow (redrawn V1 dq) osq = V at *
              have HV := Lib.hid (HR.out.below BR)
              have hw := HW.out
              obtain ⟨d0, d1, d2, d3, dz, dl⟩ := HR.out.below BR
              go_wp2_with fail
              obtain ⟨h1, h2, f2, h3⟩ := hsk.out
              have e1 : ((j : Int) + (s : Int)) = ((j + s : Nat) : Int) := by simp
              rw [e1]
              refine ⟨⟨j + s, f2, (hb.trans (.of R BR)).set _ _, HV.out.at_ (j + s), by omega, Lib.hid (hp.out.trans (by rw [h3, List.drop_drop]))⟩, ?_⟩
              rw [hm0.out, (HV.out.at_ (j + s)).ic]
              omega
          | false =>
            rw [hok] at hsk HC
            have HP : Hid (skipJ 0 0 i (l.drop i) = .bad 1 j) := Lib.hid (hp.out.trans (by simpa using hsk.out))
            generalize (cmtJ (l.drop j)).1 = s at *
            clear hdl hok hsk hp
            rcases hcm with rfl | rfl
            all_goals
              go_wp2_with fail
              go_quiet (fail)
              go_wp2_with fail
              go_quiet (fail)
              go_wp2_with fail
              generalize hW : wr.drewN _ = V1
              have BQ : Below wr.heap.size wr V1 := hW ▸ bdrew (Below.refl _ _) _
              clear hW
              obtain ⟨d0, d1, d2, d3, dz, dl⟩ := HR.out.below BQ
              have r0 := cell_regrown d0
              have r1 := cell_regrown d1
              clear c0 c1 c2 c3 fz lt hcell d0 d1 d2 d3 dz dl
              refine wp_region_quiet_below (by kernel_rfl) (by kernel_rfl) ?_
              repeat (go_big_quiet_step (first | (go_at_call 26; exact Calls.regrown_of (HC.out _ (below_next BQ (below_regrown _ _ _))))))
              refine wpQuiet_nil ?_
              intro _ hw'
              obtain ⟨⟨dq, osq⟩, hw''⟩ := hw'
              subst hw''
              have BR := below_next BQ (below_regrown V1 dq osq)
              clear r0 r1
              generalize grow (redrawn V1 dq) osq = V at *
              have HV := Lib.hid (HR.out.below BR)
              obtain ⟨d0, d1, d2, d3, dz, dl⟩ := HR.out.below BR
              go_wp2_with fail
              refine (fail_x HV.out 1 (j : Int)).mono ?_
              rintro e w5 ⟨rfl, h1, h2⟩
              go_wp2_with fail
              go_ret
              exact ⟨(hb.trans (.of R BR)).trans h2, Or.inr ⟨1, j, j, HP.out, rfl, h1⟩⟩
        · have HP : Hid (skipJ 0 0 i (l.drop i) = .ok () j (l.drop j)) := Lib.hid (hp.out.trans (by rw [hd.out, skip_stop0 hbl hcm]))
          have n1 : ¬ ((y.toNat : Int) = 32) := fun e => hbl (.inl ((byte_is (c := y) (k := 32) (by decide)).1 e))
          have n2 : ¬ ((y.toNat : Int) = 9) := fun e => hbl (.inr (.inl ((byte_is (c := y) (k := 9) (by decide)).1 e)))
          have n3 : ¬ ((y.toNat : Int) = 10) := fun e => hbl (.inr (.inr (.inl ((byte_is (c := y) (k := 10) (by decide)).1 e))))
          have n4 : ¬ ((y.toNat : Int) = 13) := fun e => hbl (.inr (.inr (.inr ((byte_is (c := y) (k := 13) (by decide)).1 e))))
          have n5 : ¬ ((y.toNat : Int) = 35) := fun e => hcm (.inl ((byte_is (c := y) (k := 35) (by decide)).1 e))
          have n6 : ¬ ((y.toNat : Int) = 47) := fun e => hcm (.inr ((byte_is (c := y) (k := 47) (by decide)).1 e))
          clear hbl hcm hd hp
          generalize y.toNat = u at *
          go_wp2_with fail
          go_quiet (fail)
          go_wp2_with fail
          go_quiet (fail)
          go_wp2_with fail
          go_ret
          exact ⟨hb.drewN _, Or.inl ⟨j, HP.out, hj, rfl, HR.out.below (bdrew (Below.refl _ _) _)⟩⟩
    · have hd2 : decide ((j : Int) < (l.length : Int)) = false := by simp; omega
      obtain rfl : j = l.length := by omega
      have HP : Hid (skipJ 0 0 i (l.drop i) = .ok () l.length (l.drop l.length)) := Lib.hid (hp.out.trans (by rw [List.drop_length, skip_end]))
      clear hp
      generalize hn : l.length = n at *
      go_wp2_with fail
      go_quiet (fail)
      go_wp2_with fail
      go_ret
      exact ⟨hb.drewN _, Or.inl ⟨n, HP.out, by omega, rfl, by rw [hn]; exact HR.out.below (bdrew (Below.refl _ _) _)⟩⟩
end Go.Proofs.YtgiihljiekagdaaDoor
