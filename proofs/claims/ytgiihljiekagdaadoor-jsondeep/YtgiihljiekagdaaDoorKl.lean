/- Package json: escape, char. -/
import Derived.Test.YtgiihljiekagdaaDoorKj
import Derived.Test.YtgiihljiekagdaaDoorRn
namespace Go.Proofs.YtgiihljiekagdaaDoor
open Go.ChangeShapes Go.WideShapes Go.RowKit Go.Sort
def esc8 : Bs := [34, 92, 47, 98, 102, 110, 114, 116]
def scd8 : Bs := [34, 92, 47, 8, 12, 10, 13, 9]
theorem plain_is (y : UInt8) : (plainJ y = none ∧ Lib.indexByte esc8 y = -1) ∨ ∃ (d : UInt8) (k : Nat), plainJ y = some d ∧ Lib.indexByte esc8 y = (k : Int) ∧ k < 8 ∧ scd8[k]? = some d ∧ encJ d.toNat = [d] ∧ d.toNat < 128 := by
  have : ∀ n, n < 256 → (match plainJ (UInt8.ofNat n) with | none => Lib.indexByte esc8 (UInt8.ofNat n) == -1 | some d => (List.range 8).any fun k => Lib.indexByte esc8 (UInt8.ofNat n) == (k : Int) && scd8[k]? == some d && encJ d.toNat == [d] && decide (d.toNat < 128)) = true := by decide +kernel
  have h := this y.toNat y.toNat_lt
  simp only [UInt8.ofNat_toNat] at h
  cases hp : plainJ y with
  | none =>
    rw [hp] at h
    exact .inl ⟨rfl, by simpa using h⟩
  | some d =>
    rw [hp] at h
    simp only [List.any_eq_true, List.mem_range, Bool.and_eq_true, beq_iff_eq, decide_eq_true_eq] at h
    obtain ⟨k, hk, ⟨⟨h1, h2⟩, h3⟩, h4⟩ := h
    exact .inr ⟨d, k, rfl, h1, hk, h2, h3, h4⟩
set_option maxHeartbeats 8000000 in
set_option maxRecDepth 100000 in
theorem escape_x {l : Bs} {b o c R : Nat} {w : World} {i : Nat} (hs : Src l b o c R w) (h : Rd l.length b o c R w i 0 0) (h0 : l[i]? = some 92) :
    Calls Tryd.prog 63 #[.pointer (some ⟨R, 0, none⟩)] w fun e w' => RuneP l b o c R w (escJ i (l.drop (i + 1))) e w' := by
  have hi := (List.getElem?_eq_some_iff.1 h0).1
  have HS := Lib.hid hs
  have HR := Lib.hid h
  have hsm := hs.small
  have hcap := hs.cap
  have H0 := Lib.hid h0
  have hw : IntKind.i64.wrap ((i : Int) + 1) = ((i + 1 : Nat) : Int) := by rw [IntKind.wrap_i64]; omega
  have h0' := h
  obtain ⟨c0, c1, c2, c3, fz, lt⟩ := h
  cases hg : l[i + 1]? with
  | none =>
    have hle := List.getElem?_eq_none_iff.1 hg
    have HE : Hid (escJ i (l.drop (i + 1)) = .bad 1 (i + 1)) := Lib.hid (by rw [List.drop_eq_nil_of_le hle]; rfl)
    have he : i + 1 = l.length := by omega
    have HL := Lib.hid he
    clear hle hg hs h0
    rw [← he] at c0
    have HR2 : Hid (Rd (i + 1) b o c R w i 0 0) := by rw [he]; exact HR
    clear HR he
    generalize i + 1 = i1 at *
    go_enter Tryd.func63, Tryd.ntmps63
    go_wp2_with fail
    refine (fail_x HR2.out 1 (i1 : Int)).mono ?_
    rintro e w5 ⟨rfl, k1, k2⟩
    go_wp2_with fail
    go_ret2
    exact ⟨k2, .inr ⟨_, i1, i, HE.out, rfl, by rw [← HL.out]; exact k1⟩⟩
  | some y =>
    have hlt := (List.getElem?_eq_some_iff.1 hg).1
    have hcell := hs.byte hg
    have hne : ¬ (((i + 1 : Nat) : Int) = (l.length : Int)) := by omega
    have hne2 : ¬ (i + 1 = l.length) := by omega
    have hlt2 : ((i + 1 : Nat) : Int) < (l.length : Int) := by omega
    by_cases h117 : y = 117
    · subst h117
      have HC := Lib.hid (code_x hs h0' h0 hg)
      clear hg hs h0
      generalize i + 1 = i1 at *
      go_enter Tryd.func63, Tryd.ntmps63
      go_wp2_with fail
      refine HC.out.mono ?_
      rintro e w1 ⟨B1, hx⟩
      clear HC
      rcases hx with ⟨n, j, h1, h2, h3, h4, rfl, h5⟩ | ⟨v, a, j, h1, rfl, h5⟩
      · have H1 := Lib.hid h1
        have H3 := Lib.hid h3
        have H4 := Lib.hid h4
        clear h1 h3 h4
        go_wp2_with fail
        go_ret2
        exact ⟨B1, .inl ⟨n, j, H1.out, h2, H3.out, H4.out, rfl, h5⟩⟩
      · have H1 := Lib.hid h1
        clear h1
        go_wp2_with fail
        go_ret2
        exact ⟨B1, .inr ⟨_, a, j, H1.out, rfl, h5⟩⟩
    · have hq : ¬ ((y.toNat : Int) = 117) := fun e => h117 ((byte_is (c := y) (k := 117) (by decide)).1 e)
      have hdr := drop_at hg
      rcases plain_is y with ⟨hp, hix⟩ | ⟨d, k, hp, hix, hk, hsc, hen, hd⟩
      · have HE : Hid (escJ i (l.drop (i + 1)) = .bad 1 i) := Lib.hid (by rw [hdr, escJ]; simp only [hp]; rw [if_pos h117])
        have HI : Hid (∀ V, Calls Tryd.prog 80 #[.string ⟨#[34, 92, 47, 98, 102, 110, 114, 116]⟩, .int .u8 (y.toNat : Int)] V fun e w' => e = .returned (.int .i64 (-1)) ∧ w' = V) := fun V => by
          have := Tryd.strings_IndexByte ⟨#[34, 92, 47, 98, 102, 110, 114, 116]⟩ (y.toNat : Int) V
          have e2 : ((y.toNat : Int).toNat).toUInt8 = y := by simp
          rw [e2] at this
          exact this.mono fun e w' hh => ⟨by rw [hh.1]; exact congrArg (fun z => Ending.returned (Value.int .i64 z)) hix, hh.2⟩
        clear hg hs h0 hdr hp hix
        generalize i + 1 = i1 at *
        generalize y.toNat = u at *
        go_enter Tryd.func63, Tryd.ntmps63
        go_wp2_with fail
        refine (HI.out _).mono ?_
        rintro e w1 ⟨rfl, rfl⟩
        go_wp2_with fail
        refine (fail_x HR.out 1 (i : Int)).mono ?_
        rintro e w5 ⟨rfl, k1, k2⟩
        go_wp2_with fail
        go_ret2
        exact ⟨k2, .inr ⟨_, i, i, HE.out, rfl, k1⟩⟩
      · have HE : Hid (escJ i (l.drop (i + 1)) = .ok (encJ d.toNat) (i + 1 + 1) (l.drop (i + 1 + 1))) := Lib.hid (by rw [hdr, escJ]; simp only [hp]; rw [hen])
        have HI : Hid (∀ V, Calls Tryd.prog 80 #[.string ⟨#[34, 92, 47, 98, 102, 110, 114, 116]⟩, .int .u8 (y.toNat : Int)] V fun e w' => e = .returned (.int .i64 (k : Int)) ∧ w' = V) := fun V => by
          have := Tryd.strings_IndexByte ⟨#[34, 92, 47, 98, 102, 110, 114, 116]⟩ (y.toNat : Int) V
          have e2 : ((y.toNat : Int).toNat).toUInt8 = y := by simp
          rw [e2] at this
          exact this.mono fun e w' hh => ⟨by rw [hh.1]; exact congrArg (fun z => Ending.returned (Value.int .i64 z)) hix, hh.2⟩
        have hw2 : IntKind.i64.wrap (((i + 1 : Nat) : Int) + 1) = ((i + 1 + 1 : Nat) : Int) := by rw [IntKind.wrap_i64]; omega
        have HK : Hid (k < 8 ∧ scd8[k]? = some d ∧ d.toNat < 128) := ⟨hk, hsc, hd⟩
        have hkp : ¬ ((k : Int) < 0) := by omega
        have hj : Hid (i + 1 + 1 ≤ l.length) := hlt
        clear hg hs h0 hdr hp hix hsc hen hd
        generalize i + 1 + 1 = i2 at *
        generalize i + 1 = i1 at *
        generalize y.toNat = u at *
        go_enter Tryd.func63, Tryd.ntmps63
        go_wp2_with fail
        refine (HI.out _).mono ?_
        rintro e w1 ⟨rfl, rfl⟩
        go_wp2_with fail
        obtain ⟨k1, k2, k3⟩ := HK.out
        have e3 : ∀ h, (({ data := #[34, 92, 47, 8, 12, 10, 13, 9] } : ByteArray)[k]'h) = d := fun h =>
          (baS_at scd8 k k1 h).trans (by have := (List.getElem?_eq_some_iff.1 k2).2; exact this)
        have e4 : wrap32 (d.toNat : Int) = (d.toNat : Int) := by unfold wrap32; omega
        have hA : d.toNat < 0x110000 := Nat.lt_of_lt_of_le k3 (by decide)
        have hB : d.toNat < 0xd800 ∨ 0xe000 ≤ d.toNat := .inl (Nat.lt_of_lt_of_le k3 (by decide))
        have hR2 := HR.out.at_ i2
        have E3 := Lib.hid e3
        have E4 := Lib.hid e4
        clear e3 e4 k2 k3
        go_ret2
        refine ⟨(But.refl _ _).set _ _, .inl ⟨d.toNat, i2, HE.out, hj.out, hA, hB, ?_, hR2⟩⟩
        show Ending.returned (.tuple #[.int .i32 (wrap32 ((({ data := #[34, 92, 47, 8, 12, 10, 13, 9] } : ByteArray)[k]'(by exact k1)).toNat : Int)), .bool true]) = _
        rw [E3.out, E4.out]
end Go.Proofs.YtgiihljiekagdaaDoor
