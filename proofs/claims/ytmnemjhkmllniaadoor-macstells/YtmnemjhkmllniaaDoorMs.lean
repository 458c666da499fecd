/- The laws' own small check 'awake' of stage 5. -/
import Derived.Test.YtmnemjhkmllniaaDoorMd
import Derived.Test.YtmnemjhkmllniaaDoorMn
namespace Go.Proofs.YtmnemjhkmllniaaDoor
open Go.ChangeShapes Go.WideShapes Go.RowKit Go.Sort

theorem parseM_is (s : ByteArray) (r : Option Nat) (w : World) (hg : Gl w) (hs : s.size < 4294967281) (h : macV s.data.toList = r) :
    Calls Tryd.prog 6 #[.string s] w fun e w' => e = .returned (macR r) ∧ Below w.heap.size w w' := h ▸ parseM_x s w hg hs
theorem nameM_is (s : ByteArray) (b : Bool) (w : World) (hs : s.size < 4294967281) (h : nameV s.data.toList = b) :
    Calls Tryd.prog 7 #[.string s] w fun e w' => e = .returned (.bool b) ∧ Below w.heap.size w w' := by
  have := nameM_x s.data.toList w (by rw [ba_len]; exact hs)
  rw [h] at this
  exact this.mono fun _ _ ⟨a, b⟩ => ⟨a, b ▸ Below.refl _ _⟩
theorem aw5_a (w : World) (hg : Gl w) : Calls Tryd.prog 6 #[.string ⟨#[48, 65, 58, 49, 98, 58, 48, 48, 58, 48, 48, 58, 48, 49, 58, 102, 102]⟩] w fun e w' => e = .returned (.tuple #[.int .u64 11111080395263, .bool true]) ∧ Below w.heap.size w w' :=
  parseM_is _ (some 11111080395263) w hg (by decide) (by decide +kernel)
theorem aw5_b (w : World) (hg : Gl w) : Calls Tryd.prog 9 #[.int .u64 11111080395263] w fun e w' => e = .returned (.tuple #[.string ⟨#[48, 97, 58, 49, 98, 58, 48, 48, 58, 48, 48, 58, 48, 49, 58, 102, 102]⟩, .bool true]) ∧ Below w.heap.size w w' := by
  have := printM_yes 11111080395263 w hg (by decide)
  rw [show tellM 11111080395263 = [48, 97, 58, 49, 98, 58, 48, 48, 58, 48, 48, 58, 48, 49, 58, 102, 102] by decide +kernel] at this
  exact this
theorem aw5_c (w : World) : Calls Tryd.prog 9 #[.int .u64 281474976710656] w fun e w' => e = .returned (.tuple #[.string ⟨#[]⟩, .bool false]) ∧ Below w.heap.size w w' :=
  printM_no 281474976710656 w (by decide) (by decide)
theorem aw5_d (w : World) (hg : Gl w) : Calls Tryd.prog 6 #[.string ⟨#[48, 97, 58, 49, 98, 58, 48, 48, 58, 48, 48, 58, 48, 49]⟩] w fun e w' => e = .returned (.tuple #[.int .u64 0, .bool false]) ∧ Below w.heap.size w w' :=
  parseM_is _ none w hg (by decide) (by decide +kernel)
theorem aw5_e (w : World) : Calls Tryd.prog 7 #[.string ⟨#[97, 45, 57]⟩] w fun e w' => e = .returned (.bool true) ∧ Below w.heap.size w w' := nameM_is _ true w (by decide) (by decide +kernel)
theorem aw5_f (w : World) : Calls Tryd.prog 7 #[.string ⟨#[]⟩] w fun e w' => e = .returned (.bool false) ∧ Below w.heap.size w w' := nameM_is _ false w (by decide) (by decide +kernel)
theorem aw5_g (w : World) : Calls Tryd.prog 7 #[.string ⟨#[65]⟩] w fun e w' => e = .returned (.bool false) ∧ Below w.heap.size w w' := nameM_is _ false w (by decide) (by decide +kernel)
set_option maxHeartbeats 2000000 in
theorem awake5_x (w : World) (hg : Gl w) : Calls Tryd.prog 8 #[] w fun e w' => e = .returned (.bool true) ∧ Below w.heap.size w w' := by
  have HG := Lib.hid hg
  clear hg
  go_enter Tryd.func8, Tryd.ntmps8
  go_wp2_with fail
  refine (aw5_a _ HG.out).mono ?_
  rintro e w1 ⟨rfl, B1⟩
  go_wp2_with fail
  refine (aw5_b _ (HG.out.below B1)).mono ?_
  rintro e w2 ⟨rfl, hb2⟩
  have B2 := below_next B1 hb2
  go_wp2_with fail
  refine (aw5_c _).mono ?_
  rintro e w3 ⟨rfl, hb3⟩
  have B3 := below_next B2 hb3
  go_wp2_with fail
  refine (aw5_d _ (HG.out.below B3)).mono ?_
  rintro e w4 ⟨rfl, hb4⟩
  have B4 := below_next B3 hb4
  go_wp2_with fail
  refine (aw5_e _).mono ?_
  rintro e w5 ⟨rfl, hb5⟩
  have B5 := below_next B4 hb5
  go_wp2_with fail
  refine (aw5_f _).mono ?_
  rintro e w6 ⟨rfl, hb6⟩
  have B6 := below_next B5 hb6
  go_wp2_with fail
  refine (aw5_g _).mono ?_
  rintro e w7 ⟨rfl, hb7⟩
  go_wp2
  go_ret
  exact ⟨rfl, below_next B6 hb7⟩
end Go.Proofs.YtmnemjhkmllniaaDoor
