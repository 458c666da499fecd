/- The law's own check answers true. -/
import Derived.Test.YtgiihljiekagdaaDoorLv
namespace Go.Proofs.YtgiihljiekagdaaDoor
open Go.ChangeShapes Go.WideShapes Go.RowKit Go.Sort
set_option maxHeartbeats 16000000 in
set_option maxRecDepth 100000 in
theorem awake11_x (w : World) (hg : Gl w) : Calls Tryd.prog 10 #[] w fun e w' => e = .returned (.bool true) ∧ Below w.heap.size w w' := by
  have A0 : Hid (∀ (V : World) (m : Nat × Nat), Gl V → Calls Tryd.prog 8 #[.slice (some ⟨V.heap.size, 0, none⟩) 56 56] (V.alloc (.cells #[.int .u8 32, .int .u8 123, .int .u8 34, .int .u8 97, .int .u8 34, .int .u8 58, .int .u8 32, .int .u8 91, .int .u8 49, .int .u8 44, .int .u8 32, .int .u8 45, .int .u8 50, .int .u8 44, .int .u8 32, .int .u8 116, .int .u8 114, .int .u8 117, .int .u8 101, .int .u8 93, .int .u8 32, .int .u8 47, .int .u8 42, .int .u8 32, .int .u8 120, .int .u8 32, .int .u8 42, .int .u8 47, .int .u8 44, .int .u8 32, .int .u8 34, .int .u8 98, .int .u8 34, .int .u8 58, .int .u8 34, .int .u8 92, .int .u8 117, .int .u8 48, .int .u8 48, .int .u8 101, .int .u8 57, .int .u8 92, .int .u8 117, .int .u8 100, .int .u8 56, .int .u8 51, .int .u8 100, .int .u8 92, .int .u8 117, .int .u8 100, .int .u8 101, .int .u8 48, .int .u8 48, .int .u8 34, .int .u8 125, .int .u8 35] 5 m)) fun e w' => ∃ g o g2 o2 cl pq cq, e = .returned (.tuple #[.agg #[.int .i64 7, .int .i64 0, .string ⟨#[]⟩, .slice (some ⟨g, o, none⟩) 2 cl, .slice pq 2 cq, .int .i64 1], .agg #[.int .i64 0, .int .i64 0]]) ∧ 2 ≤ cl ∧ Awk w' g o g2 o2 ∧ Below V.heap.size V w') := Lib.hid fun V m hV =>
    (parse_c awk11 V m (by decide) hV).mono fun e w' h => by
      obtain ⟨⟨v, h1, h2⟩, h3⟩ := h.yes awk11_is
      obtain ⟨g, o, g2, o2, cl, pq, cq, rfl, h4, h5⟩ := awk_of h2
      exact ⟨g, o, g2, o2, cl, pq, cq, h1, h4, h5, h3⟩
  have A1 : Hid (∀ (V : World) (m : Nat × Nat), Gl V → Calls Tryd.prog 8 #[.slice (some ⟨V.heap.size, 0, none⟩) 4 4] (V.alloc (.cells #[.int .u8 91, .int .u8 49, .int .u8 44, .int .u8 93] 5 m)) fun e w' => e = .returned (.tuple #[.agg #[.int .i64 0, .int .i64 0, .string { data := #[] }, .slice none 0 0, .slice none 0 0, .int .i64 0], .agg #[.int .i64 1, .int .i64 3]]) ∧ Below V.heap.size V w') := Lib.hid fun V m hV =>
    (parse_c [91, 49, 44, 93] V m (by decide) hV).mono fun e w' h => h.no awk11_1
  have A2 : Hid (∀ (V : World) (m : Nat × Nat), Gl V → Calls Tryd.prog 8 #[.slice (some ⟨V.heap.size, 0, none⟩) 13 13] (V.alloc (.cells #[.int .u8 123, .int .u8 34, .int .u8 97, .int .u8 34, .int .u8 58, .int .u8 49, .int .u8 44, .int .u8 34, .int .u8 97, .int .u8 34, .int .u8 58, .int .u8 50, .int .u8 125] 5 m)) fun e w' => e = .returned (.tuple #[.agg #[.int .i64 0, .int .i64 0, .string { data := #[] }, .slice none 0 0, .slice none 0 0, .int .i64 0], .agg #[.int .i64 3, .int .i64 7]]) ∧ Below V.heap.size V w') := Lib.hid fun V m hV =>
    (parse_c [123, 34, 97, 34, 58, 49, 44, 34, 97, 34, 58, 50, 125] V m (by decide) hV).mono fun e w' h => h.no awk11_2
  have A3 : Hid (∀ (V : World) (m : Nat × Nat), Gl V → Calls Tryd.prog 8 #[.slice (some ⟨V.heap.size, 0, none⟩) 4 4] (V.alloc (.cells #[.int .u8 91, .int .u8 48, .int .u8 49, .int .u8 93] 5 m)) fun e w' => e = .returned (.tuple #[.agg #[.int .i64 0, .int .i64 0, .string { data := #[] }, .slice none 0 0, .slice none 0 0, .int .i64 0], .agg #[.int .i64 1, .int .i64 1]]) ∧ Below V.heap.size V w') := Lib.hid fun V m hV =>
    (parse_c [91, 48, 49, 93] V m (by decide) hV).mono fun e w' h => h.no awk11_3
  have A4 : Hid (∀ (V : World) (m : Nat × Nat), Gl V → Calls Tryd.prog 8 #[.slice (some ⟨V.heap.size, 0, none⟩) 8 8] (V.alloc (.cells #[.int .u8 34, .int .u8 92, .int .u8 117, .int .u8 100, .int .u8 56, .int .u8 51, .int .u8 100, .int .u8 34] 5 m)) fun e w' => e = .returned (.tuple #[.agg #[.int .i64 0, .int .i64 0, .string { data := #[] }, .slice none 0 0, .slice none 0 0, .int .i64 0], .agg #[.int .i64 1, .int .i64 1]]) ∧ Below V.heap.size V w') := Lib.hid fun V m hV =>
    (parse_c [34, 92, 117, 100, 56, 51, 100, 34] V m (by decide) hV).mono fun e w' h => h.no awk11_4
  have HG := Lib.hid hg
  clear hg
  have kc := fun (w : World) (C : Array Value) (n c : Nat) => Lib.run_convert_bytes_const (P := Tryd.prog) w 29 5 C n c Tryd.underlying29 Tryd.underlying5
  go_enter Tryd.func10, Tryd.ntmps10
  go_wp2_with fail
  refine (A0.out _ _ HG.out).mono ?_
  rintro e w1 ⟨g, o, g2, o2, cl, pq, cq, rfl, hcl, K1, hb1⟩
  clear A0
  go_upto_region 2 with fail
  generalize hw2 : (w1.alloc _).alloc _ = w2
  have B2 : Below w.heap.size w w2 := hw2 ▸ ball (ball hb1)
  have K2 := K1.next (hw2 ▸ ball (ball (Below.refl _ _)) : Below w1.heap.size w1 w2)
  have X2 : Six w2 w1.heap.size (.int .i64 7) (.int .i64 0) (.string ⟨#[]⟩) (.slice (some ⟨g, o, none⟩) 2 cl) (.slice pq 2 cq) (.int .i64 1) := by subst hw2; exact ⟨by simp [go_sem], by simp [go_sem], by simp [go_sem], by simp [go_sem], by simp [go_sem], by simp [go_sem], fun o => by simp [go_sem], by simp [go_sem]⟩
  have E2 : ErrC w2 (w1.heap.size + 1) 0 0 := by subst hw2; exact ⟨by simp [go_sem], by simp [go_sem], by simp [go_sem]⟩
  clear hw2 hb1 K1
  generalize w1.heap.size = N1 at *
  go_wp2_with fail
  refine (A1.out _ _ (HG.out.below B2)).mono ?_
  rintro e w3 ⟨rfl, hb3⟩
  have B3 := below_next B2 hb3
  have K3 := K2.next hb3
  have X3 := X2.below hb3
  have E2x := E2.next hb3
  clear A1 B2 K2 X2 hb3 E2
  go_upto_region 3 with fail
  generalize hw4 : (w3.alloc _).alloc _ = w4
  have hn4 : Below w3.heap.size w3 w4 := hw4 ▸ ball (ball (Below.refl _ _))
  have B4 := below_next B3 hn4
  have K4 := K3.next hn4
  have X4 := X3.below hn4
  have F4 : ErrC w4 (w3.heap.size + 1) 1 3 := by subst hw4; exact ⟨by simp [go_sem], by simp [go_sem], by simp [go_sem]⟩
  have E2xy := E2x.next hn4
  clear hw4 hn4 B3 K3 X3 E2x
  generalize w3.heap.size = N4 at *
  go_wp2_with fail
  refine (A2.out _ _ (HG.out.below B4)).mono ?_
  rintro e w5 ⟨rfl, hb5⟩
  have B5 := below_next B4 hb5
  have K5 := K4.next hb5
  have X5 := X4.below hb5
  have E2xyx := E2xy.next hb5
  have F4x := F4.next hb5
  clear A2 B4 K4 X4 hb5 E2xy F4
  go_upto_region 4 with fail
  generalize hw6 : (w5.alloc _).alloc _ = w6
  have hn6 : Below w5.heap.size w5 w6 := hw6 ▸ ball (ball (Below.refl _ _))
  have B6 := below_next B5 hn6
  have K6 := K5.next hn6
  have X6 := X5.below hn6
  have F6 : ErrC w6 (w5.heap.size + 1) 3 7 := by subst hw6; exact ⟨by simp [go_sem], by simp [go_sem], by simp [go_sem]⟩
  have E2xyxy := E2xyx.next hn6
  have F4xy := F4x.next hn6
  clear hw6 hn6 B5 K5 X5 E2xyx F4x
  generalize w5.heap.size = N6 at *
  go_wp2_with fail
  refine (A3.out _ _ (HG.out.below B6)).mono ?_
  rintro e w7 ⟨rfl, hb7⟩
  have B7 := below_next B6 hb7
  have K7 := K6.next hb7
  have X7 := X6.below hb7
  have E2xyxyx := E2xyxy.next hb7
  have F4xyx := F4xy.next hb7
  have F6x := F6.next hb7
  clear A3 B6 K6 X6 hb7 E2xyxy F4xy F6
  go_upto_region 5 with fail
  generalize hw8 : (w7.alloc _).alloc _ = w8
  have hn8 : Below w7.heap.size w7 w8 := hw8 ▸ ball (ball (Below.refl _ _))
  have B8 := below_next B7 hn8
  have K8 := K7.next hn8
  have X8 := X7.below hn8
  have F8 : ErrC w8 (w7.heap.size + 1) 1 1 := by subst hw8; exact ⟨by simp [go_sem], by simp [go_sem], by simp [go_sem]⟩
  have E2xyxyxy := E2xyxyx.next hn8
  have F4xyxy := F4xyx.next hn8
  have F6xy := F6x.next hn8
  clear hw8 hn8 B7 K7 X7 E2xyxyx F4xyx F6x
  generalize w7.heap.size = N8 at *
  go_wp2_with fail
  refine (A4.out _ _ (HG.out.below B8)).mono ?_
  rintro e w9 ⟨rfl, hb9⟩
  have B9 := below_next B8 hb9
  have K9 := K8.next hb9
  have X9 := X8.below hb9
  have E2xyxyxyx := E2xyxyxy.next hb9
  have F4xyxyx := F4xyxy.next hb9
  have F6xyx := F6xy.next hb9
  have F8x := F8.next hb9
  clear A4 B8 K8 X8 hb9 E2xyxyxy F4xyxy F6xy F8
  clear kc
  obtain ⟨E2xyxyxyxc, E2xyxyxyxd, E2xyxyxyxe⟩ := E2xyxyxyx.next (ball (ball (Below.refl _ _)) : Below w9.heap.size w9 ((w9.alloc (.cells #[.int .i64 0, .int .i64 0, .string { data := #[] }, .slice none 0 0, .slice none 0 0, .int .i64 0] 26)).alloc (.cells #[.int .i64 1, .int .i64 1] 33)))
  obtain ⟨F4xyxyxc, F4xyxyxd, F4xyxyxe⟩ := F4xyxyx.next (ball (ball (Below.refl _ _)) : Below w9.heap.size w9 ((w9.alloc (.cells #[.int .i64 0, .int .i64 0, .string { data := #[] }, .slice none 0 0, .slice none 0 0, .int .i64 0] 26)).alloc (.cells #[.int .i64 1, .int .i64 1] 33)))
  obtain ⟨F6xyxc, F6xyxd, F6xyxe⟩ := F6xyx.next (ball (ball (Below.refl _ _)) : Below w9.heap.size w9 ((w9.alloc (.cells #[.int .i64 0, .int .i64 0, .string { data := #[] }, .slice none 0 0, .slice none 0 0, .int .i64 0] 26)).alloc (.cells #[.int .i64 1, .int .i64 1] 33)))
  obtain ⟨F8xc, F8xd, F8xe⟩ := F8x.next (ball (ball (Below.refl _ _)) : Below w9.heap.size w9 ((w9.alloc (.cells #[.int .i64 0, .int .i64 0, .string { data := #[] }, .slice none 0 0, .slice none 0 0, .int .i64 0] 26)).alloc (.cells #[.int .i64 1, .int .i64 1] 33)))
  obtain ⟨E2xyxyxyxa, E2xyxyxyxb, E2xyxyxyxl⟩ := E2xyxyxyx
  obtain ⟨F4xyxyxa, F4xyxyxb, F4xyxyxl⟩ := F4xyxyx
  obtain ⟨F6xyxa, F6xyxb, F6xyxl⟩ := F6xyx
  obtain ⟨F8xa, F8xb, F8xl⟩ := F8x
  obtain ⟨x0, x1, x2, x3, x4, x5, xf, xl⟩ := X9
  obtain ⟨k3, ⟨c2, hc2, kl⟩, kn, kl1, kl2⟩ := K9
  go_wp2_with fail
  go_ret
  exact ⟨rfl, ball (ball B9)⟩
end Go.Proofs.YtgiihljiekagdaaDoor
