/- Package json: how many bytes a comment has. -/
import Derived.Test.YtgiihljiekagdaaDoorKc
import Derived.Test.YtgiihljiekagdaaDoorJk
import Derived.Test.YtgiihljiekagdaaDoorShelf
import Derived.Lib.SlBytesConst
namespace Go.Proofs.YtgiihljiekagdaaDoor
open Go.ChangeShapes Go.WideShapes Go.RowKit Go.Sort
theorem bytes_in {w : World} {b o : Nat} {x : Bs} (h : BytesAt w (some ⟨b, o, none⟩) x) : Lib.BytesIn w (some ⟨b, o, none⟩) x.length (numsOf x) := fun _ => by
  refine ⟨b, o, rfl, fun i hi => ?_⟩
  obtain ⟨ad, e, _, h2⟩ := h i _ (List.getElem?_eq_getElem hi)
  cases e
  have : Addr.add ⟨b, o, none⟩ i = ⟨b, o + i, none⟩ := by unfold Addr.add; split <;> simp_all
  rw [this] at h2
  rw [h2]
  simp [numsOf, List.getD_eq_getElem?_getD, List.getElem?_map, List.getElem?_eq_getElem hi]
theorem nums_len (x : Bs) : (numsOf x).length = x.length := by simp [numsOf]
theorem nums_rng (x : Bs) : ∀ z ∈ numsOf x, 0 ≤ z ∧ z < 256 := fun z hz => by
  obtain ⟨y, _, rfl⟩ := List.mem_map.1 hz
  have := y.toNat_lt
  exact ⟨by omega, by omega⟩
theorem prefix_x {w : World} {b o g c d : Nat} {x : Bs} (n k : Nat) (y : Bs) (hn : n = x.length) (hk : k = y.length) (h : BytesAt w (some ⟨b, o, none⟩) x) (hy : BytesAt w (some ⟨g, 0, none⟩) y) (hc : x.length ≤ c) :
    Calls Tryd.prog 31 #[.slice (some ⟨b, o, none⟩) n c, .slice (some ⟨g, 0, none⟩) k d] w fun e w' => e = .returned (.bool (y.isPrefixOf x)) ∧ w' = w := by
  subst hk hn
  have := Tryd.bytes_HasPrefix_all (some ⟨b, o, none⟩) (some ⟨g, 0, none⟩) x.length c y.length d (numsOf x) (numsOf y) w (nums_len x) (nums_len y) hc (bytes_in h) (bytes_in hy)
  rw [numsOf_back, numsOf_back] at this
  exact this
/-- What Cut hands back first, and last. -/
def cutLen (x y : Bs) : Nat := if 0 ≤ Lib.index x y then (Lib.index x y).toNat else x.length
theorem cutV_is (b o c : Nat) (x y : Bs) : ∃ v2, Lib.cutV (some ⟨b, o, none⟩) x.length c y.length (Lib.index x y) = .tuple #[.slice (some ⟨b, o, none⟩) (cutLen x y) c, v2, .bool (decide (0 ≤ Lib.index x y))] := by
  unfold Lib.cutV cutLen
  by_cases h : 0 ≤ Lib.index x y
  · rw [if_pos h, if_pos h]; simp only [h, decide_true]; exact ⟨_, rfl⟩
  · rw [if_neg h, if_neg h]; simp only [h, decide_false]; exact ⟨_, rfl⟩
theorem cut_x {w : World} {b o g c d : Nat} {x : Bs} (n k : Nat) (y : Bs) (hn : n = x.length) (hk : k = y.length) (hg : Gl w) (h : BytesAt w (some ⟨b, o, none⟩) x) (hy : BytesAt w (some ⟨g, 0, none⟩) y) (hc : x.length ≤ c) (hs : x.length ≤ 1000000) (hs2 : y.length ≤ 1000000) :
    Calls Tryd.prog 32 #[.slice (some ⟨b, o, none⟩) n c, .slice (some ⟨g, 0, none⟩) k d] w fun e w' => (∃ v2, e = .returned (.tuple #[.slice (some ⟨b, o, none⟩) (cutLen x y) c, v2, .bool (decide (0 ≤ Lib.index x y))])) ∧ ∃ q, w' = w.drewN q := by
  subst hk hn
  obtain ⟨m, hm⟩ := hg.ml
  have := Tryd.bytes_Cut_all (some ⟨b, o, none⟩) (some ⟨g, 0, none⟩) x.length c y.length d (numsOf x) (numsOf y) m w (nums_len x) (nums_len y) (nums_rng x) (nums_rng y) (bytes_in h) (bytes_in hy) (fun e => by cases e) hc (by omega) (by omega) hm
  rw [numsOf_back, numsOf_back] at this
  refine this.mono fun e w' hh => ?_
  obtain ⟨rfl, hq⟩ := hh
  obtain ⟨v2, hv⟩ := cutV_is b o c x y
  exact ⟨⟨v2, by rw [hv]⟩, hq⟩
theorem bytes_new (V : World) (l : Bs) (t : TypeId) (m : Nat × Nat) : BytesAt (V.alloc (.cells (l.map fun b => Value.int .u8 (b.toNat : Int)).toArray t m)) (some ⟨V.heap.size, 0, none⟩) l := fun j b hj => by
  have hlt := (List.getElem?_eq_some_iff.1 hj).1
  refine ⟨_, rfl, by simp [go_sem], ?_⟩
  have e : ((⟨V.heap.size, 0, none⟩ : Addr).add j) = ⟨V.heap.size, j, none⟩ := by
    unfold Addr.add; split <;> simp_all
  rw [e, World.cell?_alloc_mark]
  simp [hj]
set_option maxHeartbeats 4000000 in
set_option maxRecDepth 100000 in
theorem cmt_x (x : Bs) (b o c : Nat) (w : World) (h : BytesAt w (some ⟨b, o, none⟩) x) (hne : x ≠ []) (hcap : x.length ≤ c) (hs : x.length ≤ 1000000) (hg : Gl w) :
    Calls Tryd.prog 26 #[.slice (some ⟨b, o, none⟩) x.length c] w fun e w' => e = .returned (.tuple #[.int .i64 ((cmtJ x).1 : Int), .bool (cmtJ x).2]) ∧ Below w.heap.size w w' := by
  have HH := Lib.hid h
  have HG := Lib.hid hg
  have kc := fun (w : World) (C : Array Value) (n c : Nat) => Lib.run_convert_bytes_const (P := Tryd.prog) w 29 5 C n c Tryd.underlying29 Tryd.underlying5
  have N1 : Hid (∀ (V : World) (m : Nat × Nat), BytesAt (V.alloc (.cells #[.int .u8 47, .int .u8 42] 5 m)) (some ⟨V.heap.size, 0, none⟩) [47, 42]) := fun V m => bytes_new V [47, 42] _ _
  have N2 : Hid (∀ (V : World) (m : Nat × Nat), BytesAt (V.alloc (.cells #[.int .u8 42, .int .u8 47] 5 m)) (some ⟨V.heap.size, 0, none⟩) [42, 47]) := fun V m => bytes_new V [42, 47] _ _
  have N3 : Hid (∀ (V : World) (m : Nat × Nat), BytesAt (V.alloc (.cells #[.int .u8 10] 5 m)) (some ⟨V.heap.size, 0, none⟩) [10]) := fun V m => bytes_new V [10] _ _
  have N5 : Hid (∀ V : World, BytesAt (V.alloc (.cells #[.int .u8 10] 5)) (some ⟨V.heap.size, 0, none⟩) [10]) := fun V => bytes_new V [10] _ _
  have N4 : Hid (∀ (V : World) (m : Nat × Nat), BytesAt (V.alloc (.cells #[.int .u8 47, .int .u8 47] 5 m)) (some ⟨V.heap.size, 0, none⟩) [47, 47]) := fun V m => bytes_new V [47, 47] _ _
  have hhead : ∃ y r, x = y :: r := by cases x with | nil => exact absurd rfl hne | cons y r => exact ⟨y, r, rfl⟩
  clear h hg
  by_cases hp : List.isPrefixOf [47, 42] x = true
  · have hl2 : 2 ≤ x.length := by simpa using (List.isPrefixOf_iff_prefix.1 hp).length_le
    have HS := Lib.hid (sl_l (some ⟨b, o, none⟩) x.length c 2 hl2)
    have hx2 : (x.drop 2).length = x.length - 2 := by simp
    have hadv : adv (some ⟨b, o, none⟩) c 2 = some ⟨b, if c = 2 then o else o + 2, none⟩ := by unfold adv; split <;> simp [Addr.add]
    have HD := Lib.hid (HH.out.drop c 2 hcap)
    rw [hadv] at HS HD
    generalize (if c = 2 then o else o + 2) = o2 at HS HD
    have hE : Hid ((cmtJ x).1 = cutLen (x.drop 2) [42, 47] + 4 ∧ (cmtJ x).2 = decide (0 ≤ Lib.index (x.drop 2) [42, 47])) := by
      have hgi := Lib.index_ge (x.drop 2) [42, 47]
      unfold cmtJ cutLen
      rw [if_pos hp]
      by_cases hm : Lib.index (x.drop 2) [42, 47] = -1
      · simp [hm]; exact trivial
      · have h0 : 0 ≤ Lib.index (x.drop 2) [42, 47] := by omega
        rw [if_neg hm, if_pos h0]; simp [h0]; exact trivial
    have hcl : cutLen (x.drop 2) [42, 47] ≤ x.length := by
      unfold cutLen
      by_cases hm : 0 ≤ Lib.index (x.drop 2) [42, 47]
      · rw [if_pos hm]; have := index_room (x.drop 2) [42, 47] hm; rw [hx2] at this; simp at this; omega
      · rw [if_neg hm]; simp
    have H2 : ∀ V : World, (Instr.slice 29 (.slice (some ⟨b, o, none⟩) x.length c) (some (.int .i64 2)) none none).run Tryd.prog V = .ok (.slice (some ⟨b, o2, none⟩) (x.length - 2) (c - 2)) V := fun V => HS.out V
    have hl2' := Lib.hid hl2
    clear hhead hadv hl2
    go_enter Tryd.func26, Tryd.ntmps26
    go_wp2_with fail
    refine (prefix_x (x := x) x.length 2 [47, 42] rfl rfl (HH.out.below (ball (Below.refl _ _))) (N1.out _ _) hcap).mono ?_
    rintro e w1 ⟨rfl, rfl⟩
    have B1 : Below w.heap.size w (w.alloc (.cells #[.int .u8 47, .int .u8 42] 5 (2, 3))) := ball (Below.refl _ _)
    have G1 := Lib.hid (HG.out.below B1)
    have D1 := Lib.hid (HD.out.below B1)
    rw [hp]
    generalize w.alloc (.cells #[.int .u8 47, .int .u8 42] 5 (2, 3)) = V1 at *
    go_wp2_with fail
    refine (cut_x (x := x.drop 2) (x.length - 2) 2 [42, 47] hx2.symm rfl (G1.out.below (ball (Below.refl _ _))) (D1.out.below (ball (Below.refl _ _))) (N2.out _ _) (by rw [hx2]; omega) (by rw [hx2]; omega) (by decide)).mono ?_
    rintro e w2 ⟨⟨v2, rfl⟩, q, rfl⟩
    have B2 : Below w.heap.size w ((V1.alloc (.cells #[.int .u8 42, .int .u8 47] 5 (2, 3))).drewN q) := bdrew (ball B1) q
    generalize (V1.alloc (.cells #[.int .u8 42, .int .u8 47] 5 (2, 3))).drewN q = V2 at *
    have hw : IntKind.i64.wrap ((cutLen (x.drop 2) [42, 47] : Int) + 4) = (cutLen (x.drop 2) [42, 47] : Int) + 4 := by rw [IntKind.wrap_i64]; omega
    clear hcl
    generalize cutLen (x.drop 2) [42, 47] = t at *
    generalize decide (0 ≤ Lib.index (x.drop 2) [42, 47]) = f at *
    go_wp2
    go_ret2
    obtain ⟨e1, e2⟩ := hE.out
    exact ⟨by rw [e1, e2]; simp, B2⟩
  · obtain ⟨y, r, hxe⟩ := hhead
    have hp0 : List.isPrefixOf [47, 42] x = false := (Bool.not_eq_true _).mp hp
    have hc0 : w.cell? ⟨b, o, none⟩ = some (.int .u8 (y.toNat : Int)) := by
      obtain ⟨ad, e, _, h2⟩ := HH.out 0 y (by rw [hxe]; rfl)
      cases e
      have e0 : Addr.add ⟨b, o, none⟩ 0 = ⟨b, o, none⟩ := by simp [Addr.add]
      rwa [e0] at h2
    have hb : b < w.heap.size := World.block_lt_of_cell? w _ hc0
    have hlen : cutLen x [10] = lineJ x := by
      have hgi := Lib.index_ge x [10]
      unfold cutLen
      rw [← line_index x]
      by_cases hm : Lib.index x [10] = -1
      · simp [hm]
      · rw [if_neg hm, if_pos (by omega)]
    have hpos : 0 < x.length := by rw [hxe]; simp
    have hE : Hid ((cmtJ x).1 = lineJ x ∧ (cmtJ x).2 = (decide (y = 35) || List.isPrefixOf [47, 47] x)) := by
      unfold cmtJ
      rw [if_neg hp]
      refine ⟨rfl, ?_⟩
      rw [hxe]
      show ((some y == some 35) || _) = _
      congr 1
    clear hp hxe hne
    go_enter Tryd.func26, Tryd.ntmps26
    go_wp2_with fail
    refine (prefix_x (x := x) x.length 2 [47, 42] rfl rfl (HH.out.below (ball (Below.refl _ _))) (N1.out _ _) hcap).mono ?_
    rintro e w1 ⟨rfl, rfl⟩
    have B1 : Below w.heap.size w (w.alloc (.cells #[.int .u8 47, .int .u8 42] 5 (2, 3))) := ball (Below.refl _ _)
    have G1 := Lib.hid (HG.out.below B1)
    rw [hp0]
    generalize w.alloc (.cells #[.int .u8 47, .int .u8 42] 5 (2, 3)) = V1 at *
    have D1 := Lib.hid (HH.out.below B1)
    go_wp2_with fail
    refine (cut_x (x := x) x.length 1 [10] rfl rfl (G1.out.below (ball (Below.refl _ _))) (D1.out.below (ball (Below.refl _ _))) (N5.out V1) hcap hs (by decide)).mono ?_
    rintro e w2 ⟨⟨v2, rfl⟩, q, rfl⟩
    have B2 : Below w.heap.size w ((V1.alloc (.cells #[.int .u8 10] 5)).drewN q) := bdrew (ball B1) q
    rw [hlen]
    generalize (V1.alloc (.cells #[.int .u8 10] 5)).drewN q = V2 at *
    have D2 := Lib.hid (HH.out.below B2)
    have k2 := (olds B2 b o hb).trans hc0
    clear hc0
    by_cases h35 : y = 35
    · subst h35
      go_wp2
      go_ret2
      obtain ⟨e1, e2⟩ := hE.out
      exact ⟨by rw [e1, e2]; simp, B2⟩
    · have hq : ¬ ((y.toNat : Int) = 35) := fun e => h35 (UInt8.toNat_inj.1 (by show y.toNat = 35; omega))
      go_wp2_with fail
      refine (prefix_x (x := x) x.length 2 [47, 47] rfl rfl (D2.out.below (ball (Below.refl _ _))) (N4.out _ _) hcap).mono ?_
      rintro e w3 ⟨rfl, rfl⟩
      have B3 : Below w.heap.size w (V2.alloc (.cells #[.int .u8 47, .int .u8 47] 5 (2, 3))) := ball B2
      generalize V2.alloc (.cells #[.int .u8 47, .int .u8 47] 5 (2, 3)) = V3 at *
      go_wp2
      go_ret2
      obtain ⟨e1, e2⟩ := hE.out
      exact ⟨by rw [e1, e2]; simp [h35]; exact fun e => absurd e hq, B3⟩
end Go.Proofs.YtgiihljiekagdaaDoor
