/- addr.join: the number of eight groups. -/
import Derived.Test.YtkmbfnjmgimlhaaGreatDoorzPg
namespace Go.Proofs.YtkmbfnjmgimlhaaGreatDoor
open Go.ChangeShapes Go.WideShapes Go.RowKit Go.Sort

theorem take_one (l : List Nat) (k x : Nat) (h : l[k]? = some x) : l.take (k + 1) = l.take k ++ [x] := by rw [List.take_add_one, h]; rfl
theorem fa_low (l : List Nat) (k x : Nat) (h : l[k]? = some x) (hk : k < 4) : fold16 ((l.take (k + 1)).take 4) = fold16 ((l.take k).take 4) * 65536 + x ∧ fold16 ((l.take (k + 1)).drop 4) = fold16 ((l.take k).drop 4) := by
  have hl : k < l.length := (List.getElem?_eq_some_iff.1 h).1
  have e1 : (l.take k).length = k := by simp; omega
  have t1 : (l.take k ++ [x]).take 4 = l.take k ++ [x] := List.take_of_length_le (by simp; omega)
  have t2 : (l.take k).take 4 = l.take k := List.take_of_length_le (by omega)
  have t3 : (l.take k ++ [x]).drop 4 = [] := List.drop_of_length_le (by simp; omega)
  have t4 : (l.take k).drop 4 = [] := List.drop_of_length_le (by omega)
  rw [take_one l k x h, t1, t2, t3, t4, fold16_snoc]
  exact ⟨rfl, rfl⟩
theorem fa_high (l : List Nat) (k x : Nat) (h : l[k]? = some x) (hk : 4 ≤ k) : fold16 ((l.take (k + 1)).take 4) = fold16 ((l.take k).take 4) ∧ fold16 ((l.take (k + 1)).drop 4) = fold16 ((l.take k).drop 4) * 65536 + x := by
  have hl : k < l.length := (List.getElem?_eq_some_iff.1 h).1
  have e1 : (l.take k).length = k := by simp; omega
  rw [take_one l k x h, List.take_append_of_le_length (by omega), List.drop_append_of_le_length (by omega), fold16_snoc]
  exact ⟨rfl, rfl⟩
theorem fold3_lt {l : List Nat} (h : ∀ g ∈ l, g < 65536) (hl : l.length ≤ 3) : fold16 l < 281474976710656 := by
  have := foldl16_lt l 0 h
  have hp : 65536 ^ l.length ≤ 65536 ^ 3 := Nat.pow_le_pow_right (by decide) hl
  unfold fold16
  omega
theorem or16 (a x : Nat) (ha : a < 281474976710656) (hx : x < 65536) : bits .or .u64 (IntKind.u64.wrap ((a : Int) * 65536)) (x : Int) = ((a * 65536 + x : Nat) : Int) := by
  rw [IntKind.wrap_u64, show ((a : Int) * 65536) % 18446744073709551616 = ((a * 65536 : Nat) : Int) by omega, u64_or _ _ (by omega) (by omega) (by omega) (by omega)]
  simp only [Int.toNat_natCast]
  rw [or_add 16 a x hx]
set_option maxHeartbeats 4000000 in
set_option maxRecDepth 100000 in
theorem join_x (g c : Nat) (l : List Nat) (w : World) (hg : g < w.heap.size) (h8 : l.length = 8) (hl : ∀ x ∈ l, x < 65536) (hr : RowU w g l) :
    Calls Tryz.prog 105 #[.slice (some ⟨g, 0, none⟩) 8 c] w fun e w' => e = .returned (.agg #[.int .u64 (hiQ (joinV l)), .int .u64 (loQ (joinV l))]) ∧ Below w.heap.size w w' := by
  have HJ := Lib.hid (joinV_half hl h8)
  have HL := Lib.hid hl
  have HR := Lib.hid hr
  obtain ⟨W0, hW0⟩ : ∃ W0, W0 = (w.alloc (.cells #[.int .u64 0, .int .u64 0] 26)).alloc (.cells #[.int .u64 0, .int .u64 0] 26) := ⟨_, rfl⟩
  have B0 : Below w.heap.size w W0 := hW0 ▸ below2 _ _ _
  have z0 : W0.cell? ⟨w.heap.size, 0, none⟩ = some (.int .u64 0) := by rw [hW0]; simp [go_sem]
  have z1 : W0.cell? ⟨w.heap.size, 1, none⟩ = some (.int .u64 0) := by rw [hW0]; simp [go_sem]
  have z2 : W0.cell? ⟨w.heap.size + 1, 0, none⟩ = some (.int .u64 0) := by rw [hW0]; simp [go_sem]
  have z3 : W0.cell? ⟨w.heap.size + 1, 1, none⟩ = some (.int .u64 0) := by rw [hW0]; simp [go_sem]
  have f0 : ∀ o, W0.frozen? ⟨w.heap.size, o, none⟩ = false := fun o => by rw [hW0]; simp [go_sem]
  have f1 : ∀ o, W0.frozen? ⟨w.heap.size + 1, o, none⟩ = false := fun o => by rw [hW0]; simp [go_sem]
  clear hl hr
  go_enter Tryz.func105, Tryz.ntmps105
  go_wp2
  rw [← hW0]
  clear hW0
  go_loopw [8] (fun i wr => ∃ (k a b : Nat), k ≤ 8 ∧ i = .int .i64 k ∧ Hid (a = fold16 ((l.take k).take 4) ∧ b = fold16 ((l.take k).drop 4)) ∧ wr.cell? ⟨w.heap.size, 0, none⟩ = some (.int .u64 0) ∧ wr.cell? ⟨w.heap.size, 1, none⟩ = some (.int .u64 0)
      ∧ wr.cell? ⟨w.heap.size + 1, 0, none⟩ = some (.int .u64 (a : Int)) ∧ wr.cell? ⟨w.heap.size + 1, 1, none⟩ = some (.int .u64 (b : Int)) ∧ (∀ o, wr.frozen? ⟨w.heap.size, o, none⟩ = false) ∧ (∀ o, wr.frozen? ⟨w.heap.size + 1, o, none⟩ = false) ∧ Below w.heap.size w wr)
    (fun i _ => 8 - (intOf i).toNat)
  case atStart => exact ⟨0, 0, 0, by omega, rfl, ⟨rfl, rfl⟩, z0, z1, z2, z3, f0, f1, B0⟩
  case round =>
    obtain ⟨k, a, b, hk, rfl, hh, c0, c1, c2, c3, g0, g1, hb⟩ := hrel
    clear z0 z1 z2 z3 f0 f1 B0
    by_cases hk8 : k < 8
    · obtain ⟨x, hx⟩ : ∃ x, l[k]? = some x := ⟨l[k]'(by omega), List.getElem?_eq_getElem (by omega)⟩
      have hx16 : x < 65536 := HL.out x (List.mem_of_getElem? hx)
      have hcx : wr.cell? ⟨g, k, none⟩ = some (.int .u64 (x : Int)) := (olds hb g k hg).trans (HR.out k x hx)
      by_cases hk4 : k < 4
      · have hs := fa_low l k x hx hk4
        have ha : a < 281474976710656 := by rw [hh.out.1]; exact fold3_lt (fun y hy => HL.out y (List.mem_of_mem_take (List.mem_of_mem_take hy))) (by simp; omega)
        have HO := Lib.hid (or16 a x ha hx16)
        have HN : Hid (a * 65536 + x = fold16 ((l.take (k + 1)).take 4) ∧ b = fold16 ((l.take (k + 1)).drop 4)) := ⟨by rw [hs.1, ← hh.out.1], by rw [hs.2, ← hh.out.2]⟩
        clear hs ha hh hx hx16
        go_wp2
        go_roundw
        case rel =>
          rw [HO.out]
          refine ⟨k + 1, a * 65536 + x, b, by omega, by go_num, HN, ?_, ?_, ?_, ?_, ?_, ?_, hb.setCell (by simp) _⟩
          · rw [World.cell?_setCell_other _ _ _ _ (by simp)]; exact c0
          · rw [World.cell?_setCell_other _ _ _ _ (by simp)]; exact c1
          · exact World.cell?_setCell_same _ _ _ c2
          · rw [World.cell?_setCell_other _ _ _ _ (by simp)]; exact c3
          · intro o; simp [g0]
          · intro o; simp [g1]
        case measure => simp [intOf]; omega
      · have hs := fa_high l k x hx (by omega)
        have ha : b < 281474976710656 := by rw [hh.out.2]; exact fold3_lt (fun y hy => HL.out y (List.mem_of_mem_take (List.mem_of_mem_drop hy))) (by simp; omega)
        have HO := Lib.hid (or16 b x ha hx16)
        have HN : Hid (a = fold16 ((l.take (k + 1)).take 4) ∧ b * 65536 + x = fold16 ((l.take (k + 1)).drop 4)) := ⟨by rw [hs.1, ← hh.out.1], by rw [hs.2, ← hh.out.2]⟩
        have hk4' : ¬ (k : Int) < 4 := by omega
        clear hs ha hh hx hx16
        go_wp2
        go_roundw
        case rel =>
          rw [HO.out]
          refine ⟨k + 1, a, b * 65536 + x, by omega, by go_num, HN, ?_, ?_, ?_, ?_, ?_, ?_, hb.setCell (by simp) _⟩
          · rw [World.cell?_setCell_other _ _ _ _ (by simp)]; exact c0
          · rw [World.cell?_setCell_other _ _ _ _ (by simp)]; exact c1
          · rw [World.cell?_setCell_other _ _ _ _ (by simp)]; exact c2
          · exact World.cell?_setCell_same _ _ _ c3
          · intro o; simp [g0]
          · intro o; simp [g1]
        case measure => simp [intOf]; omega
    · have hkk : k = 8 := by omega
      subst hkk
      have t8 : l.take 8 = l := List.take_of_length_le (by omega)
      have e1 : (a : Int) = hiQ (joinV l) := by rw [HJ.out.1, hh.out.1, t8]
      have e2 : (b : Int) = loQ (joinV l) := by rw [HJ.out.2.1, hh.out.2, t8]
      rw [e1] at c2
      rw [e2] at c3
      clear hh e1 e2 t8
      go_wp2
      exact bodyPost_ret (v := .agg #[.int .u64 (hiQ (joinV l)), .int .u64 (loQ (joinV l))]) (by simp [results, Tryz.results105, go_sem, c0, c1]) rfl ⟨rfl, bset2 hb (Nat.le_refl _)⟩

def SideR (w : World) (r : Option (List Nat)) (e : Ending) (w' : World) : Prop := Below w.heap.size w w' ∧ match r with
  | none => e = .returned (.tuple #[.slice none 0 0, .bool false])
  | some l => ∃ p c, e = .returned (.tuple #[.slice p l.length c, .bool true]) ∧ ((l = [] ∧ p = none ∧ c = 0) ∨ ∃ g, p = some ⟨g, 0, none⟩ ∧ w.heap.size ≤ g ∧ g < w'.heap.size ∧ l.length ≤ c ∧ RowU w' g l)
set_option maxHeartbeats 1000000 in
theorem side_x (s : ByteArray) (ends : Bool) (w : World) (hg : Gl w) (hs : s.size < 4294967281) :
    Calls Tryz.prog 106 #[.string s, .bool ends] w fun e w' => SideR w (sideV ends s.data.toList) e w' := by
  by_cases h0 : s.data.toList = []
  · have he : s = ⟨#[]⟩ := by
      cases s with
      | mk d => congr 1; exact Array.toList_eq_nil_iff.1 h0
    subst he
    go_enter Tryz.func106, Tryz.ntmps106
    go_wp2
    go_ret2
    exact ⟨Below.refl _ _, none, 0, rfl, Or.inl ⟨rfl, rfl, rfl⟩⟩
  · have hv : sideV ends s.data.toList = groupsV ends 8 [] s.data.toList := if_neg h0
    have HI := Lib.hid (groups_x s ends w hg hs)
    rw [hv]
    have hemp : s.toList.isEmpty = false := by
      rw [← decide_eq_emptyBytes]
      exact decide_eq_false (fun h => h0 (by rw [h]; rfl))
    clear h0 hv hs
    go_enter Tryz.func106, Tryz.ntmps106
    go_wp2_with fail
    refine HI.out.mono ?_
    rintro e w1 ⟨hb, hr⟩
    cases hv : groupsV ends 8 [] s.data.toList with
    | none =>
      rw [hv] at hr
      subst hr
      have HV := Lib.hid hv
      clear hv
      go_wp2
      go_ret2
      refine ⟨hb, ?_⟩
      rw [HV.out]
      exact rfl
    | some l =>
      rw [hv] at hr
      obtain ⟨g, c, rfl, h1, h2, h3, h4⟩ := hr
      have HV := Lib.hid hv
      clear hv
      go_wp2
      go_ret2
      refine ⟨hb, ?_⟩
      rw [HV.out]
      exact ⟨some ⟨g, 0, none⟩, c, rfl, Or.inr ⟨g, rfl, h1, h2, h3, h4⟩⟩
end Go.Proofs.YtkmbfnjmgimlhaaGreatDoor
