/- addr.join: the number of eight groups. -/
import Derived.Laws.CopyOwn
import Derived.Test.YtmnemjhkmllniaaGreatDoorzPg
namespace Go.Proofs.YtmnemjhkmllniaaGreatDoor
open Go.ChangeShapes Go.WideShapes Go.RowKit Go.Sort

theorem take_one (l : List Nat) (k x : Nat) (h : l[k]? = some x) : l.take (k + 1) = l.take k ++ [x] := by rw [List.take_add_one, h]; rfl
theorem fa_low (l : List Nat) (k x : Nat) (h : l[k]? = some x) (hk : k < 4) : fold16 ((l.take (k + 1)).take 4) = fold16 ((l.take k).take 4) * 65536 + x ∧ fold16 ((l.take (k + 1)).drop 4) = fold16 ((l.take k).drop 4) := by
  have hl : k < l.length := (List.getElem?_eq_some_iff.1 h).1
  have e1 : (l.take k).length = k := by simp; omega
  have t1 : (l.take k ++ [x]).take 4 = l.take k ++ [x] := List.take_of_length_le (by simp; omega)
  have t2 : (l.take k).take 4 = l.take k := List.take_of_length_le (by omega)
  have t3 : (l.take k ++ [x]).drop 4 = [] := List.drop_of_length_le (by simp; omega)
  have t4 : (l.take k).drop 4 = [] := List.drop_of_length_le (by omega)
  rw [take_one l k x h, t1, t2, t3, t4, fold16_snoc]
  exact ⟨rfl, rfl⟩
theorem fa_high (l : List Nat) (k x : Nat) (h : l[k]? = some x) (hk : 4 ≤ k) : fold16 ((l.take (k + 1)).take 4) = fold16 ((l.take k).take 4) ∧ fold16 ((l.take (k + 1)).drop 4) = fold16 ((l.take k).drop 4) * 65536 + x := by
  have hl : k < l.length := (List.getElem?_eq_some_iff.1 h).1
  have e1 : (l.take k).length = k := by simp; omega
  rw [take_one l k x h, List.take_append_of_le_length (by omega), List.drop_append_of_le_length (by omega), fold16_snoc]
  exact ⟨rfl, rfl⟩
theorem fold3_lt {l : List Nat} (h : ∀ g ∈ l, g < 65536) (hl : l.length ≤ 3) : fold16 l < 281474976710656 := by
  have := foldl16_lt l 0 h
  have hp : 65536 ^ l.length ≤ 65536 ^ 3 := Nat.pow_le_pow_right (by decide) hl
  unfold fold16
  omega
theorem or16 (a x : Nat) (ha : a < 281474976710656) (hx : x < 65536) : bits .or .u64 (IntKind.u64.wrap ((a : Int) * 65536)) (x : Int) = ((a * 65536 + x : Nat) : Int) := by
  rw [IntKind.wrap_u64, show ((a : Int) * 65536) % 18446744073709551616 = ((a * 65536 : Nat) : Int) by omega, u64_or _ _ (by omega) (by omega) (by omega) (by omega)]
  simp only [Int.toNat_natCast]
  rw [or_add 16 a x hx]
set_option maxHeartbeats 4000000 in
set_option maxRecDepth 100000 in
theorem join_x (g c : Nat) (l : List Nat) (w : World) (hg : g < w.heap.size) (h8 : l.length = 8) (hl : ∀ x ∈ l, x < 65536) (hr : RowU w g l) :
    Calls Tryz.prog 80 #[.slice (some ⟨g, 0, none⟩) 8 c] w fun e w' => e = .returned (.agg #[.int .u64 (hiQ (joinV l)), .int .u64 (loQ (joinV l))]) ∧ Below w.heap.size w w' := by
  have HJ := Lib.hid (joinV_half hl h8)
  have HL := Lib.hid hl
  have HR := Lib.hid hr
  obtain ⟨W0, hW0⟩ : ∃ W0, W0 = (w.alloc (.cells #[.int .u64 0, .int .u64 0] 26)).alloc (.cells #[.int .u64 0, .int .u64 0] 26) := ⟨_, rfl⟩
  have B0 : Below w.heap.size w W0 := hW0 ▸ below2 _ _ _
  have z0 : W0.cell? ⟨w.heap.size, 0, none⟩ = some (.int .u64 0) := by rw [hW0]; simp [go_sem]
  have z1 : W0.cell? ⟨w.heap.size, 1, none⟩ = some (.int .u64 0) := by rw [hW0]; simp [go_sem]
  have z2 : W0.cell? ⟨w.heap.size + 1, 0, none⟩ = some (.int .u64 0) := by rw [hW0]; simp [go_sem]
  have z3 : W0.cell? ⟨w.heap.size + 1, 1, none⟩ = some (.int .u64 0) := by rw [hW0]; simp [go_sem]
  have f0 : ∀ o, W0.frozen? ⟨w.heap.size, o, none⟩ = false := fun o => by rw [hW0]; simp [go_sem]
  have f1 : ∀ o, W0.frozen? ⟨w.heap.size + 1, o, none⟩ = false := fun o => by rw [hW0]; simp [go_sem]
  clear hl hr
  go_enter Tryz.func80, Tryz.ntmps80
  go_wp2
  rw [← hW0]
  clear hW0
  go_loopw [8] (fun i wr => ∃ (k a b : Nat), k ≤ 8 ∧ i = .int .i64 k ∧ Hid (a = fold16 ((l.take k).take 4) ∧ b = fold16 ((l.take k).drop 4)) ∧ wr.cell? ⟨w.heap.size, 0, none⟩ = some (.int .u64 0) ∧ wr.cell? ⟨w.heap.size, 1, none⟩ = some (.int .u64 0)
      ∧ wr.cell? ⟨w.heap.size + 1, 0, none⟩ = some (.int .u64 (a : Int)) ∧ wr.cell? ⟨w.heap.size + 1, 1, none⟩ = some (.int .u64 (b : Int)) ∧ (∀ o, wr.frozen? ⟨w.heap.size, o, none⟩ = false) ∧ (∀ o, wr.frozen? ⟨w.heap.size + 1, o, none⟩ = false) ∧ Below w.heap.size w wr)
    (fun i _ => 8 - (intOf i).toNat)
  case atStart => exact ⟨0, 0, 0, by omega, rfl, ⟨rfl, rfl⟩, z0, z1, z2, z3, f0, f1, B0⟩
  case round =>
    obtain ⟨k, a, b, hk, rfl, hh, c0, c1, c2, c3, g0, g1, hb⟩ := hrel
    clear z0 z1 z2 z3 f0 f1 B0
    by_cases hk8 : k < 8
    · obtain ⟨x, hx⟩ : ∃ x, l[k]? = some x := ⟨l[k]'(by omega), List.getElem?_eq_getElem (by omega)⟩
      have hx16 : x < 65536 := HL.out x (List.mem_of_getElem? hx)
      have hcx : wr.cell? ⟨g, k, none⟩ = some (.int .u64 (x : Int)) := (olds hb g k hg).trans (HR.out k x hx)
      by_cases hk4 : k < 4
      · have hs := fa_low l k x hx hk4
        have ha : a < 281474976710656 := by rw [hh.out.1]; exact fold3_lt (fun y hy => HL.out y (List.mem_of_mem_take (List.mem_of_mem_take hy))) (by simp; omega)
        have HO := Lib.hid (or16 a x ha hx16)
        have HN : Hid (a * 65536 + x = fold16 ((l.take (k + 1)).take 4) ∧ b = fold16 ((l.take (k + 1)).drop 4)) := ⟨by rw [hs.1, ← hh.out.1], by rw [hs.2, ← hh.out.2]⟩
        clear hs ha hh hx hx16
        go_wp2
        go_roundw
        case rel =>
          rw [HO.out]
          refine ⟨k + 1, a * 65536 + x, b, by omega, by go_num, HN, ?_, ?_, ?_, ?_, ?_, ?_, hb.setCell (by simp) _⟩
          · rw [World.cell?_setCell_other _ _ _ _ (by simp)]; exact c0
          · rw [World.cell?_setCell_other _ _ _ _ (by simp)]; exact c1
          · exact World.cell?_setCell_same _ _ _ c2
          · rw [World.cell?_setCell_other _ _ _ _ (by simp)]; exact c3
          · intro o; simp [g0]
          · intro o; simp [g1]
        case measure => simp [intOf]; omega
      · have hs := fa_high l k x hx (by omega)
        have ha : b < 281474976710656 := by rw [hh.out.2]; exact fold3_lt (fun y hy => HL.out y (List.mem_of_mem_take (List.mem_of_mem_drop hy))) (by simp; omega)
        have HO := Lib.hid (or16 b x ha hx16)
        have HN : Hid (a = fold16 ((l.take (k + 1)).take 4) ∧ b * 65536 + x = fold16 ((l.take (k + 1)).drop 4)) := ⟨by rw [hs.1, ← hh.out.1], by rw [hs.2, ← hh.out.2]⟩
        have hk4' : ¬ (k : Int) < 4 := by omega
        clear hs ha hh hx hx16
        go_wp2
        go_roundw
        case rel =>
          rw [HO.out]
          refine ⟨k + 1, a, b * 65536 + x, by omega, by go_num, HN, ?_, ?_, ?_, ?_, ?_, ?_, hb.setCell (by simp) _⟩
          · rw [World.cell?_setCell_other _ _ _ _ (by simp)]; exact c0
          · rw [World.cell?_setCell_other _ _ _ _ (by simp)]; exact c1
          · rw [World.cell?_setCell_other _ _ _ _ (by simp)]; exact c2
          · exact World.cell?_setCell_same _ _ _ c3
          · intro o; simp [g0]
          · intro o; simp [g1]
        case measure => simp [intOf]; omega
    · have hkk : k = 8 := by omega
      subst hkk
      have t8 : l.take 8 = l := List.take_of_length_le (by omega)
      have e1 : (a : Int) = hiQ (joinV l) := by rw [HJ.out.1, hh.out.1, t8]
      have e2 : (b : Int) = loQ (joinV l) := by rw [HJ.out.2.1, hh.out.2, t8]
      rw [e1] at c2
      rw [e2] at c3
      clear hh e1 e2 t8
      go_wp2
      exact bodyPost_ret (v := .agg #[.int .u64 (hiQ (joinV l)), .int .u64 (loQ (joinV l))]) (by simp [results, Tryz.results80, go_sem, c0, c1]) rfl ⟨rfl, bset2 hb (Nat.le_refl _)⟩

def SideR (w : World) (r : Option (List Nat)) (e : Ending) (w' : World) : Prop := Below w.heap.size w w' ∧ match r with
  | none => e = .returned (.tuple #[.slice none 0 0, .bool false])
  | some l => ∃ p c, e = .returned (.tuple #[.slice p l.length c, .bool true]) ∧ ((l = [] ∧ p = none ∧ c = 0) ∨ ∃ g, p = some ⟨g, 0, none⟩ ∧ w.heap.size ≤ g ∧ g < w'.heap.size ∧ l.length ≤ c ∧ RowU w' g l)
set_option maxHeartbeats 1000000 in
theorem side_x (s : ByteArray) (ends : Bool) (w : World) (hg : Gl w) (hs : s.size < 4294967281) :
    Calls Tryz.prog 81 #[.string s, .bool ends] w fun e w' => SideR w (sideV ends s.data.toList) e w' := by
  by_cases h0 : s.data.toList = []
  · have he : s = ⟨#[]⟩ := by
      cases s with
      | mk d => congr 1; exact Array.toList_eq_nil_iff.1 h0
    subst he
    go_enter Tryz.func81, Tryz.ntmps81
    go_wp2
    go_ret2
    exact ⟨Below.refl _ _, none, 0, rfl, Or.inl ⟨rfl, rfl, rfl⟩⟩
  · have hv : sideV ends s.data.toList = groupsV ends 8 [] s.data.toList := if_neg h0
    have HI := Lib.hid (groups_x s ends w hg hs)
    rw [hv]
    have hemp : s.toList.isEmpty = false := by
      rw [← decide_eq_emptyBytes]
      exact decide_eq_false (fun h => h0 (by rw [h]; rfl))
    clear h0 hv hs
    go_enter Tryz.func81, Tryz.ntmps81
    go_wp2_with fail
    refine HI.out.mono ?_
    rintro e w1 ⟨hb, hr⟩
    cases hv : groupsV ends 8 [] s.data.toList with
    | none =>
      rw [hv] at hr
      subst hr
      have HV := Lib.hid hv
      clear hv
      go_wp2
      go_ret2
      refine ⟨hb, ?_⟩
      rw [HV.out]
      exact rfl
    | some l =>
      rw [hv] at hr
      obtain ⟨g, c, rfl, h1, h2, h3, h4⟩ := hr
      have HV := Lib.hid hv
      clear hv
      go_wp2
      go_ret2
      refine ⟨hb, ?_⟩
      rw [HV.out]
      exact ⟨some ⟨g, 0, none⟩, c, rfl, Or.inr ⟨g, rfl, h1, h2, h3, h4⟩⟩
end Go.Proofs.YtmnemjhkmllniaaGreatDoor

/- addr.parseSix: eight groups, or fewer about a double colon. -/
namespace Go.Proofs.YtmnemjhkmllniaaGreatDoor
open Go.ChangeShapes Go.WideShapes Go.RowKit Go.Sort

def sixR (r : Option Nat) : Value := match r with
  | some n => .tuple #[.agg #[.int .u64 (hiQ n), .int .u64 (loQ n)], .bool true]
  | none => .tuple #[.agg #[.int .u64 0, .int .u64 0], .bool false]
/-- A block of two noughts, free to be written. -/
structure Zq (w : World) (b : Nat) : Prop where
  c0 : w.cell? ⟨b, 0, none⟩ = some (.int .u64 0)
  c1 : w.cell? ⟨b, 1, none⟩ = some (.int .u64 0)
  fr : ∀ o, w.frozen? ⟨b, o, none⟩ = false
  lt : b < w.heap.size
theorem Zq.below {w w' : World} {b : Nat} (h : Zq w b) (hb : Below w.heap.size w w') : Zq w' b := by
  obtain ⟨k, f, l⟩ := keepf hb b h.lt
  exact ⟨(k 0).trans h.c0, (k 1).trans h.c1, fun o => (f o).trans (h.fr o), l⟩
theorem zq_new (w : World) : Zq (w.alloc (.cells #[.int .u64 0, .int .u64 0] 26)) w.heap.size :=
  ⟨by simp [go_sem], by simp [go_sem], fun o => by simp [go_sem], by simp⟩
theorem cut2_is (s : ByteArray) (w : World) (hg : Gl w) (hs : s.size < 4294967281) (b : Bool) (h : (Lib.cut s.data.toList [58, 58]).2.2 = b) :
    Calls Tryz.prog 32 #[.string s, .string ⟨#[58, 58]⟩] w fun e w' => e = .returned (.tuple #[.string ⟨(Lib.cut s.data.toList [58, 58]).1.toArray⟩, .string ⟨(Lib.cut s.data.toList [58, 58]).2.1.toArray⟩, .bool b]) ∧ Below w.heap.size w w' := h ▸ cut2_x s w hg hs
/-- Eight noughts. -/
def Z8 : List Value := List.replicate 8 (valU 0)
theorem make8 (W : World) : (Instr.makeSlice 84 (.int .i64 8) (.int .i64 8)).run Tryz.prog W = .ok (.slice (some ⟨W.heap.size, 0, none⟩) 8 8) (W.alloc (.cells Z8.toArray 23)) := by
  obtain ⟨i0, hi, hz0, hz1, hz2⟩ := info_parts infoU64
  have h := run_make (P := Tryz.prog) W 84 23 i0 (.int .u64 0) Tryz.underlying84 hi hz0 .i64 .i64 8 8 (by decide) (by decide) (by rw [hz2]; decide) (by decide)
  rw [hz1] at h
  rw [h, show madeCells (Value.int IntKind.u64 0).cells (Int.toNat 8 * 1) = Z8.toArray from by kernel_rfl]
  rfl
theorem sizeU64 : (Tryz.prog.info? 23).map (·.size) = some 1 := by kernel_rfl
theorem splice8 (f b : List Nat) (h : f.length + b.length < 8) : splice (splice Z8 0 (f.map valU)) (8 - b.length) (b.map valU) = (f ++ List.replicate (8 - f.length - b.length) 0 ++ b).map valU := by
  have e1 : splice Z8 0 (f.map valU) = f.map valU ++ List.replicate (8 - f.length) (valU 0) := by
    unfold splice Z8
    rw [List.take_zero, List.nil_append, List.length_map, Nat.zero_add, List.drop_replicate]
  rw [e1]
  unfold splice
  rw [List.drop_of_length_le (by simp; omega), List.append_nil, List.take_append, List.take_of_length_le (by simp; omega), List.take_replicate, List.map_append, List.map_append, List.map_replicate, List.length_map]
  congr 4
  omega
theorem src1 {w2 W : World} {lo : Nat} {f : List Nat} {p : Option Addr} {c : Nat} {fv : List Value} (hfv : fv = f.map valU)
    (hp : (f = [] ∧ p = none ∧ c = 0) ∨ ∃ g, p = some ⟨g, 0, none⟩ ∧ lo ≤ g ∧ g < w2.heap.size ∧ f.length ≤ c ∧ RowU w2 g f) (hW : Below w2.heap.size w2 W) (x : Option Addr) :
    0 < fv.length → x = x ∧ ∃ ad, p = some ad ∧ ∀ (j : Nat) (v : Value), fv[j]? = some v → W.cell? (ad.add j) = some v := by
  intro hpos
  rcases hp with ⟨rfl, _, _⟩ | ⟨g, rfl, _, g2, _, hr⟩
  · rw [hfv] at hpos; cases hpos
  · refine ⟨rfl, _, rfl, fun j v hj => ?_⟩
    rw [hfv, List.getElem?_map] at hj
    cases hx : f[j]? with
    | none => rw [hx] at hj; cases hj
    | some x =>
      rw [hx] at hj
      cases hj
      rw [Lib.add_plain, Nat.zero_add, olds hW g j g2]
      exact hr j x hx
theorem rowU_block {w : World} {g : Nat} {l : List Nat} (h : w.heap[g]? = some (.cells (l.map valU).toArray 23 (0, 0))) : RowU w g l := fun j x hj => by
  rw [Joins.cell_of_block h j]
  simp [hj, valU]
theorem copyU {w2 W w0 : World} {lo g off dl dc c B : Nat} {p : Option Addr} {f : List Nat} {cur : List Value}
    (hp : (f = [] ∧ p = none ∧ c = 0) ∨ ∃ g, p = some ⟨g, 0, none⟩ ∧ lo ≤ g ∧ g < w2.heap.size ∧ f.length ≤ c ∧ RowU w2 g f) (hW : Below w2.heap.size w2 W)
    (hg : W.heap[g]? = some (.cells cur.toArray 23 (0, 0))) (hn : f.length ≤ dl) (hfit : off + f.length ≤ cur.length) (hb : Below B w0 W) (hB : B ≤ g) (dp : Option Addr) (hd : 0 < f.length → dp = some ⟨g, off, none⟩) :
    ∃ W', (Builtin.copy_ #[84, 84] 3 #[.slice dp dl dc, .slice p f.length c]).run Tryz.prog W = .ok (goInt f.length) W' ∧ W'.heap[g]? = some (.cells (splice cur off (f.map valU)).toArray 23 (0, 0)) ∧ Below B w0 W' := by
  by_cases h0 : f = []
  · subst h0
    refine ⟨W, run_copy_none W 84 84 3 23 dp p dl dc 0 c Tryz.underlying84 sizeU64 (by simp), ?_, hb⟩
    rw [hg]; simp [splice]
  · have hl : 0 < f.length := List.length_pos_iff.2 h0
    obtain ⟨_, ad, rfl, hsrc⟩ := src1 (fv := f.map valU) rfl hp hW none (by simpa using hl)
    rw [hd hl]
    have hr := run_copy_row (P := Tryz.prog) W 84 84 3 23 g off dl dc ad f.length c cur.toArray 23 (f.map valU) Tryz.underlying84 sizeU64 hg (by rw [List.length_map]; exact (Nat.min_eq_left hn).symm) hsrc (by simpa using hfit) (fun v hv => by obtain ⟨x, _, rfl⟩ := List.mem_map.1 hv; rfl)
    rw [List.length_map] at hr
    refine ⟨_, hr, ?_, below_setRow hb hB _⟩
    rw [setRow_heap W g _ _ _ _ hg]
    simp [splice]
set_option maxHeartbeats 4000000 in
set_option maxRecDepth 100000 in
theorem six_x (s : ByteArray) (w : World) (hg : Gl w) (hs : s.size < 4294967281) :
    Calls Tryz.prog 58 #[.string s] w fun e w' => e = .returned (sixR (sixV s.data.toList)) ∧ Below w.heap.size w w' := by
  have hcl := cut_len s.data.toList [58, 58]
  rw [ba_len] at hcl
  have HC := Lib.hid hcl
  have HS := Lib.hid hs
  obtain ⟨W0, hW0⟩ : ∃ W0, W0 = w.alloc (.cells #[.int .u64 0, .int .u64 0] 26) := ⟨_, rfl⟩
  have HG : Hid (Gl W0) := hW0 ▸ hg.alloc _
  have HZ : Hid (Zq W0 w.heap.size) := hW0 ▸ zq_new w
  have B0 : Below w.heap.size w W0 := hW0 ▸ (Below.refl _ _).alloc (Nat.le_refl _) _
  clear hcl hs hg
  cases hm : (Lib.cut s.data.toList [58, 58]).2.2 with
  | false =>
    have HM := Lib.hid hm
    have hv : sixV s.data.toList = match groupsV true 8 [] s.data.toList with
        | none => none
        | some l => if l.length = 8 then some (joinV l) else none := by unfold sixV; rw [if_pos hm]; cases groupsV true 8 [] s.data.toList <;> rfl
    have HV := Lib.hid hv
    clear hm hv
    go_enter Tryz.func58, Tryz.ntmps58
    go_wp2_with fail
    rw [← hW0]
    refine (cut2_is s _ HG.out HS.out _ HM.out).mono ?_
    rintro e w1 ⟨rfl, hb1⟩
    go_wp2_with fail
    refine (groups_x s true w1 (HG.out.below hb1) HS.out).mono ?_
    rintro e w2 ⟨hb2, hr⟩
    have Z2 := (HZ.out.below hb1).below hb2
    have B2 := below_next (below_next B0 hb1) hb2
    cases hgv : groupsV true 8 [] s.data.toList with
    | none =>
      rw [hgv] at hr
      subst hr
      have HF : Hid (sixV s.data.toList = none) := by have := HV.out; rw [hgv] at this; exact this
      clear hgv HV
      obtain ⟨c0, c1, cf, _⟩ := Z2
      go_wp2
      exact bodyPost_ret (v := .tuple #[.agg #[.int .u64 0, .int .u64 0], .bool false]) (by simp [results, Tryz.results58, go_sem, c0, c1]) rfl ⟨by rw [HF.out]; rfl, bset2 B2 (Nat.le_refl _)⟩
    | some l =>
      rw [hgv] at hr
      obtain ⟨g, c, rfl, hg1, hg2, hg3, hrow⟩ := hr
      have hl16 := (groupsV_lt 8 [] _ l (by simp) hgv).1
      have HV' := HV.out
      rw [hgv] at HV'
      by_cases h8 : l.length = 8
      · have HF : Hid (sixV s.data.toList = some (joinV l)) := by rw [HV']; exact if_pos h8
        have HR := Lib.hid hrow
        have HL := Lib.hid hl16
        have H8 := Lib.hid h8
        rw [h8]
        clear hgv HV HV' hrow hl16 h8 hg3
        go_wp2_with fail
        refine (join_x g c l _ hg2 H8.out HL.out HR.out).mono ?_
        rintro e w3 ⟨rfl, hb3⟩
        obtain ⟨c0, c1, cf, _⟩ := Z2.below hb3
        go_wp2
        exact bodyPost_ret (v := .tuple #[.agg #[.int .u64 (hiQ (joinV l)), .int .u64 (loQ (joinV l))], .bool true]) (by simp [results, Tryz.results58, go_sem, c0, c1]) rfl ⟨by rw [HF.out]; rfl, bset2 (below_next B2 hb3) (Nat.le_refl _)⟩
      · have HF : Hid (sixV s.data.toList = none) := by rw [HV']; exact if_neg h8
        have h8' : ((l.length : Int) != 8) = true := by rw [bne_iff_ne]; omega
        clear hgv HV HV' hrow hl16 h8 hg3
        obtain ⟨c0, c1, cf, _⟩ := Z2
        go_wp2
        exact bodyPost_ret (v := .tuple #[.agg #[.int .u64 0, .int .u64 0], .bool false]) (by simp [results, Tryz.results58, go_sem, c0, c1]) rfl ⟨by rw [HF.out]; rfl, bset2 B2 (Nat.le_refl _)⟩
  | true =>
    have HM := Lib.hid hm
    have hv : sixV s.data.toList = match sideV false (Lib.cut s.data.toList [58, 58]).1, sideV true (Lib.cut s.data.toList [58, 58]).2.1 with
        | some f, some b => if 8 ≤ f.length + b.length then none else some (joinV (f ++ List.replicate (8 - f.length - b.length) 0 ++ b))
        | _, _ => none := by unfold sixV; rw [if_neg (by simp [hm])]; cases sideV false (Lib.cut s.data.toList [58, 58]).1 <;> cases sideV true (Lib.cut s.data.toList [58, 58]).2.1 <;> rfl
    have HV := Lib.hid hv
    clear hm hv
    go_enter Tryz.func58, Tryz.ntmps58
    go_wp2_with fail
    rw [← hW0]
    clear hW0
    refine (cut2_is s _ HG.out HS.out _ HM.out).mono ?_
    rintro e w1 ⟨rfl, hb1⟩
    have G1 := HG.out.below hb1
    have Z1 := HZ.out.below hb1
    have B1 := below_next B0 hb1
    clear HG HZ B0 HM
    go_wp2_with fail
    refine (side_x ⟨(Lib.cut s.data.toList [58, 58]).1.toArray⟩ false w1 G1 (by rw [ba_size]; have := HC.out; have := HS.out; omega)).mono ?_
    rintro e w2 ⟨hb2, hr⟩
    rw [ba_list] at hr
    have G2 := G1.below hb2
    have Z2 := Z1.below hb2
    have B2 := below_next B1 hb2
    clear Z1 B1 G1
    cases hf : sideV false (Lib.cut s.data.toList [58, 58]).1 with
    | none =>
      rw [hf] at hr
      subst hr
      have HF : Hid (sixV s.data.toList = none) := by have := HV.out; rw [hf] at this; exact this
      clear hf HV
      go_wp2_with fail
      refine (side_x ⟨(Lib.cut s.data.toList [58, 58]).2.1.toArray⟩ true w2 G2 (by rw [ba_size]; have := HC.out; have := HS.out; omega)).mono ?_
      rintro e w3 ⟨hb3, hr⟩
      rw [ba_list] at hr
      have hr' : ∃ p n c b, e = .returned (.tuple #[.slice p n c, .bool b]) := by
        cases hh : sideV true (Lib.cut s.data.toList [58, 58]).2.1 with
        | none => rw [hh] at hr; exact ⟨_, _, _, _, hr⟩
        | some l => rw [hh] at hr; obtain ⟨p, c, h, _⟩ := hr; exact ⟨_, _, _, _, h⟩
      obtain ⟨p, n, c, b, rfl⟩ := hr'
      clear hr
      obtain ⟨c0, c1, cf, _⟩ := Z2.below hb3
      go_wp2
      exact bodyPost_ret (v := .tuple #[.agg #[.int .u64 0, .int .u64 0], .bool false]) (by simp [results, Tryz.results58, go_sem, c0, c1]) rfl ⟨by rw [HF.out]; rfl, bset2 (below_next B2 hb3) (Nat.le_refl _)⟩
    | some f =>
      rw [hf] at hr
      obtain ⟨p, c, rfl, hp⟩ := hr
      have hf16 := sideV_lt hf
      have HV' := HV.out
      rw [hf] at HV'
      clear HV
      have HP := Lib.hid hp
      clear hp
      go_wp2_with fail
      refine (side_x ⟨(Lib.cut s.data.toList [58, 58]).2.1.toArray⟩ true w2 G2 (by rw [ba_size]; have := HC.out; have := HS.out; omega)).mono ?_
      rintro e w3 ⟨hb3, hr⟩
      rw [ba_list] at hr
      have Z3 := Z2.below hb3
      have B3 := below_next B2 hb3
      clear G2 Z2 hf
      cases hh : sideV true (Lib.cut s.data.toList [58, 58]).2.1 with
      | none =>
        rw [hh] at hr
        subst hr
        have HF : Hid (sixV s.data.toList = none) := by rw [hh] at HV'; exact HV'
        clear hh HV' hf16
        obtain ⟨c0, c1, cf, _⟩ := Z3
        go_wp2
        exact bodyPost_ret (v := .tuple #[.agg #[.int .u64 0, .int .u64 0], .bool false]) (by simp [results, Tryz.results58, go_sem, c0, c1]) rfl ⟨by rw [HF.out]; rfl, bset2 B3 (Nat.le_refl _)⟩
      | some b =>
        rw [hh] at hr HV'
        obtain ⟨q, d, rfl, hq⟩ := hr
        have hb16 := sideV_lt hh
        by_cases h8 : 8 ≤ f.length + b.length
        · have HF : Hid (sixV s.data.toList = none) := by rw [HV']; exact if_pos h8
          have h1 : (f.length : Int) ≤ 9 := by omega
          have h2 : (b.length : Int) ≤ 9 := by omega
          have h3 : (8 : Int) ≤ (f.length : Int) + b.length := by omega
          clear hh HV' hf16 hb16 h8 hq
          obtain ⟨c0, c1, cf, _⟩ := Z3
          go_wp2
          exact bodyPost_ret (v := .tuple #[.agg #[.int .u64 0, .int .u64 0], .bool false]) (by simp [results, Tryz.results58, go_sem, c0, c1]) rfl ⟨by rw [HF.out]; rfl, bset2 B3 (Nat.le_refl _)⟩
        · have HF : Hid (sixV s.data.toList = some (joinV (f ++ List.replicate (8 - f.length - b.length) 0 ++ b))) := by rw [HV']; exact if_neg h8
          have HL : Hid ((∀ x ∈ f, x < 65536) ∧ (∀ x ∈ b, x < 65536) ∧ f.length + b.length < 8) := ⟨hf16.1, hb16.1, by omega⟩
          have h1 : (f.length : Int) ≤ 9 := by omega
          have h2 : (b.length : Int) ≤ 9 := by omega
          have h3 : ¬ (8 : Int) ≤ (f.length : Int) + b.length := by omega
          have HQ := Lib.hid hq
          clear hh HV' hf16 hb16 h8 hq
          have hmk := make8
          have hz := B3.size
          obtain ⟨w4, hr4, hh4, hb4⟩ := copyU (off := 0) (dl := 8) (dc := 8) (cur := Z8) (B := w3.heap.size) (w0 := w3) HP.out (ball hb3) (heap_alloc_new w3 (.cells Z8.toArray 23)) (by have := HL.out.2.2; omega) (by show 0 + f.length ≤ 8; have := HL.out.2.2; omega) ((Below.refl _ _).alloc (Nat.le_refl _) _) (Nat.le_refl _) (some ⟨w3.heap.size, 0, none⟩) (fun _ => rfl)
          have HH4 := Lib.hid hh4
          clear hh4
          have hsp : (splice Z8 0 (f.map valU)).length = 8 := length_splice Z8 0 _ (by rw [List.length_map]; show 0 + f.length ≤ 8; have := HL.out.2.2; omega)
          by_cases hb0 : b = []
          · subst hb0
            obtain ⟨w5, hr5, hh5, hb5⟩ := copyU (off := 8 - ([] : List Nat).length) (dl := 0) (dc := 0) (cur := splice Z8 0 (f.map valU)) (B := w3.heap.size) (w0 := w3) HQ.out hb4 HH4.out (by simp) (by rw [hsp]; simp) hb4 (Nat.le_refl _) (some ⟨w3.heap.size, 0, none⟩) (fun h => by simp at h)
            replace hr5 : (Builtin.copy_ #[84, 84] 3 #[.slice (some ⟨w3.heap.size, 0, none⟩) 0 0, .slice q 0 d]).run Tryz.prog w4 = .ok (goInt 0) w5 := hr5
            have hrow : RowU w5 w3.heap.size (f ++ List.replicate (8 - f.length - ([] : List Nat).length) 0 ++ ([] : List Nat)) := by
              rw [splice8 f ([] : List Nat) HL.out.2.2] at hh5
              exact rowU_block hh5
            have hlt5 : w3.heap.size < w5.heap.size := by
              by_cases hx : w3.heap.size < w5.heap.size
              · exact hx
              · rw [Array.getElem?_eq_none (by omega)] at hh5; cases hh5
            have HR := Lib.hid hrow
            have Z5 := Z3.below hb5
            have B5 := below_next B3 hb5
            clear hh5 hrow HP HQ HH4 hb4 Z3 B3 hb5
            go_wp2_with fail
            refine (join_x w3.heap.size 8 (f ++ List.replicate (8 - f.length - ([] : List Nat).length) 0 ++ ([] : List Nat)) w5 hlt5 (by have := HL.out.2.2; simp at this ⊢; try omega) (fun x hx => ?_) HR.out).mono ?_
            · simp at hx
              have h1 := HL.out.1 x
              have h2 := HL.out.2.1 x
              try simp at h2
              first
                | (rcases hx with hx | hx | hx; exact h1 hx; omega; exact h2 hx)
                | (rcases hx with hx | hx; exact h1 hx; omega)
            rintro e w6 ⟨rfl, hb6⟩
            obtain ⟨c0, c1, cf, _⟩ := Z5.below hb6
            go_wp2
            exact bodyPost_ret (v := .tuple #[.agg #[.int .u64 (hiQ (joinV (f ++ List.replicate (8 - f.length - ([] : List Nat).length) 0 ++ ([] : List Nat)))), .int .u64 (loQ (joinV (f ++ List.replicate (8 - f.length - ([] : List Nat).length) 0 ++ ([] : List Nat))))], .bool true]) (by simp [results, Tryz.results58, go_sem, c0, c1]) rfl ⟨by rw [HF.out]; rfl, bset2 (below_next B5 hb6) (Nat.le_refl _)⟩
          · have hbl : 0 < b.length := List.length_pos_iff.2 hb0
            obtain ⟨w5, hr5, hh5, hb5⟩ := copyU (off := 8 - b.length) (dl := 8 - (8 - b.length)) (dc := 8 - (8 - b.length)) (cur := splice Z8 0 (f.map valU)) (B := w3.heap.size) (w0 := w3) HQ.out hb4 HH4.out (by omega) (by rw [hsp]; omega) hb4 (Nat.le_refl _) (some ⟨w3.heap.size, 8 - b.length, none⟩) (fun _ => rfl)
            have hrow : RowU w5 w3.heap.size (f ++ List.replicate (8 - f.length - b.length) 0 ++ b) := by
              rw [splice8 f b HL.out.2.2] at hh5
              exact rowU_block hh5
            have hlt5 : w3.heap.size < w5.heap.size := by
              by_cases hx : w3.heap.size < w5.heap.size
              · exact hx
              · rw [Array.getElem?_eq_none (by omega)] at hh5; cases hh5
            have HR := Lib.hid hrow
            have Z5 := Z3.below hb5
            have B5 := below_next B3 hb5
            clear hh5 hrow HP HQ HH4 hb4 Z3 B3 hb5
            go_wp2_with fail
            refine (join_x w3.heap.size 8 (f ++ List.replicate (8 - f.length - b.length) 0 ++ b) w5 hlt5 (by have := HL.out.2.2; simp at this ⊢; try omega) (fun x hx => ?_) HR.out).mono ?_
            · simp at hx
              have h1 := HL.out.1 x
              have h2 := HL.out.2.1 x
              try simp at h2
              first
                | (rcases hx with hx | hx | hx; exact h1 hx; omega; exact h2 hx)
                | (rcases hx with hx | hx; exact h1 hx; omega)
            rintro e w6 ⟨rfl, hb6⟩
            obtain ⟨c0, c1, cf, _⟩ := Z5.below hb6
            go_wp2
            exact bodyPost_ret (v := .tuple #[.agg #[.int .u64 (hiQ (joinV (f ++ List.replicate (8 - f.length - b.length) 0 ++ b))), .int .u64 (loQ (joinV (f ++ List.replicate (8 - f.length - b.length) 0 ++ b)))], .bool true]) (by simp [results, Tryz.results58, go_sem, c0, c1]) rfl ⟨by rw [HF.out]; rfl, bset2 (below_next B5 hb6) (Nat.le_refl _)⟩
end Go.Proofs.YtmnemjhkmllniaaGreatDoor
