/- addr.parseSix: eight groups, or fewer about a double colon. -/
import Derived.Laws.CopyOwn
import Derived.Test.YtkmbfnjmgimlhaaGreatDoorzPj
namespace Go.Proofs.YtkmbfnjmgimlhaaGreatDoor
open Go.ChangeShapes Go.WideShapes Go.RowKit Go.Sort

def sixR (r : Option Nat) : Value := match r with
  | some n => .tuple #[.agg #[.int .u64 (hiQ n), .int .u64 (loQ n)], .bool true]
  | none => .tuple #[.agg #[.int .u64 0, .int .u64 0], .bool false]
/-- A block of two noughts, free to be written. -/
structure Zq (w : World) (b : Nat) : Prop where
  c0 : w.cell? ⟨b, 0, none⟩ = some (.int .u64 0)
  c1 : w.cell? ⟨b, 1, none⟩ = some (.int .u64 0)
  fr : ∀ o, w.frozen? ⟨b, o, none⟩ = false
  lt : b < w.heap.size
theorem Zq.below {w w' : World} {b : Nat} (h : Zq w b) (hb : Below w.heap.size w w') : Zq w' b := by
  obtain ⟨k, f, l⟩ := keepf hb b h.lt
  exact ⟨(k 0).trans h.c0, (k 1).trans h.c1, fun o => (f o).trans (h.fr o), l⟩
theorem zq_new (w : World) : Zq (w.alloc (.cells #[.int .u64 0, .int .u64 0] 26)) w.heap.size :=
  ⟨by simp [go_sem], by simp [go_sem], fun o => by simp [go_sem], by simp⟩
theorem cut2_is (s : ByteArray) (w : World) (hg : Gl w) (hs : s.size < 4294967281) (b : Bool) (h : (Lib.cut s.data.toList [58, 58]).2.2 = b) :
    Calls Tryz.prog 59 #[.string s, .string ⟨#[58, 58]⟩] w fun e w' => e = .returned (.tuple #[.string ⟨(Lib.cut s.data.toList [58, 58]).1.toArray⟩, .string ⟨(Lib.cut s.data.toList [58, 58]).2.1.toArray⟩, .bool b]) ∧ Below w.heap.size w w' := h ▸ cut2_x s w hg hs
/-- Eight noughts. -/
def Z8 : List Value := List.replicate 8 (valU 0)
theorem make8 (W : World) : (Instr.makeSlice 105 (.int .i64 8) (.int .i64 8)).run Tryz.prog W = .ok (.slice (some ⟨W.heap.size, 0, none⟩) 8 8) (W.alloc (.cells Z8.toArray 23)) := by
  obtain ⟨i0, hi, hz0, hz1, hz2⟩ := info_parts infoU64
  have h := run_make (P := Tryz.prog) W 105 23 i0 (.int .u64 0) Tryz.underlying105 hi hz0 .i64 .i64 8 8 (by decide) (by decide) (by rw [hz2]; decide) (by decide)
  rw [hz1] at h
  rw [h, show madeCells (Value.int IntKind.u64 0).cells (Int.toNat 8 * 1) = Z8.toArray from by kernel_rfl]
  rfl
theorem sizeU64 : (Tryz.prog.info? 23).map (·.size) = some 1 := by kernel_rfl
theorem splice8 (f b : List Nat) (h : f.length + b.length < 8) : splice (splice Z8 0 (f.map valU)) (8 - b.length) (b.map valU) = (f ++ List.replicate (8 - f.length - b.length) 0 ++ b).map valU := by
  have e1 : splice Z8 0 (f.map valU) = f.map valU ++ List.replicate (8 - f.length) (valU 0) := by
    unfold splice Z8
    rw [List.take_zero, List.nil_append, List.length_map, Nat.zero_add, List.drop_replicate]
  rw [e1]
  unfold splice
  rw [List.drop_of_length_le (by simp; omega), List.append_nil, List.take_append, List.take_of_length_le (by simp; omega), List.take_replicate, List.map_append, List.map_append, List.map_replicate, List.length_map]
  congr 4
  omega
theorem src1 {w2 W : World} {lo : Nat} {f : List Nat} {p : Option Addr} {c : Nat} {fv : List Value} (hfv : fv = f.map valU)
    (hp : (f = [] ∧ p = none ∧ c = 0) ∨ ∃ g, p = some ⟨g, 0, none⟩ ∧ lo ≤ g ∧ g < w2.heap.size ∧ f.length ≤ c ∧ RowU w2 g f) (hW : Below w2.heap.size w2 W) (x : Option Addr) :
    0 < fv.length → x = x ∧ ∃ ad, p = some ad ∧ ∀ (j : Nat) (v : Value), fv[j]? = some v → W.cell? (ad.add j) = some v := by
  intro hpos
  rcases hp with ⟨rfl, _, _⟩ | ⟨g, rfl, _, g2, _, hr⟩
  · rw [hfv] at hpos; cases hpos
  · refine ⟨rfl, _, rfl, fun j v hj => ?_⟩
    rw [hfv, List.getElem?_map] at hj
    cases hx : f[j]? with
    | none => rw [hx] at hj; cases hj
    | some x =>
      rw [hx] at hj
      cases hj
      rw [Lib.add_plain, Nat.zero_add, olds hW g j g2]
      exact hr j x hx
theorem rowU_block {w : World} {g : Nat} {l : List Nat} (h : w.heap[g]? = some (.cells (l.map valU).toArray 23 (0, 0))) : RowU w g l := fun j x hj => by
  rw [Joins.cell_of_block h j]
  simp [hj, valU]
theorem copyU {w2 W w0 : World} {lo g off dl dc c B : Nat} {p : Option Addr} {f : List Nat} {cur : List Value}
    (hp : (f = [] ∧ p = none ∧ c = 0) ∨ ∃ g, p = some ⟨g, 0, none⟩ ∧ lo ≤ g ∧ g < w2.heap.size ∧ f.length ≤ c ∧ RowU w2 g f) (hW : Below w2.heap.size w2 W)
    (hg : W.heap[g]? = some (.cells cur.toArray 23 (0, 0))) (hn : f.length ≤ dl) (hfit : off + f.length ≤ cur.length) (hb : Below B w0 W) (hB : B ≤ g) (dp : Option Addr) (hd : 0 < f.length → dp = some ⟨g, off, none⟩) :
    ∃ W', (Builtin.copy_ #[105, 105] 3 #[.slice dp dl dc, .slice p f.length c]).run Tryz.prog W = .ok (goInt f.length) W' ∧ W'.heap[g]? = some (.cells (splice cur off (f.map valU)).toArray 23 (0, 0)) ∧ Below B w0 W' := by
  by_cases h0 : f = []
  · subst h0
    refine ⟨W, run_copy_none W 105 105 3 23 dp p dl dc 0 c Tryz.underlying105 sizeU64 (by simp), ?_, hb⟩
    rw [hg]; simp [splice]
  · have hl : 0 < f.length := List.length_pos_iff.2 h0
    obtain ⟨_, ad, rfl, hsrc⟩ := src1 (fv := f.map valU) rfl hp hW none (by simpa using hl)
    rw [hd hl]
    have hr := run_copy_row (P := Tryz.prog) W 105 105 3 23 g off dl dc ad f.length c cur.toArray 23 (f.map valU) Tryz.underlying105 sizeU64 hg (by rw [List.length_map]; exact (Nat.min_eq_left hn).symm) hsrc (by simpa using hfit) (fun v hv => by obtain ⟨x, _, rfl⟩ := List.mem_map.1 hv; rfl)
    rw [List.length_map] at hr
    refine ⟨_, hr, ?_, below_setRow hb hB _⟩
    rw [setRow_heap W g _ _ _ _ hg]
    simp [splice]
set_option maxHeartbeats 4000000 in
set_option maxRecDepth 100000 in
theorem six_x (s : ByteArray) (w : World) (hg : Gl w) (hs : s.size < 4294967281) :
    Calls Tryz.prog 86 #[.string s] w fun e w' => e = .returned (sixR (sixV s.data.toList)) ∧ Below w.heap.size w w' := by
  have hcl := cut_len s.data.toList [58, 58]
  rw [ba_len] at hcl
  have HC := Lib.hid hcl
  have HS := Lib.hid hs
  obtain ⟨W0, hW0⟩ : ∃ W0, W0 = w.alloc (.cells #[.int .u64 0, .int .u64 0] 26) := ⟨_, rfl⟩
  have HG : Hid (Gl W0) := hW0 ▸ hg.alloc _
  have HZ : Hid (Zq W0 w.heap.size) := hW0 ▸ zq_new w
  have B0 : Below w.heap.size w W0 := hW0 ▸ (Below.refl _ _).alloc (Nat.le_refl _) _
  clear hcl hs hg
  cases hm : (Lib.cut s.data.toList [58, 58]).2.2 with
  | false =>
    have HM := Lib.hid hm
    have hv : sixV s.data.toList = match groupsV true 8 [] s.data.toList with
        | none => none
        | some l => if l.length = 8 then some (joinV l) else none := by unfold sixV; rw [if_pos hm]; cases groupsV true 8 [] s.data.toList <;> rfl
    have HV := Lib.hid hv
    clear hm hv
    go_enter Tryz.func86, Tryz.ntmps86
    go_wp2_with fail
    rw [← hW0]
    refine (cut2_is s _ HG.out HS.out _ HM.out).mono ?_
    rintro e w1 ⟨rfl, hb1⟩
    go_wp2_with fail
    refine (groups_x s true w1 (HG.out.below hb1) HS.out).mono ?_
    rintro e w2 ⟨hb2, hr⟩
    have Z2 := (HZ.out.below hb1).below hb2
    have B2 := below_next (below_next B0 hb1) hb2
    cases hgv : groupsV true 8 [] s.data.toList with
    | none =>
      rw [hgv] at hr
      subst hr
      have HF : Hid (sixV s.data.toList = none) := by have := HV.out; rw [hgv] at this; exact this
      clear hgv HV
      obtain ⟨c0, c1, cf, _⟩ := Z2
      go_wp2
      exact bodyPost_ret (v := .tuple #[.agg #[.int .u64 0, .int .u64 0], .bool false]) (by simp [results, Tryz.results86, go_sem, c0, c1]) rfl ⟨by rw [HF.out]; rfl, bset2 B2 (Nat.le_refl _)⟩
    | some l =>
      rw [hgv] at hr
      obtain ⟨g, c, rfl, hg1, hg2, hg3, hrow⟩ := hr
      have hl16 := (groupsV_lt 8 [] _ l (by simp) hgv).1
      have HV' := HV.out
      rw [hgv] at HV'
      by_cases h8 : l.length = 8
      · have HF : Hid (sixV s.data.toList = some (joinV l)) := by rw [HV']; exact if_pos h8
        have HR := Lib.hid hrow
        have HL := Lib.hid hl16
        have H8 := Lib.hid h8
        rw [h8]
        clear hgv HV HV' hrow hl16 h8 hg3
        go_wp2_with fail
        refine (join_x g c l _ hg2 H8.out HL.out HR.out).mono ?_
        rintro e w3 ⟨rfl, hb3⟩
        obtain ⟨c0, c1, cf, _⟩ := Z2.below hb3
        go_wp2
        exact bodyPost_ret (v := .tuple #[.agg #[.int .u64 (hiQ (joinV l)), .int .u64 (loQ (joinV l))], .bool true]) (by simp [results, Tryz.results86, go_sem, c0, c1]) rfl ⟨by rw [HF.out]; rfl, bset2 (below_next B2 hb3) (Nat.le_refl _)⟩
      · have HF : Hid (sixV s.data.toList = none) := by rw [HV']; exact if_neg h8
        have h8' : ((l.length : Int) != 8) = true := by rw [bne_iff_ne]; omega
        clear hgv HV HV' hrow hl16 h8 hg3
        obtain ⟨c0, c1, cf, _⟩ := Z2
        go_wp2
        exact bodyPost_ret (v := .tuple #[.agg #[.int .u64 0, .int .u64 0], .bool false]) (by simp [results, Tryz.results86, go_sem, c0, c1]) rfl ⟨by rw [HF.out]; rfl, bset2 B2 (Nat.le_refl _)⟩
  | true =>
    have HM := Lib.hid hm
    have hv : sixV s.data.toList = match sideV false (Lib.cut s.data.toList [58, 58]).1, sideV true (Lib.cut s.data.toList [58, 58]).2.1 with
        | some f, some b => if 8 ≤ f.length + b.length then none else some (joinV (f ++ List.replicate (8 - f.length - b.length) 0 ++ b))
        | _, _ => none := by unfold sixV; rw [if_neg (by simp [hm])]; cases sideV false (Lib.cut s.data.toList [58, 58]).1 <;> cases sideV true (Lib.cut s.data.toList [58, 58]).2.1 <;> rfl
    have HV := Lib.hid hv
    clear hm hv
    go_enter Tryz.func86, Tryz.ntmps86
    go_wp2_with fail
    rw [← hW0]
    clear hW0
    refine (cut2_is s _ HG.out HS.out _ HM.out).mono ?_
    rintro e w1 ⟨rfl, hb1⟩
    have G1 := HG.out.below hb1
    have Z1 := HZ.out.below hb1
    have B1 := below_next B0 hb1
    clear HG HZ B0 HM
    go_wp2_with fail
    refine (side_x ⟨(Lib.cut s.data.toList [58, 58]).1.toArray⟩ false w1 G1 (by rw [ba_size]; have := HC.out; have := HS.out; omega)).mono ?_
    rintro e w2 ⟨hb2, hr⟩
    rw [ba_list] at hr
    have G2 := G1.below hb2
    have Z2 := Z1.below hb2
    have B2 := below_next B1 hb2
    clear Z1 B1 G1
    cases hf : sideV false (Lib.cut s.data.toList [58, 58]).1 with
    | none =>
      rw [hf] at hr
      subst hr
      have HF : Hid (sixV s.data.toList = none) := by have := HV.out; rw [hf] at this; exact this
      clear hf HV
      go_wp2_with fail
      refine (side_x ⟨(Lib.cut s.data.toList [58, 58]).2.1.toArray⟩ true w2 G2 (by rw [ba_size]; have := HC.out; have := HS.out; omega)).mono ?_
      rintro e w3 ⟨hb3, hr⟩
      rw [ba_list] at hr
      have hr' : ∃ p n c b, e = .returned (.tuple #[.slice p n c, .bool b]) := by
        cases hh : sideV true (Lib.cut s.data.toList [58, 58]).2.1 with
        | none => rw [hh] at hr; exact ⟨_, _, _, _, hr⟩
        | some l => rw [hh] at hr; obtain ⟨p, c, h, _⟩ := hr; exact ⟨_, _, _, _, h⟩
      obtain ⟨p, n, c, b, rfl⟩ := hr'
      clear hr
      obtain ⟨c0, c1, cf, _⟩ := Z2.below hb3
      go_wp2
      exact bodyPost_ret (v := .tuple #[.agg #[.int .u64 0, .int .u64 0], .bool false]) (by simp [results, Tryz.results86, go_sem, c0, c1]) rfl ⟨by rw [HF.out]; rfl, bset2 (below_next B2 hb3) (Nat.le_refl _)⟩
    | some f =>
      rw [hf] at hr
      obtain ⟨p, c, rfl, hp⟩ := hr
      have hf16 := sideV_lt hf
      have HV' := HV.out
      rw [hf] at HV'
      clear HV
      have HP := Lib.hid hp
      clear hp
      go_wp2_with fail
      refine (side_x ⟨(Lib.cut s.data.toList [58, 58]).2.1.toArray⟩ true w2 G2 (by rw [ba_size]; have := HC.out; have := HS.out; omega)).mono ?_
      rintro e w3 ⟨hb3, hr⟩
      rw [ba_list] at hr
      have Z3 := Z2.below hb3
      have B3 := below_next B2 hb3
      clear G2 Z2 hf
      cases hh : sideV true (Lib.cut s.data.toList [58, 58]).2.1 with
      | none =>
        rw [hh] at hr
        subst hr
        have HF : Hid (sixV s.data.toList = none) := by rw [hh] at HV'; exact HV'
        clear hh HV' hf16
        obtain ⟨c0, c1, cf, _⟩ := Z3
        go_wp2
        exact bodyPost_ret (v := .tuple #[.agg #[.int .u64 0, .int .u64 0], .bool false]) (by simp [results, Tryz.results86, go_sem, c0, c1]) rfl ⟨by rw [HF.out]; rfl, bset2 B3 (Nat.le_refl _)⟩
      | some b =>
        rw [hh] at hr HV'
        obtain ⟨q, d, rfl, hq⟩ := hr
        have hb16 := sideV_lt hh
        by_cases h8 : 8 ≤ f.length + b.length
        · have HF : Hid (sixV s.data.toList = none) := by rw [HV']; exact if_pos h8
          have h1 : (f.length : Int) ≤ 9 := by omega
          have h2 : (b.length : Int) ≤ 9 := by omega
          have h3 : (8 : Int) ≤ (f.length : Int) + b.length := by omega
          clear hh HV' hf16 hb16 h8 hq
          obtain ⟨c0, c1, cf, _⟩ := Z3
          go_wp2
          exact bodyPost_ret (v := .tuple #[.agg #[.int .u64 0, .int .u64 0], .bool false]) (by simp [results, Tryz.results86, go_sem, c0, c1]) rfl ⟨by rw [HF.out]; rfl, bset2 B3 (Nat.le_refl _)⟩
        · have HF : Hid (sixV s.data.toList = some (joinV (f ++ List.replicate (8 - f.length - b.length) 0 ++ b))) := by rw [HV']; exact if_neg h8
          have HL : Hid ((∀ x ∈ f, x < 65536) ∧ (∀ x ∈ b, x < 65536) ∧ f.length + b.length < 8) := ⟨hf16.1, hb16.1, by omega⟩
          have h1 : (f.length : Int) ≤ 9 := by omega
          have h2 : (b.length : Int) ≤ 9 := by omega
          have h3 : ¬ (8 : Int) ≤ (f.length : Int) + b.length := by omega
          have HQ := Lib.hid hq
          clear hh HV' hf16 hb16 h8 hq
          have hmk := make8
          have hz := B3.size
          obtain ⟨w4, hr4, hh4, hb4⟩ := copyU (off := 0) (dl := 8) (dc := 8) (cur := Z8) (B := w3.heap.size) (w0 := w3) HP.out (ball hb3) (heap_alloc_new w3 (.cells Z8.toArray 23)) (by have := HL.out.2.2; omega) (by show 0 + f.length ≤ 8; have := HL.out.2.2; omega) ((Below.refl _ _).alloc (Nat.le_refl _) _) (Nat.le_refl _) (some ⟨w3.heap.size, 0, none⟩) (fun _ => rfl)
          have HH4 := Lib.hid hh4
          clear hh4
          have hsp : (splice Z8 0 (f.map valU)).length = 8 := length_splice Z8 0 _ (by rw [List.length_map]; show 0 + f.length ≤ 8; have := HL.out.2.2; omega)
          by_cases hb0 : b = []
          · subst hb0
            obtain ⟨w5, hr5, hh5, hb5⟩ := copyU (off := 8 - ([] : List Nat).length) (dl := 0) (dc := 0) (cur := splice Z8 0 (f.map valU)) (B := w3.heap.size) (w0 := w3) HQ.out hb4 HH4.out (by simp) (by rw [hsp]; simp) hb4 (Nat.le_refl _) (some ⟨w3.heap.size, 0, none⟩) (fun h => by simp at h)
            replace hr5 : (Builtin.copy_ #[105, 105] 3 #[.slice (some ⟨w3.heap.size, 0, none⟩) 0 0, .slice q 0 d]).run Tryz.prog w4 = .ok (goInt 0) w5 := hr5
            have hrow : RowU w5 w3.heap.size (f ++ List.replicate (8 - f.length - ([] : List Nat).length) 0 ++ ([] : List Nat)) := by
              rw [splice8 f ([] : List Nat) HL.out.2.2] at hh5
              exact rowU_block hh5
            have hlt5 : w3.heap.size < w5.heap.size := by
              by_cases hx : w3.heap.size < w5.heap.size
              · exact hx
              · rw [Array.getElem?_eq_none (by omega)] at hh5; cases hh5
            have HR := Lib.hid hrow
            have Z5 := Z3.below hb5
            have B5 := below_next B3 hb5
            clear hh5 hrow HP HQ HH4 hb4 Z3 B3 hb5
            go_wp2_with fail
            refine (join_x w3.heap.size 8 (f ++ List.replicate (8 - f.length - ([] : List Nat).length) 0 ++ ([] : List Nat)) w5 hlt5 (by have := HL.out.2.2; simp at this ⊢; try omega) (fun x hx => ?_) HR.out).mono ?_
            · simp at hx
              have h1 := HL.out.1 x
              have h2 := HL.out.2.1 x
              try simp at h2
              first
                | (rcases hx with hx | hx | hx; exact h1 hx; omega; exact h2 hx)
                | (rcases hx with hx | hx; exact h1 hx; omega)
            rintro e w6 ⟨rfl, hb6⟩
            obtain ⟨c0, c1, cf, _⟩ := Z5.below hb6
            go_wp2
            exact bodyPost_ret (v := .tuple #[.agg #[.int .u64 (hiQ (joinV (f ++ List.replicate (8 - f.length - ([] : List Nat).length) 0 ++ ([] : List Nat)))), .int .u64 (loQ (joinV (f ++ List.replicate (8 - f.length - ([] : List Nat).length) 0 ++ ([] : List Nat))))], .bool true]) (by simp [results, Tryz.results86, go_sem, c0, c1]) rfl ⟨by rw [HF.out]; rfl, bset2 (below_next B5 hb6) (Nat.le_refl _)⟩
          · have hbl : 0 < b.length := List.length_pos_iff.2 hb0
            obtain ⟨w5, hr5, hh5, hb5⟩ := copyU (off := 8 - b.length) (dl := 8 - (8 - b.length)) (dc := 8 - (8 - b.length)) (cur := splice Z8 0 (f.map valU)) (B := w3.heap.size) (w0 := w3) HQ.out hb4 HH4.out (by omega) (by rw [hsp]; omega) hb4 (Nat.le_refl _) (some ⟨w3.heap.size, 8 - b.length, none⟩) (fun _ => rfl)
            have hrow : RowU w5 w3.heap.size (f ++ List.replicate (8 - f.length - b.length) 0 ++ b) := by
              rw [splice8 f b HL.out.2.2] at hh5
              exact rowU_block hh5
            have hlt5 : w3.heap.size < w5.heap.size := by
              by_cases hx : w3.heap.size < w5.heap.size
              · exact hx
              · rw [Array.getElem?_eq_none (by omega)] at hh5; cases hh5
            have HR := Lib.hid hrow
            have Z5 := Z3.below hb5
            have B5 := below_next B3 hb5
            clear hh5 hrow HP HQ HH4 hb4 Z3 B3 hb5
            go_wp2_with fail
            refine (join_x w3.heap.size 8 (f ++ List.replicate (8 - f.length - b.length) 0 ++ b) w5 hlt5 (by have := HL.out.2.2; simp at this ⊢; try omega) (fun x hx => ?_) HR.out).mono ?_
            · simp at hx
              have h1 := HL.out.1 x
              have h2 := HL.out.2.1 x
              try simp at h2
              first
                | (rcases hx with hx | hx | hx; exact h1 hx; omega; exact h2 hx)
                | (rcases hx with hx | hx; exact h1 hx; omega)
            rintro e w6 ⟨rfl, hb6⟩
            obtain ⟨c0, c1, cf, _⟩ := Z5.below hb6
            go_wp2
            exact bodyPost_ret (v := .tuple #[.agg #[.int .u64 (hiQ (joinV (f ++ List.replicate (8 - f.length - b.length) 0 ++ b))), .int .u64 (loQ (joinV (f ++ List.replicate (8 - f.length - b.length) 0 ++ b)))], .bool true]) (by simp [results, Tryz.results86, go_sem, c0, c1]) rfl ⟨by rw [HF.out]; rfl, bset2 (below_next B5 hb6) (Nat.le_refl _)⟩
end Go.Proofs.YtkmbfnjmgimlhaaGreatDoor
