/- The checker's own reading of an address. -/
import Derived.BigRegion
import Derived.Laws.OwnMore
import Derived.Test.YtmnemjhkmllniaaGreatDoorzYp
import Derived.Test.YtmnemjhkmllniaaGreatDoorzPj
namespace Go.Proofs.YtmnemjhkmllniaaGreatDoor
open Go.ChangeShapes Go.WideShapes Go.RowKit Go.Sort

/-- A row of numbers that a slice holds: nothing at all, or a block. -/
def SrcU (w : World) (p : Option Addr) (c : Nat) (l : List Nat) : Prop := (l = [] ∧ p = none ∧ c = 0) ∨ ∃ g, p = some ⟨g, 0, none⟩ ∧ g < w.heap.size ∧ l ≠ [] ∧ l.length ≤ c ∧ RowU w g l
theorem SrcU.below {w w' : World} {p : Option Addr} {c : Nat} {l : List Nat} (h : SrcU w p c l) (hb : Below w.heap.size w w') : SrcU w' p c l := by
  rcases h with h | ⟨g, h1, h2, h3, h4, h5⟩
  · exact Or.inl h
  · exact Or.inr ⟨g, h1, Nat.lt_of_lt_of_le h2 hb.size, h3, h4, h5.below hb h2⟩
def GroupsS (w : World) (r : Option (List Nat)) (e : Ending) (w' : World) : Prop := Below w.heap.size w w' ∧ match r with
  | none => e = .returned (.tuple #[.slice none 0 0, .bool false])
  | some l => ∃ p c, e = .returned (.tuple #[.slice p l.length c, .bool true]) ∧ SrcU w' p c l
theorem groups_nil (b : Bool) (w : World) : Calls Tryz.prog 61 #[.string (baS []), .bool b] w fun e w' => e = .returned (.tuple #[.slice none 0 0, .bool true]) ∧ Below w.heap.size w w' := by
  have e0 : baS [] = ⟨#[]⟩ := rfl
  rw [e0]
  go_enter Tryz.func61, Tryz.ntmps61
  go_wp2
  go_ret2
  exact ⟨rfl, Below.refl _ _⟩
theorem rgroups_ne {l : Bs} {b : Bool} {g : List Nat} (hl : l ≠ []) (h : rgroups l b = some g) : g ≠ [] := by
  unfold rgroups at h
  rw [if_neg hl] at h
  have := partsG_len b _ _ g h
  have h2 := splitV_ne 58 l
  intro e
  rw [e] at this
  simp only [List.length_nil] at this
  exact h2 (List.length_eq_zero_iff.1 (by omega))
theorem groupsS_of (l : Bs) (b : Bool) (w : World) (h : Calls Tryz.prog 61 #[.string (baS l), .bool b] w fun e w' => GroupsE w (rgroups l b) e w') :
    Calls Tryz.prog 61 #[.string (baS l), .bool b] w fun e w' => GroupsS w (rgroups l b) e w' := by
  by_cases hl : l = []
  · subst hl
    refine (groups_nil b w).mono ?_
    rintro e w' ⟨rfl, hb⟩
    exact ⟨hb, none, 0, rfl, Or.inl ⟨rfl, rfl, rfl⟩⟩
  · refine h.mono ?_
    rintro e w' ⟨hb, hr⟩
    refine ⟨hb, ?_⟩
    cases hg : rgroups l b with
    | none => rw [hg] at hr; exact hr
    | some g =>
      rw [hg] at hr
      obtain ⟨p, c, rfl, hc, hrow⟩ := hr
      refine ⟨p, c, rfl, Or.inr ?_⟩
      have hne := rgroups_ne hl hg
      obtain ⟨x, hx⟩ : ∃ x, g[0]? = some x := by cases g with
        | nil => exact absurd rfl hne
        | cons a r => exact ⟨a, rfl⟩
      obtain ⟨gg, rfl, hlt, _⟩ := hrow 0 x hx
      refine ⟨gg, rfl, hlt, hne, hc, fun j y hj => ?_⟩
      obtain ⟨g2, e2, _, hcell⟩ := hrow j y hj
      injection e2 with e3
      injection e3 with e4
      subst e4
      exact hcell
theorem partG_le {b : Bool} {p : Bs} {g : List Nat} (h : partG b p = some g) : g.length ≤ 2 := by
  unfold partG at h
  split at h
  · cases h; simp
  · cases hg : groupV p with
    | none => rw [hg] at h; cases h
    | some x => rw [hg] at h; cases h; simp
theorem partsG_le (last : Bool) : ∀ (ps : List Bs) (all l : List Nat), partsG last ps all = some l → l.length ≤ all.length + 2 * ps.length
  | [], all, l, h => by simp [partsG] at h; subst h; simp
  | p :: r, all, l, h => by
    unfold partsG at h
    cases hp : partG (last && r.isEmpty) p with
    | none => rw [hp] at h; cases h
    | some g =>
      rw [hp] at h
      have := partsG_le last r _ l h
      have := partG_le hp
      simp at *
      omega
theorem rgroups_le {s : Bs} {b : Bool} {g : List Nat} (h : rgroups s b = some g) (hs : s.length ≤ 100000) : g.length ≤ 200002 := by
  unfold rgroups at h
  split at h
  · cases h; simp
  · have := partsG_le b _ _ g h
    have := splitV_count (z := 58) hs
    simp at *
    omega
theorem rgroups_lt {s : Bs} {ends : Bool} {l : List Nat} (h : rgroups s ends = some l) (hl : l.length ≤ 8) : ∀ x ∈ l, x < 65536 := by
  rcases rgroups_side s ends with ⟨l', h1, h2⟩ | ⟨h1, _⟩ | ⟨l', h1, _, h3⟩
  · rw [h] at h1; cases h1; exact (sideV_lt h2).1
  · rw [h] at h1; cases h1
  · rw [h] at h1; cases h1; omega
theorem rsix_neg {l : Bs} (h : Lib.index l [58, 58] < 0) : rsix l = match rgroups l true with
    | none => none
    | some g => if g.length = 8 then some (6, joinV g) else none := by
  have hc : Lib.cut l [58, 58] = (l, [], false) := by unfold Lib.cut; rw [if_neg (by omega)]
  unfold rsix
  rw [hc]
  simp only [if_true]
  cases rgroups l true <;> rfl
theorem rsix_pos {l : Bs} {k : Nat} (h : Lib.index l [58, 58] = k) : rsix l = match rgroups (l.take k) false, rgroups (l.drop (k + 2)) true with
    | some f, some b => six8 f b
    | _, _ => none := by
  have hc : Lib.cut l [58, 58] = (l.take k, l.drop (k + 2), true) := by unfold Lib.cut; rw [h, if_pos (by omega)]; rfl
  unfold rsix
  rw [hc]
  rfl
theorem src_news {w W : World} {g : Nat} {l : List Nat} (h : RowU w g l) (hg : g < w.heap.size) (hb : Below w.heap.size w W) : ∀ (j : Nat) (u : Value), (l.map valU)[j]? = some u → W.cell? ((⟨g, 0, none⟩ : Addr).add j) = some u := by
  intro j u hj
  rw [List.getElem?_map] at hj
  cases hx : l[j]? with
  | none => rw [hx] at hj; cases hj
  | some x =>
    rw [hx] at hj
    cases hj
    rw [Lib.add_plain, Nat.zero_add, olds hb g j hg]
    exact h j x hx
theorem valU_one (l : List Nat) : ∀ u ∈ l.map valU, u.oneCell' = true := fun u hu => by obtain ⟨x, _, rfl⟩ := List.mem_map.1 hu; rfl
theorem own_eight {w : World} {base c : Nat} {p : Option Addr} {l : List Nat} (h : w.ownsRow base 23 1 (.slice p l.length c) l.length (l.map valU)) (h8 : l.length = 8) : ∃ g, p = some ⟨g, 0, none⟩ ∧ 8 ≤ c ∧ g < w.heap.size ∧ RowU w g l := by
  have ho := own_row h
  obtain ⟨x, hx⟩ : ∃ x, l[0]? = some x := by cases l with
    | nil => cases h8
    | cons a r => exact ⟨a, rfl⟩
  obtain ⟨g, rfl, hlt, _⟩ := ho.2 0 x hx
  exact ⟨g, rfl, by omega, hlt, rowU_own h⟩
/-- Three cells of nought, free to be written. -/
structure Za (w : World) (b : Nat) : Prop where
  c0 : w.cell? ⟨b, 0, none⟩ = some (.int .i64 0)
  c1 : w.cell? ⟨b, 1, none⟩ = some (.int .u64 0)
  c2 : w.cell? ⟨b, 2, none⟩ = some (.int .u64 0)
  fr : ∀ o, w.frozen? ⟨b, o, none⟩ = false
  lt : b < w.heap.size
theorem Za.below {w w' : World} {b : Nat} (h : Za w b) (hb : Below w.heap.size w w') : Za w' b := by
  obtain ⟨k, f, l⟩ := keepf hb b h.lt
  exact ⟨(k 0).trans h.c0, (k 1).trans h.c1, (k 2).trans h.c2, fun o => (f o).trans (h.fr o), l⟩
theorem za_new (w : World) : Za (w.alloc (.cells #[.int .i64 0, .int .u64 0, .int .u64 0] 28)) w.heap.size :=
  ⟨by simp [go_sem], by simp [go_sem], by simp [go_sem], fun o => by simp [go_sem], by simp⟩
theorem ixU (g n c j : Nat) (hj : j < n) (V : World) : (Instr.indexAt 84 (.slice (some ⟨g, 0, none⟩) n c) (.int .i64 (j : Int))).run Tryz.prog V = .ok (.pointer (some ⟨g, j, none⟩)) V := by
  rw [run_indexAt_slice V 84 ⟨g, 0, none⟩ n c .i64 j (by kernel_rfl), if_pos ⟨by omega, by omega⟩]
  have e : (sizeOf (Tryz.prog.elem 84)).run Tryz.prog V = .ok 1 V := by kernel_rfl
  rw [e]
  simp [Lib.add_plain]
theorem fold_take {L : List Nat} {i x : Nat} (h : L[i]? = some x) : fold16 (L.take (i + 1)) = fold16 (L.take i) * 65536 + x := by rw [take_one L i x h, fold16_snoc]
set_option maxHeartbeats 16000000 in
set_option maxRecDepth 100000 in
theorem refParse_x (l : Bs) (w : World) (hl : l.length ≤ 100000) :
    Calls Tryz.prog 35 #[.string (baS l)] w fun e w' => e = .returned (parseR (rparse l)) ∧ Below w.heap.size w w' := by
  cases hf : rfour l with
  | some n => exact refParse_four l n w hl hf
  | none =>
    obtain ⟨i0, hi, hz0, hz1, hz2⟩ := info_parts infoU64
    have H4 := Lib.hid (fun w => fourE_x l w hl)
    have HJ := Lib.hid (fun w => joint_x l w (by omega))
    rw [hf] at H4
    rw [show rparse l = rsix l by unfold rparse; rw [hf]]
    have HL := Lib.hid hl
    obtain ⟨Q, hQ⟩ : ∃ Q, rsix l = Q := ⟨_, rfl⟩
    rw [hQ]
    have HQ := Lib.hid hQ
    obtain ⟨W0, hW0⟩ : ∃ W0, W0 = w.alloc (.cells #[.int .i64 0, .int .u64 0, .int .u64 0] 28) := ⟨_, rfl⟩
    have Z0 : Za W0 w.heap.size := hW0 ▸ za_new w
    have B0 : Below w.heap.size w W0 := hW0 ▸ (Below.refl _ _).alloc (Nat.le_refl _) _
    clear hf hl hQ
    go_enter Tryz.func35, Tryz.ntmps35
    go_wp2_with fail
    rw [← hW0]
    clear hW0
    refine (H4.out _).mono ?_
    rintro e W1 ⟨rfl, hb1⟩
    have Z1 := Z0.below hb1
    have B1 := below_next B0 hb1
    simp only [numR]
    clear Z0 B0 hb1 H4
    go_wp2_with fail
    refine (HJ.out _).mono ?_
    rintro e W1' ⟨rfl, rfl⟩
    obtain ⟨k, hk⟩ : ∃ k, Lib.index l [58, 58] = k := ⟨_, rfl⟩
    rw [hk]
    have HK := Lib.hid hk
    clear hk HJ
    go_upto_if 28 with fail
    go_cut [7] (fun v wx => ∃ (g c : Nat) (L : List Nat), v = .slice (some ⟨g, 0, none⟩) 8 c ∧ L.length = 8 ∧ 8 ≤ c ∧ g < wx.heap.size ∧ Hid (Q = some (6, joinV L) ∧ (∀ x ∈ L, x < 65536) ∧ RowU wx g L) ∧ Below W1'.heap.size W1' wx)
    case first =>
      by_cases hk0 : k < 0
      · have HR : Hid (Q = match rgroups l true with
            | none => none
            | some g => if g.length = 8 then some (6, joinV g) else none) := by
          show _ = _; rw [← HQ.out]; exact rsix_neg (by rw [HK.out]; exact hk0)
        have HGr := Lib.hid (fun w => groupsS_of l true w (groupsE_t l w HL.out))
        have HLt := Lib.hid (fun g (h : rgroups l true = some g) => rgroups_lt h)
        clear HQ HK
        go_wp2_with fail
        refine (HGr.out _).mono ?_
        rintro e w2 ⟨hb2, hr⟩
        have Z2 := Z1.below hb2
        have B2 := below_next B1 hb2
        cases hg : rgroups l true with
        | none =>
          rw [hg] at hr
          subst hr
          have HF : Hid (Q = none) := by have := HR.out; rw [hg] at this; exact this
          obtain ⟨c0, c1, c2, cf, cl⟩ := Z2
          clear hg HR HLt
          go_wp2
          exact bodyPost_ret (v := .tuple #[.agg #[.int .i64 0, .int .u64 0, .int .u64 0], .bool false]) (by simp [results, Tryz.results35, go_sem, *]) rfl ⟨by rw [HF.out]; rfl, aset3 B2 (Nat.le_refl _)⟩
        | some g =>
          rw [hg] at hr
          obtain ⟨p, c, rfl, hsrc⟩ := hr
          have hR := HR.out
          rw [hg] at hR
          by_cases h8 : g.length = 8
          · have HF : Hid (Q = some (6, joinV g)) := by show _ = _; rw [hR]; exact if_pos h8
            have hlt := HLt.out g hg (by omega)
            obtain ⟨gg, rfl, h1, h2, h3, h4⟩ := hsrc.resolve_left (fun h => by rw [h.1] at h8; cases h8)
            rw [h8]
            have HX := Lib.hid (And.intro HF.out (And.intro hlt h4))
            have H8 := Lib.hid h8
            clear hR HR hg HLt hlt h4 h2 HF
            rw [h8] at h3
            clear h8
            go_wp2_with fail
            go_meet
            exact ⟨gg, c, g, rfl, H8.out, h3, h1, HX, hb2⟩
          · have HF : Hid (Q = none) := by show _ = _; rw [hR]; exact if_neg h8
            have h8' : ((g.length : Int) != 8) = true := by rw [bne_iff_ne]; omega
            obtain ⟨c0, c1, c2, cf, cl⟩ := Z2
            clear hg HR hR HLt h8 hsrc
            go_wp2
            exact bodyPost_ret (v := .tuple #[.agg #[.int .i64 0, .int .u64 0, .int .u64 0], .bool false]) (by simp [results, Tryz.results35, go_sem, *]) rfl ⟨by rw [HF.out]; rfl, aset3 B2 (Nat.le_refl _)⟩
      · obtain ⟨kn, rfl⟩ : ∃ kn : Nat, k = kn := ⟨k.toNat, by omega⟩
        have hkl : kn + 2 ≤ l.length := by
          rcases Lib.index_spec l [58, 58] with ⟨h, _⟩ | ⟨i, h, hle, hoc, _⟩
          · rw [HK.out] at h; omega
          · rw [HK.out] at h
            have : kn = i := by omega
            subst this
            unfold Lib.occAt at hoc
            obtain ⟨t, ht⟩ := List.isPrefixOf_iff_prefix.1 hoc
            have := congrArg List.length ht
            simp at this
            omega
        have HR : Hid (Q = match rgroups (l.take kn) false, rgroups (l.drop (kn + 2)) true with
            | some f, some b => six8 f b
            | _, _ => none) := by
          show _ = _; rw [← HQ.out]; exact rsix_pos HK.out
        have hk5 : kn ≤ 100000 := by have := HL.out; omega
        have hs1 := fun V => sliceTo l kn (by omega) V
        have hs2 : ∀ V, (Instr.slice 9 (.string (baS l)) (some (.int .i64 ((kn : Int) + 2))) none none).run Tryz.prog V = .ok (.string (baS (l.drop (kn + 2)))) V := fun V => by
          have := sliceFrom l (kn + 2) (by omega) V
          rw [show ((kn + 2 : Nat) : Int) = (kn : Int) + 2 by omega] at this; exact this
        have hw2 : IntKind.i64.wrap ((kn : Int) + 2) = (kn : Int) + 2 := by rw [IntKind.wrap_i64]; omega
        have hlA : (l.take kn).length ≤ 100000 := by have := HL.out; simp; omega
        have hlB : (l.drop (kn + 2)).length ≤ 100000 := by have := HL.out; simp; omega
        generalize l.take kn = A at *
        generalize l.drop (kn + 2) = B at *
        have HGA := Lib.hid (fun w => groupsS_of A false w (groupsE_f A w hlA))
        have HGB := Lib.hid (fun w => groupsS_of B true w (groupsE_t B w hlB))
        have HLA := Lib.hid (fun g (h : rgroups A false = some g) => And.intro (rgroups_le h hlA) (rgroups_lt h))
        have HLB := Lib.hid (fun g (h : rgroups B true = some g) => And.intro (rgroups_le h hlB) (rgroups_lt h))
        have HS2 := Lib.hid (And.intro hs2 hw2)
        have hk0' : ¬ ((kn : Int) < 0) := hk0
        clear HQ HK hkl hlA hlB hs2 hw2 hk5 hk0
        go_wp2_with fail
        refine (HGA.out _).mono ?_
        rintro e w2 ⟨hb2, hr⟩
        have Z2 := Z1.below hb2
        have B2 := below_next B1 hb2
        obtain ⟨hs2, hw2⟩ := HS2.out
        cases hA : rgroups A false with
        | none =>
          rw [hA] at hr
          subst hr
          have HF : Hid (Q = none) := by have := HR.out; rw [hA] at this; exact this
          clear hA HR HLA HLB hs1 HGA HS2 hk0'
          go_wp2_with fail
          refine (HGB.out _).mono ?_
          rintro e w3 ⟨hb3, hr3⟩
          have B3 := below_next B2 hb3
          obtain ⟨c0, c1, c2, cf, cl⟩ := Z2.below hb3
          obtain ⟨sv, bv, rfl⟩ : ∃ sv bv, e = .returned (.tuple #[sv, .bool bv]) := by
            cases hB : rgroups B true with
            | none => rw [hB] at hr3; exact ⟨_, _, hr3⟩
            | some b => rw [hB] at hr3; obtain ⟨p, c, rfl, _⟩ := hr3; exact ⟨_, _, rfl⟩
          clear hs2 hw2 hr3
          go_wp2
          exact bodyPost_ret (v := .tuple #[.agg #[.int .i64 0, .int .u64 0, .int .u64 0], .bool false]) (by simp [results, Tryz.results35, go_sem, *]) rfl ⟨by rw [HF.out]; rfl, aset3 B3 (Nat.le_refl _)⟩
        | some f =>
          rw [hA] at hr
          obtain ⟨pa, ca, rfl, hsa⟩ := hr
          have HLA' := Lib.hid (HLA.out f hA)
          have HR2 : Hid (Q = match rgroups B true with
              | some b => six8 f b
              | none => none) := by show _ = _; rw [HR.out, hA]; cases rgroups B true <;> rfl
          clear hA HR HLA hs1 HGA HS2 hk0'
          go_wp2_with fail
          refine (HGB.out _).mono ?_
          rintro e w3 ⟨hb3, hr3⟩
          have B3 := below_next B2 hb3
          have K3 := below_next hb2 hb3
          have Z3 := Z2.below hb3
          have hsa3 := hsa.below hb3
          clear hs2 hw2 hsa Z2 B2 hb2 hb3 HGB Z1
          cases hB : rgroups B true with
          | none =>
            rw [hB] at hr3
            subst hr3
            have HF : Hid (Q = none) := by have := HR2.out; rw [hB] at this; exact this
            clear hB HR2 HLB hsa3
            obtain ⟨c0, c1, c2, cf, cl⟩ := Z3
            go_wp2
            exact bodyPost_ret (v := .tuple #[.agg #[.int .i64 0, .int .u64 0, .int .u64 0], .bool false]) (by simp [results, Tryz.results35, go_sem, *]) rfl ⟨by rw [HF.out]; rfl, aset3 B3 (Nat.le_refl _)⟩
          | some b =>
            rw [hB] at hr3
            obtain ⟨pb, cb, rfl, hsb⟩ := hr3
            have hR3 := HR2.out
            rw [hB] at hR3
            simp only [six8] at hR3
            have HLB' := Lib.hid (HLB.out b hB)
            have hf5 := HLA'.out.1
            have hb5 := HLB'.out.1
            have hwl : IntKind.i64.wrap ((f.length : Int) + b.length) = (f.length : Int) + b.length := by rw [IntKind.wrap_i64]; omega
            clear hB HR2 HLB
            by_cases h7 : 8 ≤ f.length + b.length
            · have HF : Hid (Q = none) := by show _ = _; rw [hR3]; exact if_pos h7
              have h7' : (7 : Int) < (f.length : Int) + b.length := by omega
              clear hR3 hsa3 hsb
              obtain ⟨c0, c1, c2, cf, cl⟩ := Z3
              go_wp2
              exact bodyPost_ret (v := .tuple #[.agg #[.int .i64 0, .int .u64 0, .int .u64 0], .bool false]) (by simp [results, Tryz.results35, go_sem, *]) rfl ⟨by rw [HF.out]; rfl, aset3 B3 (Nat.le_refl _)⟩
            · have HF : Hid (Q = some (6, joinV (f ++ List.replicate (8 - f.length - b.length) 0 ++ b))) := by show _ = _; rw [hR3]; exact if_neg h7
              have h7' : ¬ ((7 : Int) < (f.length : Int) + b.length) := by omega
              have h7n : f.length + b.length ≤ 7 := by omega
              clear hR3 hf5 hb5
              go_upto_region 15 with fail
              go_cut [7] (fun v wx => ∃ (p : Option Addr) (c : Nat), v = .slice p f.length c ∧ wx.ownsRow w3.heap.size 23 1 (.slice p f.length c) f.length (f.map valU) ∧ Below w3.heap.size w3 wx)
              case first =>
                have hmade := World.ownsRow_made (base := w3.heap.size) (e := 23) (size := 1) w3 #[] 0 (Nat.le_refl _) (by unfold maxLen; omega) (by simp)
                rcases hsa3 with ⟨rfl, rfl, rfl⟩ | ⟨ga, rfl, hga, hne, hca, hrow⟩
                · have hemp := run_append_owned_none (P := Tryz.prog) (w := w3.alloc (.cells #[] 23)) w3.heap.size 84 84 23 i0 1 Tryz.underlying84 hi _ _ _ hmade
                  simp only [List.length_nil]
                  go_wp2_with fail
                  go_meet
                  exact ⟨_, _, rfl, hmade, ball (Below.refl _ _)⟩
                · have hpos : 0 < f.length := List.length_pos_iff.2 hne
                  have HRow := Lib.hid hrow
                  clear hrow
                  go_wp2_with (at_builtin; refine wpList_append_lies _ (by rfl) _ _ 84 (by rfl) w3.heap.size 23 i0 (.int .u64 0) 1 8 Tryz.underlying84 hi hz0 hz1 hz2 rfl (by decide) _ _ _ (by rfl) hmade ⟨ga, 0, none⟩ f.length ca (f.map valU) (by rfl) (by simp) (src_news HRow.out hga (ball (Below.refl _ _))) (valU_one f) hpos (by unfold maxLen; omega) (by omega) (by simp) (w3.heap.size + 1) (by simp) ?_)
                  intro g3 cap w4 hown4 hgrow hat4 hlt4
                  have B4 : Below w3.heap.size w3 w4 := (ball (Below.refl _ _)).grown hgrow (by simp) (fun k hk => (hmade.lt k hk).1)
                  clear hgrow hat4 hmade
                  go_wp2_with fail
                  go_meet
                  exact ⟨some ⟨g3, 0, none⟩, cap, by simp, by simpa using hown4, B4⟩
              case rest =>
                obtain ⟨p0, c0, rfl, hown0, hb0⟩ := hcut
                clear hsa3
                go_wp2_with fail
                go_loopw [7] (fun v wr => ∃ (j : Nat) (vs : List Nat) (p : Option Addr) (c : Nat), v = .slice p vs.length c ∧ Hid (vs = f ++ List.replicate j 0) ∧ vs.length + b.length ≤ 8 ∧ Hid (vs.length = f.length + j) ∧ wr.ownsRow w3.heap.size 23 1 (.slice p vs.length c) vs.length (vs.map valU) ∧ Below w3.heap.size w3 wr)
                  (fun v _ => 8 - lenOf v)
                case atStart => exact ⟨0, f, p0, c0, rfl, by show _ = _; simp, by omega, by show _ = _; omega, hown0, hb0⟩
                case round =>
                  clear hown0 hb0
                  obtain ⟨j, vs, p, c, rfl, hvs, h8, hj, hown, hbr⟩ := hrel
                  have hzs := hbr.size
                  have hww : IntKind.i64.wrap ((vs.length : Int) + b.length) = (vs.length : Int) + b.length := by rw [IntKind.wrap_i64]; omega
                  by_cases hlt : vs.length + b.length < 8
                  · have hlt' : (vs.length : Int) + b.length < 8 := by omega
                    have HV : Hid (vs ++ [0] = f ++ List.replicate (j + 1) 0) := by show _ = _; rw [hvs.out, List.replicate_succ', ← List.append_assoc]
                    clear hvs
                    go_wp2_with (at_builtin; refine wpList_append_lies _ (by rfl) _ _ 84 (by rfl) w3.heap.size 23 i0 (.int .u64 0) 1 8 Tryz.underlying84 hi hz0 hz1 hz2 rfl (by decide) _ _ _ (by rfl) (hown.alloc _) ⟨wr.heap.size, 0, none⟩ 1 1 [.int .u64 0] (by rfl) (by rfl) one_new (fun x hx => by simp at hx; subst hx; rfl) (by decide) (by unfold maxLen; omega) (by omega) (by simp; omega) (wr.heap.size + 1) (by simp) ?_)
                    intro g3 cap w4 hown4 hgrow hat4 hlt4
                    have B4 : Below w3.heap.size w3 w4 := (ball hbr).grown hgrow (by simp; omega) (fun k hk => (hown.lt k hk).1)
                    clear hgrow hat4
                    go_wp2
                    go_roundw
                    case rel => exact ⟨j + 1, vs ++ [0], some ⟨g3, 0, none⟩, cap, by simp, HV, by simp; omega, by show _ = _; have := hj.out; simp; omega, by simpa [valU] using hown4, B4⟩
                    case measure => simp [lenOf]; omega
                  · have hlt' : ¬ ((vs.length : Int) + b.length < 8) := by omega
                    have hsbr := hsb.below hbr
                    have hje : j = 8 - f.length - b.length := by have := hj.out; omega
                    have HFin : Hid (Q = some (6, joinV (vs ++ b)) ∧ ∀ x ∈ vs ++ b, x < 65536) := by
                      refine ⟨by rw [HF.out, hvs.out, hje], fun x hx => ?_⟩
                      rcases List.mem_append.1 hx with hx | hx
                      · rw [hvs.out] at hx
                        rcases List.mem_append.1 hx with hx | hx
                        · exact HLA'.out.2 (by omega) x hx
                        · rw [(List.mem_replicate.1 hx).2]; decide
                      · exact HLB'.out.2 (by omega) x hx
                    have h8e : vs.length + b.length = 8 := by omega
                    clear hvs hsb hje HF hj
                    rcases hsbr with ⟨rfl, rfl, rfl⟩ | ⟨gb, rfl, hgb, hne, hcb, hrow⟩
                    · have hemp := run_append_owned_none (P := Tryz.prog) (w := wr) w3.heap.size 84 84 23 i0 1 Tryz.underlying84 hi _ _ _ hown
                      simp only [List.length_nil, Nat.add_zero] at h8e
                      obtain ⟨g, rfl, hc8, hgl, hru⟩ := own_eight hown h8e
                      have HX : Hid (Q = some (6, joinV vs) ∧ (∀ x ∈ vs, x < 65536) ∧ RowU wr g vs) := by
                        have := HFin.out; rw [List.append_nil] at this; exact ⟨this.1, this.2, hru⟩
                      have H8 := Lib.hid h8e
                      simp only [List.length_nil]
                      rw [h8e] at hemp ⊢
                      clear HFin hru hown h8e
                      go_wp2_with fail
                      go_meet
                      exact ⟨g, c, vs, rfl, H8.out, hc8, hgl, HX, below_next K3 hbr⟩
                    · have hpos : 0 < b.length := List.length_pos_iff.2 hne
                      have HRow := Lib.hid hrow
                      clear hrow
                      go_wp2_with (at_builtin; refine wpList_append_lies _ (by rfl) _ _ 84 (by rfl) w3.heap.size 23 i0 (.int .u64 0) 1 8 Tryz.underlying84 hi hz0 hz1 hz2 rfl (by decide) _ _ _ (by rfl) hown ⟨gb, 0, none⟩ b.length cb (b.map valU) (by rfl) (by simp) (src_news HRow.out hgb (Below.refl _ _)) (valU_one b) hpos (by unfold maxLen; omega) (by omega) (by omega) wr.heap.size rfl ?_)
                      intro g3 cap w4 hown4 hgrow hat4 hlt4
                      have B4 : Below w3.heap.size w3 w4 := hbr.grown hgrow (by omega) (fun k hk => (hown.lt k hk).1)
                      have hown5 : w4.ownsRow w3.heap.size 23 1 (.slice (some ⟨g3, 0, none⟩) (vs ++ b).length cap) (vs ++ b).length ((vs ++ b).map valU) := by
                        rw [show (vs ++ b).length = 8 by simp; omega]; simpa using hown4
                      obtain ⟨g, hge, hc8, hgl, hru⟩ := own_eight hown5 (by simp; omega)
                      injection hge with hge1
                      injection hge1 with hge2
                      subst hge2
                      have HX : Hid (Q = some (6, joinV (vs ++ b)) ∧ (∀ x ∈ vs ++ b, x < 65536) ∧ RowU w4 g3 (vs ++ b)) := ⟨HFin.out.1, HFin.out.2, hru⟩
                      clear hgrow hat4 hown4 hown5 hru HFin hown
                      go_wp2_with fail
                      go_meet
                      exact ⟨g3, cap, vs ++ b, rfl, by simp; omega, hc8, hgl, HX, below_next K3 B4⟩
    case rest =>
      obtain ⟨g, c, L, rfl, hL8, hc8, hgl, HX, hbx⟩ := hcut
      have ZX := Z1.below hbx
      have BX := below_next B1 hbx
      have HJ := Lib.hid (joinV_half HX.out.2.1 hL8)
      have HL8 := Lib.hid hL8
      clear Z1 B1 hL8 HQ HK
      go_wp2_with fail
      go_loopw [15] (fun iv wr => ∃ (i a b : Nat), iv = .int .i64 i ∧ i ≤ 4 ∧ Hid (a = fold16 ((L.take 4).take i) ∧ b = fold16 ((L.drop 4).take i)) ∧ wr.cell? ⟨wc.heap.size, 0, none⟩ = some (.int .u64 (a : Int)) ∧ wr.cell? ⟨wc.heap.size, 1, none⟩ = some (.int .u64 (b : Int)) ∧ (∀ o, wr.frozen? ⟨wc.heap.size, o, none⟩ = false) ∧ wc.heap.size < wr.heap.size ∧ Below wc.heap.size wc wr)
        (fun iv _ => 4 - (intOf iv).toNat)
      case atStart => exact ⟨0, 0, 0, rfl, by omega, ⟨rfl, rfl⟩, by simp [go_sem], by simp [go_sem], fun o => by simp [go_sem], by simp, ball (Below.refl _ _)⟩
      case round =>
        obtain ⟨i, a, b, rfl, hi, hh, c0, c1, cf, cl, hb⟩ := hrel
        by_cases hi4 : i < 4
        · have hi0 : (i : Int) < 4 := by omega
          obtain ⟨x1, hx1⟩ : ∃ x, L[i]? = some x := ⟨_, List.getElem?_eq_getElem (by rw [HL8.out]; omega)⟩
          obtain ⟨x2, hx2⟩ : ∃ x, L[4 + i]? = some x := ⟨_, List.getElem?_eq_getElem (by rw [HL8.out]; omega)⟩
          have e1 := (olds hb g i hgl).trans (HX.out.2.2 i x1 hx1)
          have e2 := (olds hb g (4 + i) hgl).trans (HX.out.2.2 (4 + i) x2 hx2)
          have b1 := HX.out.2.1 x1 (List.mem_of_getElem? hx1)
          have b2 := HX.out.2.1 x2 (List.mem_of_getElem? hx2)
          have t1 : (L.take 4)[i]? = some x1 := by rw [List.getElem?_take_of_lt hi4]; exact hx1
          have t2 : (L.drop 4)[i]? = some x2 := by rw [List.getElem?_drop]; exact hx2
          have ha : a < 281474976710656 := by rw [hh.out.1]; exact fold3_lt (fun y hy => HX.out.2.1 y (List.mem_of_mem_take (List.mem_of_mem_take hy))) (by simp; omega)
          have hb' : b < 281474976710656 := by rw [hh.out.2]; exact fold3_lt (fun y hy => HX.out.2.1 y (List.mem_of_mem_drop (List.mem_of_mem_take hy))) (by simp; omega)
          have O1 := Lib.hid (or16 a x1 ha b1)
          have O2 := Lib.hid (or16 b x2 hb' b2)
          have HN : Hid (a * 65536 + x1 = fold16 ((L.take 4).take (i + 1)) ∧ b * 65536 + x2 = fold16 ((L.drop 4).take (i + 1))) := ⟨by rw [fold_take t1, ← hh.out.1], by rw [fold_take t2, ← hh.out.2]⟩
          have hx3 := ixU g 8 c i (by omega)
          have hx4 : ∀ V, (Instr.indexAt 84 (.slice (some ⟨g, 0, none⟩) 8 c) (.int .i64 (4 + (i : Int)))).run Tryz.prog V = .ok (.pointer (some ⟨g, 4 + i, none⟩)) V := fun V => by
            have := ixU g 8 c (4 + i) (by omega) V
            rw [show ((4 + i : Nat) : Int) = 4 + (i : Int) by omega] at this; exact this
          have hw4 : IntKind.i64.wrap (4 + (i : Int)) = 4 + (i : Int) := by rw [IntKind.wrap_i64]; omega
          have hne : wc.heap.size ≠ g := Nat.ne_of_gt hgl
          clear hx1 hx2 b1 b2 t1 t2 ha hb' hh
          go_upto_region 23 with fail
          go_region
          rw [O1.out, O2.out]
          have k0 : ((wr.setCell ⟨wc.heap.size, 0, none⟩ (.int .u64 ((a * 65536 + x1 : Nat) : Int))).setCell ⟨wc.heap.size, 1, none⟩ (.int .u64 ((b * 65536 + x2 : Nat) : Int))).drew.cell? ⟨wc.heap.size, 0, none⟩ = some (.int .u64 ((a * 65536 + x1 : Nat) : Int)) := (set2 c0 c1).1
          have k1 : ((wr.setCell ⟨wc.heap.size, 0, none⟩ (.int .u64 ((a * 65536 + x1 : Nat) : Int))).setCell ⟨wc.heap.size, 1, none⟩ (.int .u64 ((b * 65536 + x2 : Nat) : Int))).drew.cell? ⟨wc.heap.size, 1, none⟩ = some (.int .u64 ((b * 65536 + x2 : Nat) : Int)) := (set2 c0 c1).2
          have kf : ∀ o, ((wr.setCell ⟨wc.heap.size, 0, none⟩ (.int .u64 ((a * 65536 + x1 : Nat) : Int))).setCell ⟨wc.heap.size, 1, none⟩ (.int .u64 ((b * 65536 + x2 : Nat) : Int))).drew.frozen? ⟨wc.heap.size, o, none⟩ = false := fun o => by
            show ((wr.setCell ⟨wc.heap.size, 0, none⟩ (.int .u64 ((a * 65536 + x1 : Nat) : Int))).setCell ⟨wc.heap.size, 1, none⟩ (.int .u64 ((b * 65536 + x2 : Nat) : Int))).frozen? ⟨wc.heap.size, o, none⟩ = false
            simp [cf]
          have kl : wc.heap.size < ((wr.setCell ⟨wc.heap.size, 0, none⟩ (.int .u64 ((a * 65536 + x1 : Nat) : Int))).setCell ⟨wc.heap.size, 1, none⟩ (.int .u64 ((b * 65536 + x2 : Nat) : Int))).drew.heap.size := by
            show wc.heap.size < ((wr.setCell ⟨wc.heap.size, 0, none⟩ (.int .u64 ((a * 65536 + x1 : Nat) : Int))).setCell ⟨wc.heap.size, 1, none⟩ (.int .u64 ((b * 65536 + x2 : Nat) : Int))).heap.size
            simp; exact cl
          have kB : Below wc.heap.size wc ((wr.setCell ⟨wc.heap.size, 0, none⟩ (.int .u64 ((a * 65536 + x1 : Nat) : Int))).setCell ⟨wc.heap.size, 1, none⟩ (.int .u64 ((b * 65536 + x2 : Nat) : Int))).drew := Below.drew ((hb.setCell (Nat.le_refl _) _).setCell (Nat.le_refl _) _)
          generalize ((wr.setCell ⟨wc.heap.size, 0, none⟩ (.int .u64 ((a * 65536 + x1 : Nat) : Int))).setCell ⟨wc.heap.size, 1, none⟩ (.int .u64 ((b * 65536 + x2 : Nat) : Int))).drew = V at *
          clear e1 e2 c0 c1 cf cl hb hx3 hx4 hw4
          go_wp2
          go_roundw
          case rel => exact ⟨i + 1, a * 65536 + x1, b * 65536 + x2, by go_num, by omega, HN, k0, k1, kf, kl, kB⟩
          case measure => simp [intOf]; omega
        · obtain rfl : i = 4 := by omega
          have f1 : (a : Int) = hiQ (joinV L) := by rw [HJ.out.1, hh.out.1, List.take_of_length_le (by simp; omega)]
          have f2 : (b : Int) = loQ (joinV L) := by rw [HJ.out.2.1, hh.out.2, List.take_of_length_le (by simp; have := HL8.out; omega)]
          rw [f1] at c0
          rw [f2] at c1
          obtain ⟨z0, z1, z2, zf, zl⟩ := ZX.below hb
          have BY := below_next BX hb
          have hne : wc.heap.size ≠ w.heap.size := by have := ZX.lt; omega
          clear f1 f2 hh hb ZX BX
          go_wp2
          exact bodyPost_ret (v := .tuple #[.agg #[.int .i64 6, .int .u64 (hiQ (joinV L)), .int .u64 (loQ (joinV L))], .bool true]) (by simp [results, Tryz.results35, go_sem, *]) rfl ⟨by rw [HX.out.1]; rfl, aset3 BY (Nat.le_refl _)⟩
theorem refPrefix_x (l : Bs) (w : World) (hl : l.length ≤ 100000) :
    Calls Tryz.prog 22 #[.string (baS l)] w fun e w' => e = .returned (prefR (prefV l)) ∧ Below w.heap.size w w' := by
  rcases last_of 47 l with ⟨p, t, rfl, ht⟩ | h
  · exact refPrefix_of p t w (by omega) ht (fun w => refParse_x p w (by simp at hl; omega))
  · exact refPrefix_no l w (by omega) h
end Go.Proofs.YtmnemjhkmllniaaGreatDoor
