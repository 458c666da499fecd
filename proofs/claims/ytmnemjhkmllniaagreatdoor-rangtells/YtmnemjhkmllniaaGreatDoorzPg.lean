/- addr.parseGroups: groups of hex digits with a colon between, at the end four numbers perhaps. -/
import Derived.Deep.AppendLies
import Derived.OwnWalk
import Derived.Test.YtmnemjhkmllniaaGreatDoorzPb
namespace Go.Proofs.YtmnemjhkmllniaaGreatDoor
open Go.ChangeShapes Go.WideShapes Go.RowKit Go.Sort

def lenOf : Value → Nat
  | .slice _ n _ => n
  | _ => 0
def moreOf : Value → Nat
  | .bool true => 1
  | _ => 0
def valU (n : Nat) : Value := .int .u64 n
/-- The cells of block g, from its head on, are these numbers. -/
def RowU (w : World) (g : Nat) (l : List Nat) : Prop := ∀ (j x : Nat), l[j]? = some x → w.cell? ⟨g, j, none⟩ = some (.int .u64 (x : Int))
theorem RowU.below {w w' : World} {g : Nat} {l : List Nat} (h : RowU w g l) (hb : Below w.heap.size w w') (hg : g < w.heap.size) : RowU w' g l := fun j x hj => (olds hb g j hg).trans (h j x hj)
theorem rowU_own {w : World} {base g c : Nat} {l : List Nat} (h : w.ownsRow base 23 1 (.slice (some ⟨g, 0, none⟩) l.length c) l.length (l.map valU)) : RowU w g l := fun j x hj => by
  have hlt : j < l.length := (List.getElem?_eq_some_iff.1 hj).1
  rw [h.cellAt j (by omega), List.getElem?_map, hj]
  rfl
def GroupsR (w : World) (r : Option (List Nat)) (e : Ending) (w' : World) : Prop := Below w.heap.size w w' ∧ match r with
  | none => e = .returned (.tuple #[.slice none 0 0, .bool false])
  | some l => ∃ g c, e = .returned (.tuple #[.slice (some ⟨g, 0, none⟩) l.length c, .bool true]) ∧ w.heap.size ≤ g ∧ g < w'.heap.size ∧ l.length ≤ c ∧ RowU w' g l
theorem infoU64 : (Tryz.prog.info? 23).map (fun i => (i.zero, i.size, i.bytes)) = some (some (.int .u64 0), 1, 8) := by kernel_rfl
theorem gv_full {ends : Bool} {l : List Nat} {t : Bs} (h : l.length = 8) : groupsV ends (8 - l.length) l t = none := by rw [h]; rfl
theorem gv_four {ends : Bool} {l : List Nat} {t : Bs} (h : l.length < 8) (hc : (ends && !(Lib.cut t [58]).2.2 && Lib.contains (Lib.cut t [58]).1 [46]) = true) :
    groupsV ends (8 - l.length) l t = match fourV (Lib.cut t [58]).1 with
      | none => none
      | some v => some (l ++ [v / 65536, v % 65536]) := by
  rw [show 8 - l.length = (7 - l.length) + 1 by omega]
  conv => lhs; unfold groupsV
  rw [if_pos hc]
  cases fourV (Lib.cut t [58]).1 <;> rfl
theorem gv_none {ends : Bool} {l : List Nat} {t : Bs} (h : l.length < 8) (hc : (ends && !(Lib.cut t [58]).2.2 && Lib.contains (Lib.cut t [58]).1 [46]) = false) (hn : groupV (Lib.cut t [58]).1 = none) :
    groupsV ends (8 - l.length) l t = none := by
  rw [show 8 - l.length = (7 - l.length) + 1 by omega]
  conv => lhs; unfold groupsV
  rw [if_neg (by simp [hc]), hn]
theorem gv_some {ends : Bool} {l : List Nat} {t : Bs} {v : Nat} (h : l.length < 8) (hc : (ends && !(Lib.cut t [58]).2.2 && Lib.contains (Lib.cut t [58]).1 [46]) = false) (hn : groupV (Lib.cut t [58]).1 = some v) :
    groupsV ends (8 - l.length) l t = if (Lib.cut t [58]).2.2 = true then groupsV ends (8 - (l ++ [v]).length) (l ++ [v]) (Lib.cut t [58]).2.1 else some (l ++ [v]) := by
  rw [show 8 - l.length = (7 - l.length) + 1 by omega, show 8 - (l ++ [v]).length = 7 - l.length by simp]
  conv => lhs; unfold groupsV
  rw [if_neg (by simp [hc]), hn]
/-- What is known in the middle of the loop. -/
def MidG (ends : Bool) (s : Bs) (l : List Nat) (t : ByteArray) (b : Bool) : Prop :=
  t.size < 4294967281 ∧ (b = true → l.length ≤ 8) ∧ l.length ≤ 9 ∧ (b = false → l ≠ []) ∧ groupsV ends 8 [] s = if b = true then groupsV ends (8 - l.length) l t.data.toList else some l
theorem one_new {w : World} {u : Value} {t : TypeId} : ∀ (j : Nat) (x : Value), [u][j]? = some x → (w.alloc (.cells #[u] t)).cell? ((⟨w.heap.size, 0, none⟩ : Addr).add j) = some x := by
  intro j x hj
  match j, hj with
  | 0, hj => simp at hj; subst hj; simp [Addr.add]
theorem two_new {w : World} {u v : Value} {t : TypeId} : ∀ (j : Nat) (x : Value), [u, v][j]? = some x → (w.alloc (.cells #[u, v] t)).cell? ((⟨w.heap.size, 0, none⟩ : Addr).add j) = some x := by
  intro j x hj
  match j, hj with
  | 0, hj => simp at hj; subst hj; simp [Addr.add]
  | 1, hj => simp at hj; subst hj; simp [Addr.add]
theorem two_newH {w : World} {u v : Value} {t : TypeId} {H : Nat} (hH : w.heap.size = H) : ∀ (j : Nat) (x : Value), [u, v][j]? = some x → (w.alloc (.cells #[u, v] t)).cell? ((⟨H, 0, none⟩ : Addr).add j) = some x := hH ▸ two_new
theorem own_next {w w' : World} {base e size n : Nat} {v : Value} {xs : List Value} (h : w.ownsRow base e size v n xs) (hb : Below w.heap.size w w') : w'.ownsRow base e size v n xs := by
  obtain ⟨h1, h2⟩ := h
  refine ⟨h1, ?_⟩
  rcases h2 with h | ⟨g, cap, cur, a, b, c, d⟩
  · exact Or.inl h
  · exact Or.inr ⟨g, cap, cur, a, b, (hb.block g (by by_cases hg : g < w.heap.size; exact hg; rw [Array.getElem?_eq_none (by omega)] at c; cases c)).trans c, d⟩
set_option maxHeartbeats 8000000 in
set_option maxRecDepth 100000 in
theorem groups_x (s : ByteArray) (ends : Bool) (w : World) (hg : Gl w) (hs : s.size < 4294967281) :
    Calls Tryz.prog 79 #[.string s, .bool ends] w fun e w' => GroupsR w (groupsV ends 8 [] s.data.toList) e w' := by
  obtain ⟨i0, hi, hz0, hz1, hz2⟩ := info_parts infoU64
  have HG : Hid (Gl w) := hg
  have HS : Hid (s.size < 4294967281) := hs
  clear hg hs
  go_enter Tryz.func79, Tryz.ntmps79
  go_wp2
  go_loopw [6, 0, 7] (fun v sv m wr => ∃ (l : List Nat) (t : ByteArray) (b : Bool) (p : Option Addr) (c : Nat), v = .slice p l.length c ∧ sv = .string t ∧ m = .bool b ∧ Hid (MidG ends s.data.toList l t b) ∧ wr.ownsRow w.heap.size 23 1 (.slice p l.length c) l.length (l.map valU) ∧ Below w.heap.size w wr)
    (fun v _ m _ => moreOf m * (10 - lenOf v))
  case atStart => exact ⟨[], s, true, none, 0, rfl, rfl, rfl, ⟨HS.out, by simp, by simp, by simp, rfl⟩, World.ownsRow_nil _ _ _ _, Below.refl _ _⟩
  case round =>
    obtain ⟨l, t, b, p, c, rfl, rfl, rfl, hh, hown, hb⟩ := hrel
    obtain ⟨hts, hl8, hl9, hne, hdec⟩ := hh.out
    have G1 := HG.out.below hb
    clear hh
    cases b
    · have hF : groupsV ends 8 [] s.data.toList = some l := hdec
      have HF := Lib.hid hF
      obtain ⟨g, cap, cur, hv, hg1, hg2, hg3⟩ : ∃ g cap cur, Value.slice p l.length c = .slice (some ⟨g, 0, none⟩) l.length cap ∧ w.heap.size ≤ g ∧ wr.heap[g]? = some (.cells cur 23 (0, 0)) ∧ l.length ≤ cap := by
        rcases hown.2 with ⟨_, h⟩ | ⟨g, cap, cur, a, b, c, d, _⟩
        · exact absurd (List.length_eq_zero_iff.1 h) (hne rfl)
        · exact ⟨g, cap, cur, a, b, c, d⟩
      obtain ⟨rfl, rfl⟩ : p = some ⟨g, 0, none⟩ ∧ c = cap := by injection hv with a _ b; exact ⟨a, b⟩
      have hgl : g < wr.heap.size := by by_cases hx : g < wr.heap.size; exact hx; rw [Array.getElem?_eq_none (by omega)] at hg2; cases hg2
      have HR := Lib.hid (rowU_own hown)
      clear hv hF hdec hne hl8 hl9 hown hg2 G1
      go_wp2
      go_ret2
      refine ⟨hb, ?_⟩
      rw [HF.out]
      exact ⟨g, c, rfl, hg1, hgl, hg3, HR.out⟩
    · replace hdec : groupsV ends 8 [] s.data.toList = groupsV ends (8 - l.length) l t.data.toList := hdec
      replace hl8 := hl8 rfl
      clear hne
      by_cases h8 : l.length = 8
      · have HF := Lib.hid (hdec.trans (gv_full h8))
        have h8' : (l.length : Int) = 8 := by omega
        clear hdec h8 hl8 hl9
        go_wp2
        go_ret2
        refine ⟨hb, ?_⟩
        rw [HF.out]
        exact rfl
      · have hlt : l.length < 8 := by omega
        have h8' : ((l.length : Int) == 8) = false := by rw [beq_eq_false_iff_ne]; omega
        have hcl := cut_len t.data.toList [58]
        rw [ba_len] at hcl
        cases hm : (Lib.cut t.data.toList [58]).2.2 with
        | true =>
          have hc : (ends && !(Lib.cut t.data.toList [58]).2.2 && Lib.contains (Lib.cut t.data.toList [58]).1 [46]) = false := by rw [hm]; simp
          cases hgv : groupV (Lib.cut t.data.toList [58]).1 with
          | none =>
            have HF := Lib.hid (hdec.trans (gv_none hlt hc hgv))
            have HV := Lib.hid hgv
            have HM := Lib.hid hm
            clear hdec hc hgv hm hcl h8 hl8 hl9
            cases ends
            all_goals
              go_wp2_with fail
              refine (cut_is t 58 _ G1 hts _ HM.out).mono ?_
              rintro e w1 ⟨rfl, hb1⟩
              have G2 := G1.below hb1
              go_wp2_with fail
              refine (group_no ⟨(Lib.cut t.data.toList [58]).1.toArray⟩ _ G2 HV.out).mono ?_
              rintro e w2 ⟨⟨u, rfl⟩, hb2⟩
              go_wp2
              go_ret2
              refine ⟨below_next (below_next hb hb1) hb2, ?_⟩
              rw [HF.out]
              exact rfl
          | some v =>
            have HF := Lib.hid (hdec.trans (gv_some hlt hc hgv))
            have hv16 := groupV_lt hgv
            have HV := Lib.hid hgv
            have HM := Lib.hid hm
            have HL := Lib.hid hcl
            clear hdec hc hgv hm hcl h8 hl8 hl9 hv16
            cases ends
            all_goals
              go_wp2_with fail
              refine (cut_is t 58 _ G1 hts _ HM.out).mono ?_
              rintro e w1 ⟨rfl, hb1⟩
              have G2 := G1.below hb1
              go_wp2_with fail
              refine (group_ok ⟨(Lib.cut t.data.toList [58]).1.toArray⟩ v _ HV.out).mono ?_
              rintro e w2 ⟨rfl, hb2⟩
              have B2 := below_next (below_next hb hb1) hb2
              have hown2 := own_next (own_next hown hb1) hb2
              have hz := B2.size
              go_wp2_with (at_builtin; refine wpList_append_lies _ (by rfl) _ _ 84 (by rfl) w.heap.size 23 i0 (.int .u64 0) 1 8 Tryz.underlying84 hi hz0 hz1 hz2 rfl (by decide) _ _ _ (by rfl) (hown2.alloc _) ⟨w2.heap.size, 0, none⟩ 1 1 [.int .u64 (v : Int)] (by rfl) (by rfl) one_new (fun x hx => by simp at hx; subst hx; rfl) (by decide) (by unfold maxLen; omega) (by omega) (by simp; omega) (w2.heap.size + 1) (by simp) ?_)
              intro g cap w3 hown3 hgrow hat hlt3
              have B3 : Below w.heap.size w w3 := (B2.alloc hz _).grown hgrow (by simp; omega) (fun k hk => (hown2.lt k hk).1)
              clear hgrow hat
              go_wp2
              go_roundw
              case rel =>
                have HF' := HF.out
                rw [HM.out, if_pos rfl] at HF'
                refine ⟨l ++ [v], ⟨(Lib.cut t.data.toList [58]).2.1.toArray⟩, true, some ⟨g, 0, none⟩, cap, by simp, rfl, rfl, ⟨?_, by simp; omega, by simp; omega, by simp, HF'⟩, ?_, B3⟩
                · rw [ba_size]; have := HL.out; omega
                · simpa [valU] using hown3
              case measure => simp [lenOf, moreOf]; omega
        | false =>
          have HM := Lib.hid hm
          by_cases hc : (ends && !(Lib.cut t.data.toList [58]).2.2 && Lib.contains (Lib.cut t.data.toList [58]).1 [46]) = true
          · have hE : ends = true := by revert hc; cases ends <;> simp
            have hK : Lib.contains (Lib.cut t.data.toList [58]).1 [46] = true := by revert hc; cases ends <;> simp
            have HK := Lib.hid hK
            cases hfv : fourV (Lib.cut t.data.toList [58]).1 with
            | none =>
              have HF : Hid (groupsV ends 8 [] s.data.toList = none) := by
                have := hdec.trans (gv_four hlt hc); rw [hfv] at this; exact this
              have HV := Lib.hid hfv
              have HL := Lib.hid hcl
              subst hE
              clear hdec hc hfv hm hcl h8 hl8 hl9 hK
              go_wp2_with fail
              refine (cut_is t 58 _ G1 hts _ HM.out).mono ?_
              rintro e w1 ⟨rfl, hb1⟩
              have G2 := G1.below hb1
              go_wp2_with fail
              refine (has_is ⟨(Lib.cut t.data.toList [58]).1.toArray⟩ 46 _ G2 (by rw [ba_size]; have := HL.out; omega) _ HK.out).mono ?_
              rintro e w2 ⟨rfl, hb2⟩
              have G3 := G2.below hb2
              go_wp2_with fail
              have h4 := four_x ⟨(Lib.cut t.data.toList [58]).1.toArray⟩ w2 G3 (by rw [ba_size]; have := HL.out; omega)
              rw [ba_list, HV.out] at h4
              refine h4.mono ?_
              rintro e w3 ⟨rfl, hb3⟩
              clear h4
              simp only [fourR]
              go_wp2
              go_ret2
              refine ⟨ball (below_next (below_next (below_next hb hb1) hb2) hb3), ?_⟩
              rw [HF.out]
              exact rfl
            | some v =>
              have hv32 := fourV_lt hfv
              have HF : Hid (groupsV ends 8 [] s.data.toList = some (l ++ [v / 65536, v % 65536])) := by
                have := hdec.trans (gv_four hlt hc); rw [hfv] at this; exact this
              have hand : bits .and .u64 (v : Int) 65535 = ((v % 65536 : Nat) : Int) := by
                rw [show (65535 : Int) = ((65535 : Nat) : Int) by rfl, u64_and_nat _ _ (by omega) (by omega), show (65535 : Nat) = 2 ^ 16 - 1 by rfl, Nat.and_two_pow_sub_one_eq_mod]
              have HA := Lib.hid hand
              have HV := Lib.hid hfv
              have HL := Lib.hid hcl
              subst hE
              clear hdec hc hfv hm hcl h8 hl8 hl9 hK hand hv32
              go_wp2_with fail
              refine (cut_is t 58 _ G1 hts _ HM.out).mono ?_
              rintro e w1 ⟨rfl, hb1⟩
              have G2 := G1.below hb1
              go_wp2_with fail
              refine (has_is ⟨(Lib.cut t.data.toList [58]).1.toArray⟩ 46 _ G2 (by rw [ba_size]; have := HL.out; omega) _ HK.out).mono ?_
              rintro e w2 ⟨rfl, hb2⟩
              have G3 := G2.below hb2
              go_wp2_with fail
              have h4 := four_x ⟨(Lib.cut t.data.toList [58]).1.toArray⟩ w2 G3 (by rw [ba_size]; have := HL.out; omega)
              rw [ba_list, HV.out] at h4
              refine h4.mono ?_
              rintro e w3 ⟨rfl, hb3⟩
              clear h4
              simp only [fourR]
              have B3 := below_next (below_next (below_next hb hb1) hb2) hb3
              have hown3 := own_next (own_next (own_next hown hb1) hb2) hb3
              have hz := B3.size
              go_wp2_with (at_builtin; refine wpList_append_lies _ (by rfl) _ _ 84 (by rfl) w.heap.size 23 i0 (.int .u64 0) 1 8 Tryz.underlying84 hi hz0 hz1 hz2 rfl (by decide) _ _ _ (by rfl) ((hown3.alloc _).alloc _) ⟨w3.heap.size + 1, 0, none⟩ 2 2 [.int .u64 ((v : Int) / 65536), .int .u64 (bits .and .u64 (v : Int) 65535)] (by rfl) (by rfl) (two_newH (by simp)) (fun x hx => by simp at hx; rcases hx with rfl | rfl <;> rfl) (by decide) (by unfold maxLen; omega) (by omega) (by simp; omega) (w3.heap.size + 1 + 1) (by simp) ?_)
              intro g cap w4 hown4 hgrow hat hlt4
              have B4 : Below w.heap.size w w4 := ((B3.alloc hz _).alloc (by simp; omega) _).grown hgrow (by simp; omega) (fun k hk => (hown3.lt k hk).1)
              have hrow : RowU w4 g (l ++ [v / 65536, v % 65536]) := by
                refine rowU_own (base := w.heap.size) (c := cap) ?_
                rw [HA.out] at hown4
                simpa [valU] using hown4
              have hgl := hown4.lt g rfl
              have hcap : l.length + 2 ≤ cap := by
                rcases hown4.2 with ⟨h, _⟩ | ⟨g', cap', cur, a, _, _, d, _⟩
                · cases h
                · injection a with _ _ e; omega
              clear hgrow hat hown4
              go_wp2
              go_ret2
              refine ⟨B4, ?_⟩
              rw [HF.out]
              simp only [List.length_append, List.length_cons, List.length_nil]
              exact ⟨g, cap, rfl, hgl.1, hlt4, hcap, hrow⟩
          · have hc' : (ends && !(Lib.cut t.data.toList [58]).2.2 && Lib.contains (Lib.cut t.data.toList [58]).1 [46]) = false := by simpa using hc
            have hK : ends = true → Lib.contains (Lib.cut t.data.toList [58]).1 [46] = false := by intro h; rw [hm, h] at hc'; simpa using hc'
            have HL := Lib.hid hcl
            cases hgv : groupV (Lib.cut t.data.toList [58]).1 with
            | none =>
              have HF := Lib.hid (hdec.trans (gv_none hlt hc' hgv))
              have HV := Lib.hid hgv
              clear hdec hc hc' hgv hm hcl h8 hl8 hl9
              cases ends
              · clear hK
                go_wp2_with fail
                refine (cut_is t 58 _ G1 hts _ HM.out).mono ?_
                rintro e w1 ⟨rfl, hb1⟩
                have G2 := G1.below hb1
                obtain ⟨w2, e2⟩ : ∃ w2, w2 = w1 := ⟨_, rfl⟩
                have b2 : Below wr.heap.size wr w2 := e2 ▸ hb1
                have G3 : Gl w2 := e2 ▸ G2
                rw [← e2]
                clear e2
                go_wp2_with fail
                refine (group_no ⟨(Lib.cut t.data.toList [58]).1.toArray⟩ _ G3 HV.out).mono ?_
                rintro e w3 ⟨⟨u, rfl⟩, hb3⟩
                go_wp2
                go_ret2
                refine ⟨below_next (below_next hb b2) hb3, ?_⟩
                rw [HF.out]
                exact rfl
              · have HK := Lib.hid (hK rfl)
                clear hK
                go_wp2_with fail
                refine (cut_is t 58 _ G1 hts _ HM.out).mono ?_
                rintro e w1 ⟨rfl, hb1⟩
                have G2 := G1.below hb1
                go_wp2_with fail
                refine (has_is ⟨(Lib.cut t.data.toList [58]).1.toArray⟩ 46 _ G2 (by rw [ba_size]; have := HL.out; omega) _ HK.out).mono ?_
                rintro e w2 ⟨rfl, hb2⟩
                have G3 := G2.below hb2
                have b2 := below_next hb1 hb2
                go_wp2_with fail
                refine (group_no ⟨(Lib.cut t.data.toList [58]).1.toArray⟩ _ G3 HV.out).mono ?_
                rintro e w3 ⟨⟨u, rfl⟩, hb3⟩
                go_wp2
                go_ret2
                refine ⟨below_next (below_next hb b2) hb3, ?_⟩
                rw [HF.out]
                exact rfl
            | some v =>
              have HF : Hid (groupsV ends 8 [] s.data.toList = some (l ++ [v])) := by
                have := hdec.trans (gv_some hlt hc' hgv); rw [hm] at this; exact this
              have HV := Lib.hid hgv
              clear hdec hc hc' hgv hm hcl h8 hl8 hl9
              cases ends
              · clear hK
                go_wp2_with fail
                refine (cut_is t 58 _ G1 hts _ HM.out).mono ?_
                rintro e w1 ⟨rfl, hb1⟩
                have G2 := G1.below hb1
                obtain ⟨w2, e2⟩ : ∃ w2, w2 = w1 := ⟨_, rfl⟩
                have b2 : Below wr.heap.size wr w2 := e2 ▸ hb1
                have G3 : Gl w2 := e2 ▸ G2
                rw [← e2]
                clear e2
                go_wp2_with fail
                refine (group_ok ⟨(Lib.cut t.data.toList [58]).1.toArray⟩ v _ HV.out).mono ?_
                rintro e w3 ⟨rfl, hb3⟩
                have B3 := below_next (below_next hb b2) hb3
                have hown3 := own_next (own_next hown b2) hb3
                have hz := B3.size
                go_wp2_with (at_builtin; refine wpList_append_lies _ (by rfl) _ _ 84 (by rfl) w.heap.size 23 i0 (.int .u64 0) 1 8 Tryz.underlying84 hi hz0 hz1 hz2 rfl (by decide) _ _ _ (by rfl) (hown3.alloc _) ⟨w3.heap.size, 0, none⟩ 1 1 [.int .u64 (v : Int)] (by rfl) (by rfl) one_new (fun x hx => by simp at hx; subst hx; rfl) (by decide) (by unfold maxLen; omega) (by omega) (by simp; omega) (w3.heap.size + 1) (by simp) ?_)
                intro g cap w4 hown4 hgrow hat hlt4
                have B4 : Below w.heap.size w w4 := (B3.alloc hz _).grown hgrow (by simp; omega) (fun k hk => (hown3.lt k hk).1)
                clear hgrow hat
                go_wp2
                go_roundw
                case rel =>
                  refine ⟨l ++ [v], ⟨(Lib.cut t.data.toList [58]).2.1.toArray⟩, false, some ⟨g, 0, none⟩, cap, by simp, rfl, rfl, ⟨?_, by simp, by simp; omega, by simp, HF.out⟩, ?_, B4⟩
                  · rw [ba_size]; have := HL.out; omega
                  · simpa [valU] using hown4
                case measure => simp [lenOf, moreOf]; omega
              · have HK := Lib.hid (hK rfl)
                clear hK
                go_wp2_with fail
                refine (cut_is t 58 _ G1 hts _ HM.out).mono ?_
                rintro e w1 ⟨rfl, hb1⟩
                have G2 := G1.below hb1
                go_wp2_with fail
                refine (has_is ⟨(Lib.cut t.data.toList [58]).1.toArray⟩ 46 _ G2 (by rw [ba_size]; have := HL.out; omega) _ HK.out).mono ?_
                rintro e w2 ⟨rfl, hb2⟩
                have G3 := G2.below hb2
                have b2 := below_next hb1 hb2
                go_wp2_with fail
                refine (group_ok ⟨(Lib.cut t.data.toList [58]).1.toArray⟩ v _ HV.out).mono ?_
                rintro e w3 ⟨rfl, hb3⟩
                have B3 := below_next (below_next hb b2) hb3
                have hown3 := own_next (own_next hown b2) hb3
                have hz := B3.size
                go_wp2_with (at_builtin; refine wpList_append_lies _ (by rfl) _ _ 84 (by rfl) w.heap.size 23 i0 (.int .u64 0) 1 8 Tryz.underlying84 hi hz0 hz1 hz2 rfl (by decide) _ _ _ (by rfl) (hown3.alloc _) ⟨w3.heap.size, 0, none⟩ 1 1 [.int .u64 (v : Int)] (by rfl) (by rfl) one_new (fun x hx => by simp at hx; subst hx; rfl) (by decide) (by unfold maxLen; omega) (by omega) (by simp; omega) (w3.heap.size + 1) (by simp) ?_)
                intro g cap w4 hown4 hgrow hat hlt4
                have B4 : Below w.heap.size w w4 := (B3.alloc hz _).grown hgrow (by simp; omega) (fun k hk => (hown3.lt k hk).1)
                clear hgrow hat
                go_wp2
                go_roundw
                case rel =>
                  refine ⟨l ++ [v], ⟨(Lib.cut t.data.toList [58]).2.1.toArray⟩, false, some ⟨g, 0, none⟩, cap, by simp, rfl, rfl, ⟨?_, by simp, by simp; omega, by simp, HF.out⟩, ?_, B4⟩
                  · rw [ba_size]; have := HL.out; omega
                  · simpa [valU] using hown4
                case measure => simp [lenOf, moreOf]; omega
end Go.Proofs.YtmnemjhkmllniaaGreatDoor
