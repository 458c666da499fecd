/- Package csvr: Parse. -/
import Derived.Test.YtcfminkmidaaoaaDoorVe
import Derived.Test.YtcfminkmidaaoaaDoorVr
namespace Go.Proofs.YtcfminkmidaaoaaDoor
open Go.ChangeShapes Go.WideShapes Go.RowKit Go.Sort
/-- Rows of signs from a block on. -/
def tokF (B : Nat) : RowP Tk := ⟨fun w q row => TokK w q row ∧ (row ≠ [] → ∀ g, q = some ⟨g, 0, none⟩ → B ≤ g), fun w w' p l h k => ⟨tokP.keep w w' p l h.1 k, h.2⟩, fun w p => ⟨fun j t hj => by simp at hj, fun h => absurd rfl h⟩⟩
/-- What was made stays readable where all from a block on stands. -/
theorem OutP.readV {w w' : World} {e : TypeId} {B base c : Nat} {p : Option Addr} {L : List (List Tk)} {vs : List Value} (h : OutP (tokF B) w e base p c L vs) (hB : B ≤ base) (hs : w.heap.size ≤ w'.heap.size) (hc : ∀ g o, B ≤ g → w'.cell? ⟨g, o, none⟩ = w.cell? ⟨g, o, none⟩) : RecP tokP w' p L := fun j row hj => by
  obtain ⟨g, q, cq, e1, hg, h1, h2⟩ := h.read j row hj
  have hge : base ≤ g := (h.own.lt g (by rw [e1]; rfl)).1
  refine ⟨g, q, cq, e1, by omega, (hc g j (by omega)).trans h1, fun k t hk => ?_⟩
  have hne : row ≠ [] := fun e => by rw [e] at hk; simp at hk
  obtain ⟨g2, e2, hg2, a, b, c⟩ := h2.1 k t hk
  have := h2.2 hne g2 e2
  exact ⟨g2, e2, by omega, (hc _ _ this).trans a, (hc _ _ this).trans b, (hc _ _ this).trans c⟩
theorem set2_far {w w3 : World} {E B : Nat} {u v : Value} (hE : E < B) (h : (w.setCell ⟨E, 0, none⟩ u).setCell ⟨E, 1, none⟩ v = w3) : w.heap.size ≤ w3.heap.size ∧ ∀ g o, B ≤ g → w3.cell? ⟨g, o, none⟩ = w.cell? ⟨g, o, none⟩ := by
  subst h
  refine ⟨by simp [World.setCell], fun g o hg => ?_⟩
  have o1 : ∀ i j, (⟨g, i, none⟩ : Addr) ≠ ⟨E, j, none⟩ := fun i j e => by injection e; omega
  exact (World.cell?_setCell_other _ _ _ _ (by first | exact o1 _ _ | exact (o1 _ _).symm)).trans (World.cell?_setCell_other _ _ _ _ (by first | exact o1 _ _ | exact (o1 _ _).symm))
/-- What Parse hands back. -/
def RecsE (w : World) (l : Bs) (e : Ending) (w' : World) : Prop :=
  (match recV l with
    | .ok L => ∃ p c, e = .returned (.tuple #[.slice p L.length c, .agg #[.int .i64 0, .int .i64 0]]) ∧ RecP tokP w' p L ∧ L.length ≤ l.length
    | .bad k a => e = .returned (.tuple #[.slice none 0 0, .agg #[.int .i64 (k : Int), .int .i64 (a : Int)]])) ∧ Below w.heap.size w w'
theorem RecsE.ok {w w' : World} {l : Bs} {L : List (List Tk)} {p : Option Addr} {c : Nat} (h : recV l = .ok L) (ht : RecP tokP w' p L) (hl : L.length ≤ l.length) (hb : Below w.heap.size w w') : RecsE w l (.returned (.tuple #[.slice p L.length c, .agg #[.int .i64 0, .int .i64 0]])) w' := by
  unfold RecsE; rw [h]; exact ⟨⟨p, c, rfl, ht, hl⟩, hb⟩
theorem RecsE.bad {w w' : World} {l : Bs} {k a : Nat} (h : recV l = .bad k a) (hb : Below w.heap.size w w') : RecsE w l (.returned (.tuple #[.slice none 0 0, .agg #[.int .i64 (k : Int), .int .i64 (a : Int)]])) w' := by
  unfold RecsE; rw [h]; exact ⟨rfl, hb⟩
theorem infoR9 : (Tryd.prog.info? 30).map (fun i => (i.zero, i.size, i.bytes)) = some (some (.slice none 0 0), 1, 24) := by kernel_rfl
set_option maxHeartbeats 16000000 in
set_option maxRecDepth 100000 in
theorem parse_x (l : Bs) (a : Option Addr) (c : Nat) (w : World) (h : BytesAt w a l) (hc : l.length ≤ c) (hl : l.length ≤ 1000000) :
    Calls Tryd.prog 8 #[.slice a l.length c] w fun e w' => RecsE w l e w' := by
  have HH := Lib.hid h
  have HR := Lib.hid (fun j V (hV : BytesAt V a l) (hj : j < l.length) => recordAt_x l a c j V hV hc hl hj)
  clear h
  go_enter Tryd.func8, Tryd.ntmps8
  go_upto_region 1 with fail
  generalize hw0 : w.alloc _ = w0
  have B0 : Below w.heap.size w w0 := hw0 ▸ ball (Below.refl _ _)
  have E0 : ErrAt w0 w.heap.size := by subst hw0; exact ⟨by simp [go_sem], by simp [go_sem], fun o => by simp [go_sem], by simp [go_sem]⟩
  clear hw0
  go_wp2_with fail
  refine (long_no a l.length c _ hl).mono ?_
  rintro e w1 ⟨rfl, hb1⟩
  have B1 := below_next B0 hb1
  have E1 := E0.next hb1
  clear hb1 B0 E0
  go_upto_region 4 with fail
  generalize hw3 : w1.alloc _ = w3
  have B3 : Below w.heap.size w w3 := hw3 ▸ ball B1
  have E3 : ErrAt w3 w.heap.size := hw3 ▸ E1.next (ball (Below.refl _ _))
  clear hw3 B1 E1
  have H3 := Lib.hid (HH.out.below B3)
  clear HH
  go_wp2_with fail
  go_loopw [6, 7] (fun sv iv wr => ∃ (acc : List (List Tk)) (vs : List Value) (j : Nat) (p : Option Addr) (q : Nat), sv = .slice p acc.length q ∧ iv = .int .i64 (j : Int) ∧ acc.length ≤ j ∧ j ≤ l.length ∧ Hid (recV l = (recA (.beg []) j (l.drop j)).pre acc) ∧ OutP (tokF w3.heap.size) wr 30 w3.heap.size p q acc vs ∧ Below w3.heap.size w3 wr) (fun _ iv _ => l.length + 1 - intN iv)
  case atStart => exact ⟨[], [], 0, none, 0, rfl, rfl, Nat.le_refl _, Nat.zero_le _, Lib.hid (by rw [RR.pre_nil]; rfl), OutP.nil _ _ _ _, Below.refl _ _⟩
  case round =>
    obtain ⟨acc, vs, j, p, q, rfl, rfl, haj, hjl, hp, hout, hb⟩ := hrel
    have hzs := hb.size
    have EW := E3.next hb
    have BB : Below w.heap.size w wr := below_next B3 hb
    by_cases hlt : j < l.length
    · have hcall := Lib.hid (HR.out j wr (H3.out.below hb) hlt)
      clear HR
      go_wp2_with fail
      refine hcall.out.mono ?_
      rintro e w4 ⟨hv, hb4⟩
      have E4 := EW.next hb4
      have B4 := below_next BB hb4
      have hout4 := hout.below hb4
      have hb4' := below_next hb hb4
      have hz4 := hb4.size
      rcases hv with ⟨row, n, p2, c2, rfl, hjn, hnl, hrl, hown, hrec⟩ | ⟨K, A, rfl, hK, hrec⟩
      · have HN : Hid (recV l = (recA (.beg []) n (l.drop n)).pre (acc ++ [row])) := Lib.hid (by rw [hp.out, hrec, RR.pre_pre])
        have hlies : (tokF w3.heap.size).lies w4 p2 row := ⟨tokK_own hown, fun _ g hg => by have := (hown.lt g (by rw [hg]; rfl)).1; omega⟩
        have hsep : ∀ g, p2 = some ⟨g, 0, none⟩ → g < w4.heap.size ∧ (Value.slice p acc.length q).ownBlock ≠ some g := fun g hg => by
          have h1 := hown.lt g (by rw [hg]; rfl)
          refine ⟨h1.2, fun he => ?_⟩
          have := (hout.own.lt g he).2
          omega
        clear hcall hrec hp EW BB hout hb hb4 hown
        go_upto_region 8 with fail
        generalize hw5 : w4.alloc _ = w5
        have B5 : Below w.heap.size w w5 := hw5 ▸ ball B4
        have E5 : ErrAt w5 w.heap.size := hw5 ▸ E4.next (ball (Below.refl _ _))
        have b45 : Below w4.heap.size w4 w5 := hw5 ▸ ball (Below.refl _ _)
        have x0 : w5.cell? ⟨w4.heap.size, 0, none⟩ = some (.int .i64 0) := by subst hw5; simp [go_sem]
        have hout5 := hout4.below b45
        have hb5 : Below w3.heap.size w3 w5 := below_next hb4' b45
        have hlies5 := (tokF w3.heap.size).below hlies b45
        have hsep5 : ∀ g, p2 = some ⟨g, 0, none⟩ → g < w5.heap.size ∧ (Value.slice p acc.length q).ownBlock ≠ some g := fun g hg => ⟨by have := (hsep g hg).1; have := b45.size; omega, (hsep g hg).2⟩
        clear hw5 B4 E4 hout4 hb4' b45 hlies hsep hz4 hzs
        have hzs := hb5.size
        generalize w4.heap.size = X at *
        go_wp2_with (at_builtin; refine appR (tokF w3.heap.size) _ (by rfl) _ _ 24 30 (by rfl) Tryd.underlying24 infoR9 w3.heap.size p q acc vs (by rfl) (hout5.below (ball (Below.refl _ _))) w5.heap.size 1 p2 c2 row (by rfl) (by simp [go_sem]) ((tokF w3.heap.size).below hlies5 (ball (Below.refl _ _))) (fun g hg => ⟨by have := (hsep5 g hg).1; simp; omega, (hsep5 g hg).2⟩) (by omega) (by simp; omega) ?_)
        intro g3 cap w6 hA
        obtain ⟨hout6, _, hbel⟩ := hA
        have hb6 := hbel w3.heap.size w3 (Nat.le_refl _) (hb5.alloc hzs _)
        clear hbel hout5 hb5 B5 E5 x0 hlies5 hsep5
        go_wp2
        refine ⟨⟨acc ++ [row], _, n, some ⟨g3, 0, none⟩, cap, by simp, rfl, by simp; omega, hnl, HN, hout6, hb6⟩, by simp [intN]; omega⟩
      · have HF : Hid (recV l = .bad K A) := Lib.hid (by rw [hp.out, hrec]; rfl)
        have hk := knz hK
        clear hcall hrec hp EW BB hout hb hb4 hout4 hb4' hz4
        go_upto_region 8 with fail
        generalize hw5 : w4.alloc _ = w5
        have B5 : Below w.heap.size w w5 := hw5 ▸ ball B4
        have E5 : ErrAt w5 w.heap.size := hw5 ▸ E4.next (ball (Below.refl _ _))
        have x0 : w5.cell? ⟨w4.heap.size, 0, none⟩ = some (.int .i64 (K : Int)) := by subst hw5; simp [go_sem]
        have x1 : w5.cell? ⟨w4.heap.size, 1, none⟩ = some (.int .i64 (A : Int)) := by subst hw5; simp [go_sem]
        have n1 : w4.heap.size ≠ w.heap.size := by have := E4.lt; omega
        have n2 : w.heap.size ≠ w4.heap.size := fun e => n1 e.symm
        have e0 := E5.c0
        have e1 := E5.c1
        have ef := E5.fz
        clear hw5 B4 E4
        generalize w4.heap.size = X at *
        go_wp2_with fail
        go_region
        generalize hw6 : World.drew _ = w6
        obtain ⟨s0, s1, B6⟩ := err_any E5 B5 (Nat.le_refl _) hw6
        clear hw6 e0 e1 ef x0 x1 n1 n2 B5 E5
        go_wp2_with fail
        exact bodyPost_ret (v := .tuple #[.slice none 0 0, .agg #[.int .i64 (K : Int), .int .i64 (A : Int)]]) (by simp [results, Tryd.results8, go_sem, s0, s1]) rfl (RecsE.bad HF.out B6)
    · have HF : Hid (recV l = .ok acc) := Lib.hid (by rw [hp.out, show j = l.length by omega, beg_at_end]; show RR.ok (acc ++ []) = _; rw [List.append_nil])
      have hjn : ¬ ((j : Int) < (l.length : Int)) := by omega
      have e0 := EW.c0
      have e1 := EW.c1
      have ef := EW.fz
      have hlt3 : w.heap.size < w3.heap.size := E3.lt
      clear hp HR
      go_wp2_with fail
      generalize hw6 : (wr.setCell _ _).setCell _ _ = w6
      obtain ⟨s0, s1, B6⟩ := err_plain EW BB (Nat.le_refl _) hw6
      obtain ⟨hs6, hc6⟩ := set2_far hlt3 hw6
      have hr6 := hout.readV (Nat.le_refl _) hs6 hc6
      clear hw6 e0 e1 ef
      exact bodyPost_ret (v := .tuple #[.slice p acc.length q, .agg #[.int .i64 0, .int .i64 0]]) (by simp [results, Tryd.results8, go_sem, s0, s1]) rfl (RecsE.ok HF.out hr6 (by omega) B6)
end Go.Proofs.YtcfminkmidaaoaaDoor
