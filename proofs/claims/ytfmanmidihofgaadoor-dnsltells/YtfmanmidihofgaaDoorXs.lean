/- The law's own same, at equal rows. -/
import Derived.Test.YtfmanmidihofgaaDoorXk
import Derived.Test.YtfmanmidihofgaaDoorRg2
import Derived.Test.YtfmanmidihofgaaDoorTl
import Derived.Deep.QuietTactic
namespace Go.Proofs.YtfmanmidihofgaaDoor
open Go.ChangeShapes Go.WideShapes Go.RowKit Go.Sort
set_option maxHeartbeats 8000000 in
set_option maxRecDepth 100000 in
theorem same10_x (L : List Rw) (p q : Option Addr) (c d : Nat) (w : World) (hp : RecW w p L) (hq : RecW w q L) (hl : L.length ≤ 1000000) (hm : ∀ r ∈ L, r.2.1.length ≤ 1000000) :
    Calls Tryd.prog 11 #[.slice p L.length c, .slice q L.length d] w fun e w' => e = .returned (.bool true) ∧ Below w.heap.size w w' := by
  have HP := Lib.hid hp
  have HQ := Lib.hid hq
  clear hp hq
  go_enter Tryd.func11, Tryd.ntmps11
  go_wp2_with fail
  go_loopw [13] (fun iv wr => ∃ i : Nat, iv = .int .i64 (i : Int) ∧ i ≤ L.length ∧ Below w.heap.size w wr) (fun iv _ => L.length + 1 - intN iv)
  case atStart => exact ⟨0, rfl, Nat.zero_le _, Below.refl _ _⟩
  case round =>
    obtain ⟨i, rfl, hi, hb⟩ := hrel
    by_cases hil : i < L.length
    · have hrow := List.getElem?_eq_getElem hil
      have hrm := hm _ (List.getElem_mem hil)
      generalize L[i]'hil = r at *
      obtain ⟨g, q1, c1, e1, hg, a0, a1, a2, t1⟩ := HP.out i r hrow
      subst e1
      obtain ⟨h, q2, c2, e2, hh, b0, b1, b2, t2⟩ := HQ.out i r hrow
      subst e2
      obtain ⟨key, ts, n⟩ := r
      simp only at hrm a0 a1 a2 b0 b1 b2 t1 t2
      have HS : Hid (∀ V, Below w.heap.size w V → Calls Tryd.prog 21 #[.slice q1 ts.length c1, .slice q2 ts.length c2] V fun e w' => e = .returned (.bool true) ∧ Below V.heap.size V w') := Lib.hid (fun V hV => same_k ts q1 q2 c1 c2 V (t1.below hV) (t2.below hV) hrm)
      have HA0 : Hid (∀ V, Below wr.heap.size wr V → V.cell? ⟨g, i * 3, none⟩ = some (.string (baS key))) := Lib.hid (fun V hV => (olds (below_next hb hV) g _ hg).trans a0)
      have HA1 : Hid (∀ V, Below wr.heap.size wr V → V.cell? ⟨g, i * 3 + 1, none⟩ = some (.slice q1 ts.length c1)) := Lib.hid (fun V hV => (olds (below_next hb hV) g _ hg).trans a1)
      have HA2 : Hid (∀ V, Below wr.heap.size wr V → V.cell? ⟨g, i * 3 + 2, none⟩ = some (.int .i64 (n : Int))) := Lib.hid (fun V hV => (olds (below_next hb hV) g _ hg).trans a2)
      have HB0 : Hid (∀ V, Below wr.heap.size wr V → V.cell? ⟨h, i * 3, none⟩ = some (.string (baS key))) := Lib.hid (fun V hV => (olds (below_next hb hV) h _ hh).trans b0)
      have HB1 : Hid (∀ V, Below wr.heap.size wr V → V.cell? ⟨h, i * 3 + 1, none⟩ = some (.slice q2 ts.length c2)) := Lib.hid (fun V hV => (olds (below_next hb hV) h _ hh).trans b1)
      have HB2 : Hid (∀ V, Below wr.heap.size wr V → V.cell? ⟨h, i * 3 + 2, none⟩ = some (.int .i64 (n : Int))) := Lib.hid (fun V hV => (olds (below_next hb hV) h _ hh).trans b2)
      clear hrow t1 t2 a0 a1 a2 b0 b1 b2 hrm
      generalize baS key = K at *
      generalize ts.length = m at *
      go_wp2_with fail
      refine region_go2 16 54 [16, 17, 18, 19, 20, 21, 22, 23, 24, 25, 26, 27, 28, 29, 30, 31, 32, 33, 34, 35, 36, 37, 38, 39, 40, 41, 42, 43, 44, 45, 46, 47, 48, 49, 50, 51, 52, 53]
        [.eqv (.slice (some ⟨g, 0, none⟩) L.length c), .eqv (.int .i64 (i : Int)), .eqv (.pointer (some ⟨g, i * 3, none⟩)), .eqv (.pointer (some ⟨g, i * 3, none⟩)), .eqv (.string K), .eqv (.slice (some ⟨h, 0, none⟩) L.length d), .eqv (.int .i64 (i : Int)), .eqv (.pointer (some ⟨h, i * 3, none⟩)), .eqv (.pointer (some ⟨h, i * 3, none⟩)), .eqv (.string K), .eqv (.bool false), .eqv (.bool false), .eqv (.slice (some ⟨g, 0, none⟩) L.length c), .eqv (.int .i64 (i : Int)), .eqv (.pointer (some ⟨g, i * 3, none⟩)), .eqv (.pointer (some ⟨g, i * 3 + 2, none⟩)), .eqv (.int .i64 (n : Int)), .eqv (.slice (some ⟨h, 0, none⟩) L.length d), .eqv (.int .i64 (i : Int)), .eqv (.pointer (some ⟨h, i * 3, none⟩)), .eqv (.pointer (some ⟨h, i * 3 + 2, none⟩)), .eqv (.int .i64 (n : Int)), .eqv (.bool false), .eqv (.bool false), .eqv (.bool false), .eqv (.slice (some ⟨g, 0, none⟩) L.length c), .eqv (.int .i64 (i : Int)), .eqv (.pointer (some ⟨g, i * 3, none⟩)), .eqv (.pointer (some ⟨g, i * 3 + 1, none⟩)), .eqv (.slice q1 m c1), .eqv (.slice (some ⟨h, 0, none⟩) L.length d), .eqv (.int .i64 (i : Int)), .eqv (.pointer (some ⟨h, i * 3, none⟩)), .eqv (.pointer (some ⟨h, i * 3 + 1, none⟩)), .eqv (.slice q2 m c2), .eqv (.bool true), .eqv (.bool false), .eqv (.bool false)]
        (by kernel_rfl) (by kernel_rfl) rfl (by decide) (of_decide_eq_true (by kernel_rfl)) (by decide) ?_ ?_
      · refine ⟨?_, ?_, ?_, ?_, ?_, ?_, ?_, ?_, ?_, ?_, ?_, ?_, ?_, ?_, ?_, ?_, ?_, ?_, ?_, ?_, ?_, ?_, ?_, ?_, ?_, ?_, ?_, ?_, ?_, ?_, ?_, ?_, ?_, ?_, ?_, ?_, ?_, ?_, True.intro⟩
        · refine stepG_val rfl fun a w hF hB hD => ⟨rg_free rfl _, ?_⟩
          have h0 : a.eval (.tmp 0) = .slice (some ⟨g, 0, none⟩) L.length c := (hF 0 (by decide)).trans rfl
          unfold execOp
          simp only [h0]
          simp [go_sem]
        · refine stepG_val rfl fun a w hF hB hD => ⟨rg_free rfl _, ?_⟩
          have h5 : a.eval (.tmp 5) = .int .i64 (i : Int) := (hF 5 (by decide)).trans rfl
          unfold execOp
          simp only [h5]
          simp [go_sem]
        · refine stepG_val rfl fun a w hF hB hD => ⟨rg_free rfl _, ?_⟩
          have h16 : a.eval (.tmp 16) = .slice (some ⟨g, 0, none⟩) L.length c := hD 0 rfl
          have h17 : a.eval (.tmp 17) = .int .i64 (i : Int) := hD 1 rfl
          unfold execOp
          simp only [h16, h17]
          simp [go_sem, hil]
        · refine stepG_val rfl fun a w hF hB hD => ⟨rg_free rfl _, ?_⟩
          have h18 : a.eval (.tmp 18) = .pointer (some ⟨g, i * 3, none⟩) := hD 2 rfl
          unfold execOp
          simp only [h18]
          simp [go_sem]
        · refine stepG_val rfl fun a w hF hB hD => ⟨rg_free rfl _, ?_⟩
          have h19 : a.eval (.tmp 19) = .pointer (some ⟨g, i * 3, none⟩) := hD 3 rfl
          have c0 := HA0.out w hB
          unfold execOp
          simp only [h19]
          simp [go_sem, c0]
        · refine stepG_val rfl fun a w hF hB hD => ⟨rg_free rfl _, ?_⟩
          have h1 : a.eval (.tmp 1) = .slice (some ⟨h, 0, none⟩) L.length d := (hF 1 (by decide)).trans rfl
          unfold execOp
          simp only [h1]
          simp [go_sem]
        · refine stepG_val rfl fun a w hF hB hD => ⟨rg_free rfl _, ?_⟩
          have h5 : a.eval (.tmp 5) = .int .i64 (i : Int) := (hF 5 (by decide)).trans rfl
          unfold execOp
          simp only [h5]
          simp [go_sem]
        · refine stepG_val rfl fun a w hF hB hD => ⟨rg_free rfl _, ?_⟩
          have h21 : a.eval (.tmp 21) = .slice (some ⟨h, 0, none⟩) L.length d := hD 5 rfl
          have h22 : a.eval (.tmp 22) = .int .i64 (i : Int) := hD 6 rfl
          unfold execOp
          simp only [h21, h22]
          simp [go_sem, hil]
        · refine stepG_val rfl fun a w hF hB hD => ⟨rg_free rfl _, ?_⟩
          have h23 : a.eval (.tmp 23) = .pointer (some ⟨h, i * 3, none⟩) := hD 7 rfl
          unfold execOp
          simp only [h23]
          simp [go_sem]
        · refine stepG_val rfl fun a w hF hB hD => ⟨rg_free rfl _, ?_⟩
          have h24 : a.eval (.tmp 24) = .pointer (some ⟨h, i * 3, none⟩) := hD 8 rfl
          have c0 := HB0.out w hB
          unfold execOp
          simp only [h24]
          simp [go_sem, c0]
        · refine stepG_val rfl fun a w hF hB hD => ⟨rg_free rfl _, ?_⟩
          have h20 : a.eval (.tmp 20) = .string K := hD 4 rfl
          have h25 : a.eval (.tmp 25) = .string K := hD 9 rfl
          unfold execOp
          simp only [h20, h25]
          simp [go_sem]
        · refine stepG_val rfl fun a w hF hB hD => ⟨rg_free rfl _, ?_⟩
          have h26 : a.eval (.tmp 26) = .bool false := hD 10 rfl
          unfold execOp
          simp only [h26]
          simp [go_sem]
        · refine stepG_val rfl fun a w hF hB hD => ⟨rg_on (d := 27) rfl rfl (hD 11 rfl), ?_⟩
          have h0 : a.eval (.tmp 0) = .slice (some ⟨g, 0, none⟩) L.length c := (hF 0 (by decide)).trans rfl
          unfold execOp
          simp only [h0]
          simp [go_sem]
        · refine stepG_val rfl fun a w hF hB hD => ⟨rg_on (d := 27) rfl rfl (hD 11 rfl), ?_⟩
          have h5 : a.eval (.tmp 5) = .int .i64 (i : Int) := (hF 5 (by decide)).trans rfl
          unfold execOp
          simp only [h5]
          simp [go_sem]
        · refine stepG_val rfl fun a w hF hB hD => ⟨rg_on (d := 27) rfl rfl (hD 11 rfl), ?_⟩
          have h28 : a.eval (.tmp 28) = .slice (some ⟨g, 0, none⟩) L.length c := hD 12 rfl
          have h29 : a.eval (.tmp 29) = .int .i64 (i : Int) := hD 13 rfl
          unfold execOp
          simp only [h28, h29]
          simp [go_sem, hil]
        · refine stepG_val rfl fun a w hF hB hD => ⟨rg_on (d := 27) rfl rfl (hD 11 rfl), ?_⟩
          have h30 : a.eval (.tmp 30) = .pointer (some ⟨g, i * 3, none⟩) := hD 14 rfl
          unfold execOp
          simp only [h30]
          simp [go_sem]
        · refine stepG_val rfl fun a w hF hB hD => ⟨rg_on (d := 27) rfl rfl (hD 11 rfl), ?_⟩
          have h31 : a.eval (.tmp 31) = .pointer (some ⟨g, i * 3 + 2, none⟩) := hD 15 rfl
          have c0 := HA2.out w hB
          unfold execOp
          simp only [h31]
          simp [go_sem, c0]
        · refine stepG_val rfl fun a w hF hB hD => ⟨rg_on (d := 27) rfl rfl (hD 11 rfl), ?_⟩
          have h1 : a.eval (.tmp 1) = .slice (some ⟨h, 0, none⟩) L.length d := (hF 1 (by decide)).trans rfl
          unfold execOp
          simp only [h1]
          simp [go_sem]
        · refine stepG_val rfl fun a w hF hB hD => ⟨rg_on (d := 27) rfl rfl (hD 11 rfl), ?_⟩
          have h5 : a.eval (.tmp 5) = .int .i64 (i : Int) := (hF 5 (by decide)).trans rfl
          unfold execOp
          simp only [h5]
          simp [go_sem]
        · refine stepG_val rfl fun a w hF hB hD => ⟨rg_on (d := 27) rfl rfl (hD 11 rfl), ?_⟩
          have h33 : a.eval (.tmp 33) = .slice (some ⟨h, 0, none⟩) L.length d := hD 17 rfl
          have h34 : a.eval (.tmp 34) = .int .i64 (i : Int) := hD 18 rfl
          unfold execOp
          simp only [h33, h34]
          simp [go_sem, hil]
        · refine stepG_val rfl fun a w hF hB hD => ⟨rg_on (d := 27) rfl rfl (hD 11 rfl), ?_⟩
          have h35 : a.eval (.tmp 35) = .pointer (some ⟨h, i * 3, none⟩) := hD 19 rfl
          unfold execOp
          simp only [h35]
          simp [go_sem]
        · refine stepG_val rfl fun a w hF hB hD => ⟨rg_on (d := 27) rfl rfl (hD 11 rfl), ?_⟩
          have h36 : a.eval (.tmp 36) = .pointer (some ⟨h, i * 3 + 2, none⟩) := hD 20 rfl
          have c0 := HB2.out w hB
          unfold execOp
          simp only [h36]
          simp [go_sem, c0]
        · refine stepG_val rfl fun a w hF hB hD => ⟨rg_on (d := 27) rfl rfl (hD 11 rfl), ?_⟩
          have h32 : a.eval (.tmp 32) = .int .i64 (n : Int) := hD 16 rfl
          have h37 : a.eval (.tmp 37) = .int .i64 (n : Int) := hD 21 rfl
          unfold execOp
          simp only [h32, h37]
          simp [go_sem]
        · refine stepG_val rfl fun a w hF hB hD => ⟨rg_free rfl _, ?_⟩
          have h27 : a.eval (.tmp 27) = .bool false := hD 11 rfl
          have h38 : a.eval (.tmp 38) = .bool false := hD 22 rfl
          unfold execOp
          simp only [h27, h38]
          simp [go_sem]
        · refine stepG_val rfl fun a w hF hB hD => ⟨rg_free rfl _, ?_⟩
          have h39 : a.eval (.tmp 39) = .bool false := hD 23 rfl
          unfold execOp
          simp only [h39]
          simp [go_sem]
        · refine stepG_val rfl fun a w hF hB hD => ⟨rg_on (d := 40) rfl rfl (hD 24 rfl), ?_⟩
          have h0 : a.eval (.tmp 0) = .slice (some ⟨g, 0, none⟩) L.length c := (hF 0 (by decide)).trans rfl
          unfold execOp
          simp only [h0]
          simp [go_sem]
        · refine stepG_val rfl fun a w hF hB hD => ⟨rg_on (d := 40) rfl rfl (hD 24 rfl), ?_⟩
          have h5 : a.eval (.tmp 5) = .int .i64 (i : Int) := (hF 5 (by decide)).trans rfl
          unfold execOp
          simp only [h5]
          simp [go_sem]
        · refine stepG_val rfl fun a w hF hB hD => ⟨rg_on (d := 40) rfl rfl (hD 24 rfl), ?_⟩
          have h41 : a.eval (.tmp 41) = .slice (some ⟨g, 0, none⟩) L.length c := hD 25 rfl
          have h42 : a.eval (.tmp 42) = .int .i64 (i : Int) := hD 26 rfl
          unfold execOp
          simp only [h41, h42]
          simp [go_sem, hil]
        · refine stepG_val rfl fun a w hF hB hD => ⟨rg_on (d := 40) rfl rfl (hD 24 rfl), ?_⟩
          have h43 : a.eval (.tmp 43) = .pointer (some ⟨g, i * 3, none⟩) := hD 27 rfl
          unfold execOp
          simp only [h43]
          simp [go_sem]
        · refine stepG_val rfl fun a w hF hB hD => ⟨rg_on (d := 40) rfl rfl (hD 24 rfl), ?_⟩
          have h44 : a.eval (.tmp 44) = .pointer (some ⟨g, i * 3 + 1, none⟩) := hD 28 rfl
          have c0 := HA1.out w hB
          unfold execOp
          simp only [h44]
          simp [go_sem, c0]
        · refine stepG_val rfl fun a w hF hB hD => ⟨rg_on (d := 40) rfl rfl (hD 24 rfl), ?_⟩
          have h1 : a.eval (.tmp 1) = .slice (some ⟨h, 0, none⟩) L.length d := (hF 1 (by decide)).trans rfl
          unfold execOp
          simp only [h1]
          simp [go_sem]
        · refine stepG_val rfl fun a w hF hB hD => ⟨rg_on (d := 40) rfl rfl (hD 24 rfl), ?_⟩
          have h5 : a.eval (.tmp 5) = .int .i64 (i : Int) := (hF 5 (by decide)).trans rfl
          unfold execOp
          simp only [h5]
          simp [go_sem]
        · refine stepG_val rfl fun a w hF hB hD => ⟨rg_on (d := 40) rfl rfl (hD 24 rfl), ?_⟩
          have h46 : a.eval (.tmp 46) = .slice (some ⟨h, 0, none⟩) L.length d := hD 30 rfl
          have h47 : a.eval (.tmp 47) = .int .i64 (i : Int) := hD 31 rfl
          unfold execOp
          simp only [h46, h47]
          simp [go_sem, hil]
        · refine stepG_val rfl fun a w hF hB hD => ⟨rg_on (d := 40) rfl rfl (hD 24 rfl), ?_⟩
          have h48 : a.eval (.tmp 48) = .pointer (some ⟨h, i * 3, none⟩) := hD 32 rfl
          unfold execOp
          simp only [h48]
          simp [go_sem]
        · refine stepG_val rfl fun a w hF hB hD => ⟨rg_on (d := 40) rfl rfl (hD 24 rfl), ?_⟩
          have h49 : a.eval (.tmp 49) = .pointer (some ⟨h, i * 3 + 1, none⟩) := hD 33 rfl
          have c0 := HB1.out w hB
          unfold execOp
          simp only [h49]
          simp [go_sem, c0]
        · refine stepG_call fun a w hF hB hD => ⟨rg_on (d := 40) rfl rfl (hD 24 rfl), 21, ?_⟩
          have h45 : a.eval (.tmp 45) = .slice q1 m c1 := hD 29 rfl
          have h50 : a.eval (.tmp 50) = .slice q2 m c2 := hD 34 rfl
          refine ⟨#[.slice q1 m c1, .slice q2 m c2], ?_, ?_⟩
          · unfold execOp
            simp [go_sem, rg_tmp h45, rg_tmp h50]
          · exact (HS.out w (below_next hb hB)).mono fun e w' ⟨h, k⟩ => ⟨_, h, rfl, k⟩
        · refine stepG_val rfl fun a w hF hB hD => ⟨rg_on (d := 40) rfl rfl (hD 24 rfl), ?_⟩
          have h51 : a.eval (.tmp 51) = .bool true := hD 35 rfl
          unfold execOp
          simp only [h51]
          simp [go_sem]
        · refine stepG_val rfl fun a w hF hB hD => ⟨rg_free rfl _, ?_⟩
          have h40 : a.eval (.tmp 40) = .bool false := hD 24 rfl
          have h52 : a.eval (.tmp 52) = .bool false := hD 36 rfl
          unfold execOp
          simp only [h40, h52]
          simp [go_sem]
      · intro u9 w9 hsp hb9
        have h53 : u9 53 = .bool false := hsp 37 (by decide)
        have B9 := below_next hb hb9
        clear hsp
        simp only [updG, Nat.reduceAdd, Nat.reduceLeDiff, Nat.reduceLT, and_true, and_false, ↓reduceIte, h53]
        go_wp2_with fail
        exact ⟨⟨i + 1, by simp, by omega, B9⟩, by simp [intN]; omega⟩
    · have hin : ¬ ((i : Int) < (L.length : Int)) := by omega
      go_wp2_with fail
      go_ret
      exact ⟨rfl, hb⟩
end Go.Proofs.YtfmanmidihofgaaDoor
