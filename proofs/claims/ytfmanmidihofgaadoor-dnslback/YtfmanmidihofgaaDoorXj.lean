/- The second writing's row. -/
import Derived.Test.YtfmanmidihofgaaDoorXi
import Derived.Deep.CutBlock
import Derived.Deep.RegionLaw
namespace Go.Proofs.YtfmanmidihofgaaDoor
open Go.ChangeShapes Go.WideShapes Go.RowKit Go.Sort

/-- The row under way, in its block. -/
structure RowB (R : Nat) (W : World) (k : Bs) (v : Value) (a : Nat) : Prop where
  c0 : W.cell? ⟨R, 0, none⟩ = some (.string (baS k))
  c1 : W.cell? ⟨R, 1, none⟩ = some v
  c2 : W.cell? ⟨R, 2, none⟩ = some (.int .i64 (a : Int))
  fz : ∀ o, W.frozen? ⟨R, o, none⟩ = false
  lt : R < W.heap.size
theorem RowB.next {R a : Nat} {W V : World} {k : Bs} {v : Value} (h : RowB R W k v a) (hb : Below (R + 1) W V) : RowB R V k v a :=
  ⟨(hb.cell (p := ⟨R, 0, none⟩) (by simp)).trans h.c0, (hb.cell (p := ⟨R, 1, none⟩) (by simp)).trans h.c1, (hb.cell (p := ⟨R, 2, none⟩) (by simp)).trans h.c2, fun o => (hb.frozen (p := ⟨R, o, none⟩) (by simp)).trans (h.fz o), by have := h.lt; have := hb.size; omega⟩
theorem growR {w0 wr w4 : World} {D n m g cap a : Nat} {o : Obj} {kk : Bs} {v : Value} {xs ys : List Value} (hb : Below w0.heap.size w0 wr) (r : RowB w0.heap.size wr kk v a) (hown : wr.ownsRow D 36 3 v n xs) (hD : w0.heap.size + 1 ≤ D) (hz : D ≤ wr.heap.size) (hgrow : (wr.alloc o).drew.grownBy w4 v.ownBlock) (hown4 : w4.ownsRow D 36 3 (.slice (some ⟨g, 0, none⟩) m cap) m ys) :
    RowB w0.heap.size (w4.setCell ⟨w0.heap.size, 1, none⟩ (.slice (some ⟨g, 0, none⟩) m cap)) kk (.slice (some ⟨g, 0, none⟩) m cap) a ∧ (w4.setCell ⟨w0.heap.size, 1, none⟩ (.slice (some ⟨g, 0, none⟩) m cap)).ownsRow D 36 3 (.slice (some ⟨g, 0, none⟩) m cap) m ys ∧ D ≤ (w4.setCell ⟨w0.heap.size, 1, none⟩ (.slice (some ⟨g, 0, none⟩) m cap)).heap.size ∧ Below w0.heap.size w0 (w4.setCell ⟨w0.heap.size, 1, none⟩ (.slice (some ⟨g, 0, none⟩) m cap)) := by
  have ag : v.ownBlock ≠ some w0.heap.size := fun e => by have := (hown.lt _ e).1; omega
  have hg := (hown4.lt g rfl).1
  have hsz : (wr.alloc o).drew.heap.size = wr.heap.size + 1 := by simp
  have hs4 := hgrow.size
  rw [hsz] at hs4
  have far : ∀ i, w4.cell? ⟨w0.heap.size, i, none⟩ = wr.cell? ⟨w0.heap.size, i, none⟩ := fun i => (hgrow.cell_far ⟨w0.heap.size, i, none⟩ (by rw [hsz]; show w0.heap.size < _; omega) (Ne.symm ag)).trans ((ball (o := o) (Below.refl wr.heap.size wr)).cell (p := ⟨w0.heap.size, i, none⟩) r.lt)
  have farf : ∀ i, w4.frozen? ⟨w0.heap.size, i, none⟩ = wr.frozen? ⟨w0.heap.size, i, none⟩ := fun i => (hgrow.frozen_far ⟨w0.heap.size, i, none⟩ (by rw [hsz]; show w0.heap.size < _; omega) (Ne.symm ag)).trans ((ball (o := o) (Below.refl wr.heap.size wr)).frozen (p := ⟨w0.heap.size, i, none⟩) r.lt)
  refine ⟨⟨(World.cell?_setCell_other _ _ _ _ (by simp)).trans ((far 0).trans r.c0), World.cell?_setCell_same _ _ _ ((far 1).trans r.c1), (World.cell?_setCell_other _ _ _ _ (by simp)).trans ((far 2).trans r.c2), fun i => ?_, ?_⟩, ?_, ?_, ?_⟩
  · rw [World.frozen?_setCell]; exact (farf i).trans (r.fz i)
  · simp [World.setCell]; omega
  · refine hown4.kept (grownBy_setCell2 w4 w0.heap.size 1 _) (.inr ?_)
    simp [Value.ownBlock]; omega
  · simp [World.setCell]; omega
  · exact ((hb.alloc hb.size o).drew.grown hgrow (by rw [hsz]; have := hb.size; omega) (fun j e => by have := (hown.lt j e).1; omega)).setCell (Nat.le_refl _) _
theorem growT {w0 wr w4 : World} {D c g cap a : Nat} {o : Obj} {kk : Bs} {p : Option Addr} {acc : List Tk} {t : Tk} {cs : List Value} (hb : Below w0.heap.size w0 wr) (r : RowB w0.heap.size wr kk (.slice p acc.length c) a) (hown : wr.ownsRow D 36 3 (.slice p acc.length c) acc.length (acc.flatMap cellsK)) (hD : w0.heap.size + 1 ≤ D) (hz : D ≤ wr.heap.size) (hgrow : (wr.alloc o).drew.grownBy w4 (Value.slice p acc.length c).ownBlock) (hown4 : w4.ownsRow D 36 3 (.slice (some ⟨g, 0, none⟩) (acc.length + 1) cap) (acc.length + 1) (acc.flatMap cellsK ++ cs)) (hcs : cellsK t = cs) :
    ∃ X, w4.setCell ⟨w0.heap.size, 1, none⟩ (.slice (some ⟨g, 0, none⟩) (acc.length + 1) cap) = X ∧ RowB w0.heap.size X kk (.slice (some ⟨g, 0, none⟩) (acc ++ [t]).length cap) a ∧ X.ownsRow D 36 3 (.slice (some ⟨g, 0, none⟩) (acc ++ [t]).length cap) (acc ++ [t]).length ((acc ++ [t]).flatMap cellsK) ∧ D ≤ X.heap.size ∧ Below w0.heap.size w0 X := by
  subst hcs
  obtain ⟨h1, h2, h3, h4⟩ := growR hb r hown hD hz hgrow hown4
  refine ⟨_, rfl, ?_, ?_, h3, h4⟩
  · rw [List.length_append]; exact h1
  · rw [List.length_append, List.flatMap_append, List.flatMap_cons, List.flatMap_nil, List.append_nil]; exact h2
theorem celA {V : World} {o : Obj} {b i : Nat} (h : b < V.heap.size) : (V.alloc o).drew.cell? ⟨b, i, none⟩ = V.cell? ⟨b, i, none⟩ := (ball (o := o) (Below.refl V.heap.size V)).cell (p := ⟨b, i, none⟩) h
theorem frzA {V : World} {o : Obj} {b i : Nat} (h : b < V.heap.size) : (V.alloc o).drew.frozen? ⟨b, i, none⟩ = V.frozen? ⟨b, i, none⟩ := (ball (o := o) (Below.refl V.heap.size V)).frozen (p := ⟨b, i, none⟩) h
set_option maxHeartbeats 16000000 in
set_option maxRecDepth 100000 in
theorem rowR_x (s : Bs) (a : Nat) (w : World) (hs : s.length ≤ 1000000) (ha : a + s.length ≤ 1000000) :
    Calls Tryd.prog 20 #[.agg #[.int .i64 1, .string (baS s), .int .i64 (a : Int)]] w fun e w' => RowE w (rowV s a) e w' := by
  have hk := keyN_le s
  have hsz := baS_size s
  have HV : Hid (rowV s a = if keyN s = 0 ∨ s[keyN s]? ≠ some 61 then .inr (1, a + keyN s) else match partsA (a + keyN s + 1) [] (a + keyN s + 1) (s.drop (keyN s + 1)) with | .inl ts => .inl (s.take (keyN s), ts, a) | .inr e => .inr e) := Lib.hid rfl
  have HI := Lib.hid (fun j (hj : j < keyN s) => keyN_in hj)
  have HO := Lib.hid (fun c => keyN_out (s := s) (c := c))
  generalize hR : rowV s a = RV at *
  generalize hK : keyN s = K at *
  clear hK
  go_enter Tryd.func20, Tryd.ntmps20
  go_upto_region 1 with fail
  generalize hw0 : ((w.alloc _).alloc _).alloc _ = w0
  have B0 : Below w.heap.size w w0 := hw0 ▸ ball (ball (ball (Below.refl _ _)))
  have c1 : w0.cell? ⟨w.heap.size, 1, none⟩ = some (.string (baS s)) := by subst hw0; simp [go_sem]
  have c2 : w0.cell? ⟨w.heap.size, 2, none⟩ = some (.int .i64 (a : Int)) := by subst hw0; simp [go_sem]
  have FF : FrR w.heap.size w0 := by subst hw0; exact ⟨by simp [go_sem], by simp [go_sem], by simp [go_sem], fun o => by simp [go_sem], by simp [go_sem], by simp [go_sem], fun o => by simp [go_sem], by simp⟩
  clear hw0
  go_upto_block 0 with fail
  go_cut [5] (fun iv wx => iv = .int .i64 (K : Int) ∧ wx = w0)
  case first =>
    go_wp2_with fail
    go_loopw [5] (fun iv wr => ∃ j : Nat, iv = .int .i64 (j : Int) ∧ j ≤ K ∧ wr = w0) (fun iv _ => s.length + 1 - intN iv)
    case atStart => exact ⟨0, rfl, Nat.zero_le _, rfl⟩
    case round =>
      obtain ⟨j, rfl, hj, rfl⟩ := hrel
      by_cases hjk : j < K
      · obtain ⟨c, hc, hkc⟩ := HI.out j hjk
        have hlt : j < s.length := by omega
        have hx := fun V => str_at8 s j hlt V
        rw [(List.getElem?_eq_some_iff.1 hc).2] at hx
        rw [keyB_num] at hkc
        clear hc HI HO HV
        generalize c.toNat = u at *
        by_cases h45 : (u : Int) = 45
        · have h45' : u = 45 := by omega
          subst h45'
          go_wp2_with fail
          refine ⟨⟨j + 1, by simp, by omega, by first | rfl | trivial⟩, by simp [intN]; omega⟩
        · have h1 : 97 ≤ (u : Int) := by simp [h45] at hkc; omega
          have h2 : (u : Int) ≤ 122 := by simp [h45] at hkc; omega
          clear hkc
          go_wp2_with fail
          refine ⟨⟨j + 1, by simp, by omega, by first | rfl | trivial⟩, by simp [intN]; omega⟩
      · obtain rfl : j = K := by omega
        by_cases hend : j = s.length
        · have hjn : ¬ ((j : Int) < (s.length : Int)) := by omega
          clear hend
          go_wp2_with fail
          go_meet
          exact ⟨by first | rfl | trivial, by first | rfl | trivial⟩
        · have hlt : j < s.length := by omega
          have hx := fun V => str_at8 s j hlt V
          have hkc := HO.out _ (List.getElem?_eq_getElem hlt)
          rw [keyB_num] at hkc
          clear HI HO HV
          generalize (s[j]'hlt).toNat = u at *
          have h45 : ¬ (u : Int) = 45 := fun e => by simp [e] at hkc
          by_cases h1 : 97 ≤ (u : Int)
          · have h2 : ¬ (u : Int) ≤ 122 := fun e => by simp [h1, e] at hkc
            clear hkc
            go_wp2_with fail
            go_meet
            exact ⟨by first | rfl | trivial, by first | rfl | trivial⟩
          · clear hkc
            go_wp2_with fail
            go_meet
            exact ⟨by first | rfl | trivial, by first | rfl | trivial⟩
  case rest =>
    obtain ⟨rfl, hww⟩ := hcut
    rw [hww]
    clear hww HI HO
    have hw1 : IntKind.i64.wrap ((a : Int) + (K : Int)) = (a : Int) + (K : Int) := by rw [IntKind.wrap_i64]; omega
    go_upto_region 5 with fail
    by_cases hbad : K = 0 ∨ s[K]? ≠ some 61
    · have HF : Hid (RV = .inr (1, a + K)) := Lib.hid (by rw [HV.out, if_pos hbad])
      clear HV
      go_cut [48] (fun bv wx => bv = .bool true ∧ wx = w0)
      case first =>
        by_cases h0 : K = 0
        · have h0' : ((K : Int) == 0) = true := by simp [h0]
          clear h0
          go_wp2_with fail
          go_meet
          exact ⟨by first | rfl | trivial | simp, by first | rfl | trivial⟩
        · by_cases h1 : K = s.length
          · have h0' : ((K : Int) == 0) = false := by simp [h0]
            have h1' : ((K : Int) == (s.length : Int)) = true := by simp [h1]
            have h1'' : ((K : Int) == ((baS s).size : Int)) = true := by simp [h1, hsz]
            clear h0 h1 hsz
            go_wp2_with fail
            go_meet
            exact ⟨by first | rfl | trivial | simp, by first | rfl | trivial⟩
          · have hlt2 : K < s.length := by omega
            have hx := fun V => str_at8 s K hlt2 V
            have hne : ¬ (((s[K]'hlt2).toNat : Int) = 61) := fun e => by
              rcases hbad with h | h
              · exact h0 h
              · exact h (by rw [List.getElem?_eq_getElem hlt2]; congr 1; apply UInt8.toNat_inj.1; show (s[K]'hlt2).toNat = 61; omega)
            generalize (s[K]'hlt2).toNat = u at *
            go_wp2_with fail
            go_meet
            exact ⟨by first | rfl | trivial | (simp [hne]), by first | rfl | trivial⟩
      case rest =>
        obtain ⟨rfl, hww⟩ := hcut
        rw [hww]
        clear hww hbad
        go_wp2_with fail
        refine (syntaxR_x _ _).mono ?_
        rintro e w5 ⟨rfl, hb5⟩
        have B5 := below_next B0 hb5
        have F5 : FrR w.heap.size w5 := FF.next (hb5.mono FF.lt)
        obtain ⟨d0, d1, d2, df, e0, e1, ef, lt⟩ := F5
        go_wp2_with fail
        generalize hw6 : World.setCell _ _ _ = w6
        obtain ⟨⟨s0, s1, s2, s3, s4⟩, s5, _⟩ := five_plain ⟨d0, d1, d2, df, e0, e1, ef, lt⟩ hw6
        clear hw6 d0 d1 d2 df e0 e1 ef
        exact bodyPost_ret (v := .tuple #[.agg #[.string ⟨#[]⟩, .slice none 0 0, .int .i64 0], .agg #[.int .i64 1, .int .i64 ((a : Int) + (K : Int))]]) (by simp [results, Tryd.results20, go_sem, s0, s1, s2, s3, s4]) rfl ⟨s5 w (Nat.le_refl _) B5, by rw [HF.out]; show _ = _; rw [show ((a + K : Nat) : Int) = (a : Int) + (K : Int) by omega]; rfl⟩
    · have hK0 : K ≠ 0 := fun e => hbad (Or.inl e)
      have h61 : s[K]? = some 61 := Classical.not_not.1 fun e => hbad (Or.inr e)
      have hlt2 : K < s.length := (List.getElem?_eq_some_iff.1 h61).1
      have hx := fun V => str_at8 s K hlt2 V
      rw [(List.getElem?_eq_some_iff.1 h61).2] at hx
      have HF := Lib.hid (HV.out.trans (if_neg hbad))
      have HP : Hid (partsA (a + K + 1) [] (a + K + 1) (s.drop (K + 1)) = preT [] (restP s a (K + 1) (K + 1))) := Lib.hid (by rw [preT_nil, restP_start s a (K + 1) (by omega)]; rfl)
      have HKK : Hid (∀ k y, partsA (a + K + 1) [] (a + K + 1) (s.drop (K + 1)) = .inr (k, y) → k = 1 ∨ k = 2) := fun k y h => (partsA_bad _ _ [] _ k y (by simp) h).2
      have S1 := fun V => sliceTo s K (by omega) V
      have hw3 : IntKind.i64.wrap ((K : Int) + 1) = (K : Int) + 1 := by rw [IntKind.wrap_i64]; omega
      clear HV hbad h61
      generalize hPA : partsA (a + K + 1) [] (a + K + 1) (s.drop (K + 1)) = PA at *
      clear hPA
      go_cut [48] (fun bv wx => bv = .bool false ∧ wx = w0)
      case first =>
        have h0' : ((K : Int) == 0) = false := by simp [hK0]
        have h1' : ((K : Int) == (s.length : Int)) = false := by simp; omega
        have h1'' : ((K : Int) == ((baS s).size : Int)) = false := by simp [hsz]; omega
        clear hsz
        go_wp2_with fail
        go_meet
        exact ⟨by first | rfl | trivial | simp, by first | rfl | trivial⟩
      case rest =>
        obtain ⟨rfl, hww⟩ := hcut
        rw [hww]
        clear hww hx hK0
        have lt := FF.lt
        have m0 : w.heap.size < w0.heap.size := by omega
        have m1 : ¬ (w.heap.size = w0.heap.size) := by omega
        have m2 : ¬ (w0.heap.size = w.heap.size) := by omega
        go_upto_region 7 with fail
        go_region
        generalize hw2 : World.drew _ = w2
        have b02 : Below w0.heap.size w0 w2 := hw2 ▸ (ball (Below.refl _ _)).drew
        have R2 : RowB w0.heap.size w2 (s.take K) (.slice none 0 0) a := by subst hw2; exact ⟨by simp [go_sem], by simp [go_sem], by simp [go_sem], fun o => by simp [go_sem], by simp⟩
        have hz02 := b02.size
        have b02' : Hid (w0.heap.size + 1 ≤ w2.heap.size) := Lib.hid (by subst hw2; simp)
        clear hw2 m1 m2 S1
        go_wp2_with fail
        go_loopw [7, 8] (fun fv kv wr => ∃ (acc : List Tk) (f k : Nat) (p : Option Addr) (c : Nat), fv = .int .i64 (f : Int) ∧ kv = .int .i64 (k : Int) ∧ f ≤ k ∧ k ≤ s.length + 1 ∧ acc.length ≤ k ∧ Hid (PA = preT acc (restP s a f k)) ∧ RowB w0.heap.size wr (s.take K) (.slice p acc.length c) a ∧ wr.ownsRow w2.heap.size 36 3 (.slice p acc.length c) acc.length (acc.flatMap cellsK) ∧ w2.heap.size ≤ wr.heap.size ∧ Below w0.heap.size w0 wr) (fun _ kv _ => s.length + 2 - intN kv)
        case atStart => exact ⟨[], K + 1, K + 1, none, 0, by simp, by simp, Nat.le_refl _, by omega, Nat.zero_le _, HP, R2, World.ownsRow_nil _ _ _ _, Nat.le_refl _, b02⟩
        case round =>
          clear R2 b02 HP
          obtain ⟨acc, f, k, p, c, rfl, rfl, hfk, hk1, hak, hp, hr, hown, hz2, hb⟩ := hrel
          have BW : Below w.heap.size w wr := below_next B0 hb
          have FW : FrR w.heap.size wr := FF.next (hb.mono lt)
          have c2' : wr.cell? ⟨w.heap.size, 2, none⟩ = some (.int .i64 (a : Int)) := (olds hb _ _ (by omega)).trans c2
          have hwk : IntKind.i64.wrap ((k : Int) + 1) = (k : Int) + 1 := by rw [IntKind.wrap_i64]; omega
          have hwa : IntKind.i64.wrap ((a : Int) + (k : Int)) = (a : Int) + (k : Int) := by rw [IntKind.wrap_i64]; omega
          have hwf : IntKind.i64.wrap ((a : Int) + (f : Int)) = (a : Int) + (f : Int) := by rw [IntKind.wrap_i64]; omega
          have hwd : IntKind.i64.wrap ((k : Int) - (f : Int)) = (k : Int) - (f : Int) := by rw [IntKind.wrap_i64]; omega
          clear FF B0 c1 c2
          by_cases hkl : k ≤ s.length
          · by_cases hgo : k < s.length ∧ s[k]? ≠ some 44
            · obtain ⟨hlt, hne⟩ := hgo
              have hx := fun V => str_at8 s k hlt V
              have hget := List.getElem?_eq_getElem hlt
              generalize hu : s[k]'hlt = b at *
              have hb44 : b ≠ 44 := fun e => hne (by rw [hget, e])
              have hn44 : ¬ (b.toNat : Int) = 44 := fun e => hb44 ((is44 b).2 e)
              by_cases hpb : prtB b = true
              · have HN : Hid (PA = preT acc (restP s a f (k + 1))) := Lib.hid (by rw [hp.out, restP_go hget hfk hb44 hpb])
                rw [prt_num] at hpb
                clear hp hne hget hb44 hu
                generalize b.toNat = u at *
                have h1 : 32 ≤ (u : Int) := by simp at hpb; omega
                have h2 : (u : Int) ≤ 126 := by simp at hpb; omega
                clear hpb
                go_wp2_with fail
                refine ⟨⟨acc, f, k + 1, p, c, rfl, by simp, by omega, by omega, by omega, HN, hr, hown, hz2, hb⟩, by simp [intN]; omega⟩
              · have hpb' : prtB b = false := by simpa using hpb
                have HN : Hid (PA = .inr (1, a + k)) := Lib.hid (by rw [hp.out, restP_bad hget hb44 hpb']; rfl)
                rw [prt_num] at hpb'
                clear hp hne hget hb44 hu hpb
                generalize b.toNat = u at *
                by_cases h1 : 32 ≤ (u : Int)
                · have h2 : ¬ (u : Int) ≤ 126 := fun e => by simp [h1, e] at hpb'
                  clear hpb'
                  go_wp2_with fail
                  refine (syntaxR_x _ _).mono ?_
                  rintro e w5 ⟨rfl, hb5⟩
                  have B5 := below_next BW hb5
                  have F5 : FrR w.heap.size w5 := FW.next (hb5.mono FW.lt)
                  obtain ⟨d0, d1, d2, df, e0, e1, ef, lt'⟩ := F5
                  go_wp2_with fail
                  generalize hw6 : World.setCell _ _ _ = w6
                  obtain ⟨⟨s0, s1, s2, s3, s4⟩, s5, _⟩ := five_plain ⟨d0, d1, d2, df, e0, e1, ef, lt'⟩ hw6
                  clear hw6 d0 d1 d2 df e0 e1 ef
                  exact bodyPost_ret (v := .tuple #[.agg #[.string ⟨#[]⟩, .slice none 0 0, .int .i64 0], .agg #[.int .i64 1, .int .i64 ((a : Int) + (k : Int))]]) (by simp [results, Tryd.results20, go_sem, s0, s1, s2, s3, s4]) rfl ⟨s5 w (Nat.le_refl _) B5, by rw [HF.out, HN.out]; show _ = _; rw [show ((a + k : Nat) : Int) = (a : Int) + (k : Int) by omega]; rfl⟩
                · clear hpb'
                  go_wp2_with fail
                  refine (syntaxR_x _ _).mono ?_
                  rintro e w5 ⟨rfl, hb5⟩
                  have B5 := below_next BW hb5
                  have F5 : FrR w.heap.size w5 := FW.next (hb5.mono FW.lt)
                  obtain ⟨d0, d1, d2, df, e0, e1, ef, lt'⟩ := F5
                  go_wp2_with fail
                  generalize hw6 : World.setCell _ _ _ = w6
                  obtain ⟨⟨s0, s1, s2, s3, s4⟩, s5, _⟩ := five_plain ⟨d0, d1, d2, df, e0, e1, ef, lt'⟩ hw6
                  clear hw6 d0 d1 d2 df e0 e1 ef
                  exact bodyPost_ret (v := .tuple #[.agg #[.string ⟨#[]⟩, .slice none 0 0, .int .i64 0], .agg #[.int .i64 1, .int .i64 ((a : Int) + (k : Int))]]) (by simp [results, Tryd.results20, go_sem, s0, s1, s2, s3, s4]) rfl ⟨s5 w (Nat.le_refl _) B5, by rw [HF.out, HN.out]; show _ = _; rw [show ((a + k : Nat) : Int) = (a : Int) + (k : Int) by omega]; rfl⟩
            · have hct : k < s.length → s[k]? = some 44 := fun hlt => Classical.not_not.1 fun e => hgo ⟨hlt, e⟩
              have HC := Lib.hid (hp.out.trans (by rw [restP_cut hkl hct]))
              clear hp
              go_upto_region 12 with fail
              go_cut [79] (fun bv wx => bv = .bool false ∧ wx = wr)
              case first =>
                by_cases hlt : k < s.length
                · have hx := fun V => str_at8 s k hlt V
                  rw [(List.getElem?_eq_some_iff.1 (hct hlt)).2] at hx
                  clear hct hgo
                  go_wp2_with fail
                  go_meet
                  exact ⟨by first | rfl | trivial | simp, by first | rfl | trivial⟩
                · have hkn : ¬ ((k : Int) < (s.length : Int)) := by omega
                  clear hct hgo
                  go_wp2_with fail
                  go_meet
                  exact ⟨by first | rfl | trivial | simp, by first | rfl | trivial⟩
              case rest =>
                obtain ⟨rfl, hww⟩ := hcut
                rw [hww]
                clear hww hct hgo
                by_cases hlong : 255 < k - f
                · have HN : Hid (PA = .inr (2, a + f)) := Lib.hid (by rw [HC.out, if_pos hlong]; rfl)
                  have hlo : (255 : Int) < (k : Int) - (f : Int) := by omega
                  clear HC hlong
                  obtain ⟨d0, d1, d2, df, e0, e1, ef, lt'⟩ := FW
                  go_wp2_with fail
                  go_region
                  generalize hw6 : World.drew _ = w6
                  obtain ⟨⟨s0, s1, s2, s3, s4⟩, s5, _⟩ := five_set ⟨d0, d1, d2, df, e0, e1, ef, lt'⟩ hw6
                  clear hw6 d0 d1 d2 df e0 e1 ef
                  go_wp2_with fail
                  exact bodyPost_ret (v := .tuple #[.agg #[.string ⟨#[]⟩, .slice none 0 0, .int .i64 0], .agg #[.int .i64 2, .int .i64 ((a : Int) + (f : Int))]]) (by simp [results, Tryd.results20, go_sem, s0, s1, s2, s3, s4]) rfl ⟨s5 w (Nat.le_refl _) BW, by rw [HF.out, HN.out]; show _ = _; rw [show ((a + f : Nat) : Int) = (a : Int) + (f : Int) by omega]; rfl⟩
                · have HN : Hid (PA = preT (acc ++ [(6, pieceV s f k, a + f)]) (restP s a (k + 1) (k + 1))) := Lib.hid (by rw [HC.out, if_neg hlong, preT_preT])
                  have hlo : ¬ (255 : Int) < (k : Int) - (f : Int) := by omega
                  have SM : ∀ V, (Instr.slice 9 (.string (baS s)) (some (.int .i64 (f : Int))) (some (.int .i64 (k : Int))) none).run Tryd.prog V = .ok (.string (baS (pieceV s f k))) V := fun V => by
                    have h := sliceMid s f k hfk hkl V
                    rwa [show (s.drop f).take (k - f) = pieceV s f k by unfold pieceV; rw [List.drop_take]] at h
                  have ag : (Value.slice p acc.length c).ownBlock ≠ some w0.heap.size := fun e => by have := (hown.lt _ e).1; have := b02'.out; omega
                  have ak : (Value.slice p acc.length c).ownBlock ≠ some w.heap.size := fun e => by have := (hown.lt _ e).1; omega
                  have ecell : cellsK (6, pieceV s f k, a + f) = [.int .i64 6, .string (baS (pieceV s f k)), .int .i64 ((a : Int) + (f : Int))] := by simp [cellsK]
                  have HE := Lib.hid ecell
                  obtain ⟨r0, r1, r2, rf, rl⟩ := hr
                  have rf1 := rf 1
                  have lz : w.heap.size < wr.heap.size := by omega
                  have q1 : ¬ (w0.heap.size = wr.heap.size) := by omega
                  have q2 : ¬ (w.heap.size = wr.heap.size) := by omega
                  obtain ⟨i0, hi, hz0, hz1, hz2'⟩ := info_parts infoT10
                  clear HC hlong ecell
                  generalize pieceV s f k = T at *
                  go_upto_region 17 with fail
                  go_region_law
                    ((refine step_append_lies _ (by rfl) _ _ _ (by rfl) w2.heap.size 36 i0 (.agg #[.int .i64 0, .string .empty, .int .i64 0]) 3 32 Tryd.underlying30 hi hz0 hz1 hz2' rfl (by decide) (.slice p acc.length c) acc.length (acc.flatMap cellsK) (by rfl) ((hown.alloc _).drew)
                        ⟨wr.heap.size, 0, none⟩ 1 1 [.int .i64 6, .string (baS T), .int .i64 ((a : Int) + (f : Int))] (by rfl) (by rfl) (World.news_of_block (cs := #[.int .i64 6, .string (baS T), .int .i64 ((a : Int) + (f : Int))]) (t := 36) (fr := (0, 0)) (heap_alloc_new wr _)) (by simp [Value.oneCell'])
                        (by omega) (by unfold maxLen; omega) (by omega) (by simp; omega) (wr.heap.size + 1) (by simp) ?_; intro g3 cap w4 hown4 hgrow hat hlt4; have hf4 : w4.frozen? ⟨w0.heap.size, 1, none⟩ = false := (hgrow.frozen_far ⟨w0.heap.size, 1, none⟩ (by simp; omega) (Ne.symm ag)).trans ((frzA rl).trans rf1); have hc4 : w4.cell? ⟨w0.heap.size, 1, none⟩ = some (.slice p acc.length c) := (hgrow.cell_far ⟨w0.heap.size, 1, none⟩ (by simp; omega) (Ne.symm ag)).trans ((celA rl).trans r1)))
                  all_goals
                    obtain ⟨X5, hX5, RX, OX, SX, BX⟩ := growT (t := (6, T, a + f)) hb ⟨r0, r1, r2, rf, rl⟩ hown b02'.out hz2 hgrow hown4 HE.out
                    rw [hX5]
                    have hln : (acc ++ [((6, T, a + f) : Tk)]).length = acc.length + 1 := by rw [List.length_append]; rfl
                    have HLN := Lib.hid hln
                    clear hgrow hown4 hf4 hc4 hX5 hln r0 r1 r2 rf rf1 hown hb c2' hat hlt4 FW SM
                    generalize acc ++ [((6, T, a + f) : Tk)] = acc' at *
                    go_wp2_with fail
                    exact ⟨⟨acc', k + 1, k + 1, some ⟨g3, 0, none⟩, cap, rfl, rfl, Nat.le_refl _, by omega, by rw [HLN.out]; omega, HN, RX, OX, SX, BX⟩, by simp [intN]; omega⟩
          · have HN : Hid (PA = .inl acc) := Lib.hid (by rw [hp.out, restP_off s a f k (by omega)]; show Sum.inl (acc ++ []) = _; rw [List.append_nil])
            have hkn : ¬ ((k : Int) ≤ (s.length : Int)) := by omega
            obtain ⟨d0, d1, d2, df, e0, e1, ef, lt'⟩ := FW
            obtain ⟨r0, r1, r2, rf, rl⟩ := hr
            have hfr : ∀ g, p = some ⟨g, 0, none⟩ → w2.heap.size ≤ g ∧ g < wr.heap.size := fun g hg => by subst hg; exact hown.lt g rfl
            have hT := tokK_own hown
            clear hp hown
            go_wp2_with fail
            generalize hw6 : World.setCell _ _ _ = w6
            obtain ⟨⟨s0, s1, s2, s3, s4⟩, s5, s6, s7⟩ := five_plain ⟨d0, d1, d2, df, e0, e1, ef, lt'⟩ hw6
            clear hw6 d0 d1 d2 df e0 e1 ef
            refine bodyPost_ret (v := .tuple #[.agg #[.string (baS (s.take K)), .slice p acc.length c, .int .i64 (a : Int)], .agg #[.int .i64 0, .int .i64 0]]) (by simp [results, Tryd.results20, go_sem, s0, s1, s2, s3, s4]) rfl ⟨s5 w (Nat.le_refl _) BW, ?_⟩
            rw [HF.out, HN.out]
            refine ⟨p, c, rfl, fun j t hj => ?_, fun g hg => ⟨by have := (hfr g hg).1; omega, by have := (hfr g hg).2; omega⟩⟩
            obtain ⟨g, eg, hg, a0, a1, a2⟩ := hT j t hj
            have h3 := s7 g (by have := (hfr g eg).1; omega)
            exact ⟨g, eg, by omega, (h3 _).trans a0, (h3 _).trans a1, (h3 _).trans a2⟩
end Go.Proofs.YtfmanmidihofgaaDoor
