/- rang.Cover: the row of the greatest prefixes. -/
import Derived.OneCell
import Derived.Test.YtmnemjhkmllniaaGreatDoorzGr
import Derived.Test.YtmnemjhkmllniaaGreatDoorzPg
namespace Go.Proofs.YtmnemjhkmllniaaGreatDoor
open Go.ChangeShapes Go.WideShapes Go.RowKit Go.Sort

theorem okP_k {u : Int} {z k : Nat} (h : okV u z = true) (hk : k ≤ bitsV u) (hd : 2 ^ k ∣ z) : okP u z ((bitsV u : Int) - k) = true ∧ lastX u z ((bitsV u : Int) - k) = z + (2 ^ k - 1) := by
  have e : hostK u ((bitsV u : Int) - k) = k := by unfold hostK; omega
  have := okP_of (n := (bitsV u : Int) - k) h (by omega) (by omega) (by rw [e]; exact cutK_dvd.2 hd)
  exact ⟨this, by unfold lastX; rw [if_pos this, e]⟩
theorem widK_bits {u : Int} {z y : Nat} (h : okR u z u y = true) (hy : y < 340282366920938463463374607431768211456) : widK z y ≤ bitsV u := by
  obtain ⟨_, h2, _, h4⟩ := okR_is h
  have hl := okV_lt h2 hy
  have hf := (widK_fits h4).2
  by_cases e : widK z y ≤ bitsV u
  · exact e
  · have := pow_le (show bitsV u + 1 ≤ widK z y by omega)
    have := two_pos (bitsV u)
    rw [Nat.pow_succ] at *; omega
def coverR (v : Int) (x : Nat) (u : Int) (y : Nat) : List (Nat × Nat) := if okR v x u y = true then coverX x y else []
theorem coverR_yes {v : Int} {x : Nat} {u : Int} {y : Nat} (h : okR v x u y = true) : coverR v x u y = coverX x y := if_pos h
theorem coverR_no {v : Int} {x : Nat} {u : Int} {y : Nat} (h : okR v x u y = false) : coverR v x u y = [] := if_neg (by simp [h])
theorem coverR_count {v : Int} {x : Nat} {u : Int} {y : Nat} (hy : y < 340282366920938463463374607431768211456) : (coverR v x u y).length ≤ 258 := by
  unfold coverR; split
  · exact cover_count hy x
  · simp
theorem cover_next {u : Int} {z y : Nat} (h : okR u z u y = true) (hy : y < 340282366920938463463374607431768211456) :
    coverR (nextV u (z + (2 ^ widK z y - 1))) (nextX u (z + (2 ^ widK z y - 1))) u y = coverX (z + 2 ^ widK z y) y := by
  obtain ⟨h1, h2, _, h4⟩ := okR_is h
  have hl := okV_lt h2 hy
  have hf := (widK_fits h4).2
  have hp := two_pos (widK z y)
  generalize 2 ^ widK z y = q at *
  have e : z + (q - 1) + 1 = z + q := by omega
  by_cases hn : z + q ≤ y
  · have hb : nextB u (z + (q - 1)) = true := by
      unfold nextB
      rw [okV_of (okV_v h1) (show z + (q - 1) < 2 ^ bitsV u by omega), e, okV_of (okV_v h1) (show z + q < 2 ^ bitsV u by omega)]
      simp [addB]; omega
    rw [show nextV u (z + (q - 1)) = u from if_pos hb, show nextX u (z + (q - 1)) = z + q by unfold nextX; rw [if_pos hb, e]]
    exact coverR_yes (okR_of (okV_of (okV_v h1) (show z + q < 2 ^ bitsV u by omega)) h2 hn)
  · rw [coverX_no (by omega)]
    apply coverR_no
    cases hb : nextB u (z + (q - 1)) with
    | false =>
      rw [show nextV u (z + (q - 1)) = 0 by simp [nextV, hb], show nextX u (z + (q - 1)) = 0 by simp [nextX, hb]]
      rfl
    | true =>
      rw [show nextV u (z + (q - 1)) = u from if_pos hb, show nextX u (z + (q - 1)) = z + q by unfold nextX; rw [if_pos hb, e]]
      simp [okR, ltA, ltB]; intros; omega
theorem nextX_lt (v : Int) (x : Nat) : nextX v x < 340282366920938463463374607431768211456 := by
  unfold nextX nextB addB; split
  · rename_i h; simp at h; omega
  · decide
/-- The cells of a row of prefixes. -/
def cellsP (u : Int) (p : Nat × Nat) : List Value := [.int .i64 u, .int .u64 (hiQ p.1), .int .u64 (loQ p.1), .int .i64 ((bitsV u : Int) - p.2)]
def RowP (w : World) (g : Nat) (u : Int) (l : List (Nat × Nat)) : Prop := ∀ (j a k : Nat), l[j]? = some (a, k) → w.cell? ⟨g, j * 4, none⟩ = some (.int .i64 u) ∧ w.cell? ⟨g, j * 4 + 1, none⟩ = some (.int .u64 (hiQ a)) ∧ w.cell? ⟨g, j * 4 + 2, none⟩ = some (.int .u64 (loQ a)) ∧ w.cell? ⟨g, j * 4 + 3, none⟩ = some (.int .i64 ((bitsV u : Int) - k))
theorem RowP.below {w w' : World} {g : Nat} {u : Int} {l : List (Nat × Nat)} (h : RowP w g u l) (hb : Below w.heap.size w w') (hg : g < w.heap.size) : RowP w' g u l := fun j a k hj => by
  obtain ⟨h0, h1, h2, h3⟩ := h j a k hj
  exact ⟨(olds hb g _ hg).trans h0, (olds hb g _ hg).trans h1, (olds hb g _ hg).trans h2, (olds hb g _ hg).trans h3⟩
theorem flat4 (u : Int) : ∀ (l : List (Nat × Nat)) (j i : Nat) (p : Nat × Nat), l[j]? = some p → i < 4 → (l.flatMap (cellsP u))[j * 4 + i]? = (cellsP u p)[i]?
  | [], j, i, p, h, _ => by simp at h
  | q :: r, 0, i, p, h, hi => by
    simp at h; subst h
    rw [List.flatMap_cons, List.getElem?_append_left (by simp [cellsP]; omega), Nat.zero_mul, Nat.zero_add]
  | q :: r, j + 1, i, p, h, hi => by
    rw [List.flatMap_cons, List.getElem?_append_right (by simp [cellsP]; omega), show (j + 1) * 4 + i - (cellsP u q).length = j * 4 + i by simp [cellsP]; omega]
    exact flat4 u r j i p (by simpa using h) hi
theorem rowP_own {w : World} {base g c : Nat} {u : Int} {l : List (Nat × Nat)} (h : w.ownsRow base 34 4 (.slice (some ⟨g, 0, none⟩) l.length c) l.length (l.flatMap (cellsP u))) : RowP w g u l := fun j a k hj => by
  have hlt : j < l.length := (List.getElem?_eq_some_iff.1 hj).1
  refine ⟨?_, ?_, ?_, ?_⟩
  · have := h.cellAt (j * 4) (by omega); rw [this]; exact flat4 u l j 0 _ hj (by decide)
  · rw [h.cellAt (j * 4 + 1) (by omega), flat4 u l j 1 _ hj (by decide)]; rfl
  · rw [h.cellAt (j * 4 + 2) (by omega), flat4 u l j 2 _ hj (by decide)]; rfl
  · rw [h.cellAt (j * 4 + 3) (by omega), flat4 u l j 3 _ hj (by decide)]; rfl
/-- What Cover hands back. -/
def CoverE (w : World) (u : Int) (l : List (Nat × Nat)) (e : Ending) (w' : World) : Prop := Below w.heap.size w w' ∧ ∃ p c, e = .returned (.slice p l.length c) ∧ l.length ≤ c ∧ ((l = [] ∧ p = none ∧ c = 0) ∨ ∃ g, p = some ⟨g, 0, none⟩ ∧ w.heap.size ≤ g ∧ g < w'.heap.size ∧ RowP w' g u l)
theorem infoP : (Tryz.prog.info? 34).map (fun i => (i.zero, i.size, i.bytes)) = some (some (.agg #[.int .i64 0, .int .u64 0, .int .u64 0, .int .i64 0]), 4, 32) := by kernel_rfl
theorem four_new {w : World} {a b c d : Value} {t : TypeId} : ∀ (j : Nat) (x : Value), [a, b, c, d][j]? = some x → (w.alloc (.cells #[a, b, c, d] t)).cell? ((⟨w.heap.size, 0, none⟩ : Addr).add j) = some x := by
  intro j x hj
  match j, hj with
  | 0, hj => simp at hj; subst hj; simp [Addr.add]
  | 1, hj => simp at hj; subst hj; simp [Addr.add]
  | 2, hj => simp at hj; subst hj; simp [Addr.add]
  | 3, hj => simp at hj; subst hj; simp [Addr.add]
theorem four_newH {w : World} {a b c d : Value} {t : TypeId} {H : Nat} (hH : w.heap.size = H) : ∀ (j : Nat) (x : Value), [a, b, c, d][j]? = some x → (w.alloc (.cells #[a, b, c, d] t)).cell? ((⟨H, 0, none⟩ : Addr).add j) = some x := hH ▸ four_new
theorem grown_keep {X w4 : World} {row : Option Nat} (hg : X.grownBy w4 row) (b : Nat) (hlt : b < X.heap.size) (hne : some b ≠ row) : (∀ o, w4.cell? ⟨b, o, none⟩ = X.cell? ⟨b, o, none⟩) ∧ (∀ o, w4.frozen? ⟨b, o, none⟩ = X.frozen? ⟨b, o, none⟩) ∧ b < w4.heap.size :=
  ⟨fun o => hg.cell_far ⟨b, o, none⟩ hlt hne, fun o => hg.frozen_far ⟨b, o, none⟩ hlt hne, Nat.lt_of_lt_of_le hlt hg.size⟩
set_option maxHeartbeats 8000000 in
set_option maxRecDepth 100000 in
theorem cover_x (v : Int) (x : Nat) (u : Int) (y : Nat) (w : World) (ht : TabOk w) (hx : x < 340282366920938463463374607431768211456) (hy : y < 340282366920938463463374607431768211456) :
    Calls Tryz.prog 20 #[rgV v x u y] w fun e w' => CoverE w u (coverR v x u y) e w' := by
  obtain ⟨i0, hi, hz0, hz1, hz2⟩ := info_parts infoP
  have HX := Lib.hid hx
  have HY := Lib.hid hy
  have HT := Lib.hid ht
  obtain ⟨R, hR⟩ : ∃ R, coverR v x u y = R := ⟨_, rfl⟩
  have HN : Hid (R.length ≤ 258) := hR ▸ coverR_count (v := v) (x := x) (u := u) hy
  rw [hR]
  have HR := Lib.hid hR
  clear hx hy ht hR
  obtain ⟨W, hW⟩ : ∃ W, W = (w.alloc (.cells #[.int .i64 v, .int .u64 (hiQ x), .int .u64 (loQ x), .int .i64 u, .int .u64 (hiQ y), .int .u64 (loQ y)] 30)).alloc (.cells #[.int .i64 v, .int .u64 (hiQ x), .int .u64 (loQ x), .int .i64 u, .int .u64 (hiQ y), .int .u64 (loQ y)] 30) := ⟨_, rfl⟩
  have R0 := rl_two hW
  have RF : ∀ o, W.frozen? ⟨w.heap.size + 1, o, none⟩ = false := fun o => by rw [hW]; simp [go_sem]
  have BW : Below w.heap.size w W := by rw [hW]; exact below2 _ _ _
  go_enter Tryz.func20, Tryz.ntmps20
  go_wp2_with fail
  rw [← hW]
  clear hW
  go_loopw [3, 4] (fun sv lv wr => ∃ (acc : List (Nat × Nat)) (a : Int) (z : Nat) (p : Option Addr) (c B : Nat), sv = .slice p acc.length c ∧ lv = .pointer (some ⟨B, 0, none⟩) ∧ Hid (R = acc ++ coverR a z u y) ∧ Hid (z < 340282366920938463463374607431768211456) ∧ wr.ownsRow w.heap.size 34 4 (.slice p acc.length c) acc.length (acc.flatMap (cellsP u)) ∧ (∀ g, (Value.slice p acc.length c).ownBlock = some g → g < B) ∧ Rl wr B a (hiQ z) (loQ z) u (hiQ y) (loQ y) ∧ (∀ o, wr.frozen? ⟨B, o, none⟩ = false) ∧ w.heap.size ≤ B ∧ Below w.heap.size w wr)
    (fun sv _ _ => R.length - lenOf sv)
  case atStart => exact ⟨[], v, x, none, 0, w.heap.size + 1, rfl, rfl, HR.out.symm, HX, World.ownsRow_nil _ _ _ _, fun g hg => (by cases hg), R0, RF, Nat.le_succ _, BW⟩
  case round =>
    clear R0 RF BW
    obtain ⟨acc, a, z, p, c, B, rfl, rfl, hacc, hz, hown, hpB, R1, rf, hBw, hb⟩ := hrel
    have HT1 : Hid (TabOk wr) := HT.out.below hb HT.out.pos
    obtain ⟨c0, c1, c2, c3, c4, c5, lB⟩ := id R1
    cases hk : okR a z u y
    · have HF : Hid (R = acc) := by show _ = _; rw [hacc.out, coverR_no hk, List.append_nil]
      have HK := Lib.hid hk
      clear hk hacc
      go_wp2_with fail
      refine (okRang_is _ _ _ _ _ _ HK.out).mono ?_
      rintro e w1 ⟨rfl, hb1⟩
      have hown1 := own_next hown hb1
      have B1 := below_next hb hb1
      clear c0 c1 c2 c3 c4 c5 R1 rf hown hb
      go_wp2
      go_ret
      refine ⟨B1, ?_⟩
      rw [HF.out]
      refine ⟨p, c, rfl, ?_, ?_⟩
      · rcases hown1.2 with ⟨_, h0⟩ | ⟨g, cap, cur, hv, b, hg2, hcap, _⟩
        · omega
        · injection hv with _ _ e; omega
      · rcases hown1.2 with ⟨h0, h1⟩ | ⟨g, cap, cur, hv, b, hg2, hcap, _⟩
        · left
          injection h0 with e1 _ e2
          exact ⟨List.length_eq_zero_iff.1 h1, e1, e2⟩
        · right
          obtain ⟨rfl, rfl⟩ : p = some ⟨g, 0, none⟩ ∧ c = cap := by injection hv with a _ b; exact ⟨a, b⟩
          exact ⟨g, rfl, b, (Array.getElem?_eq_some_iff.1 hg2).1, rowP_own hown1⟩
    · obtain ⟨ok1, ok2, rfl, hzy⟩ := okR_is hk
      have HK := Lib.hid hk
      have hkb := widK_bits hk HY.out
      have hd := (widK_fits hzy).1
      have HP := Lib.hid (okP_k ok1 hkb hd)
      have HN2 := Lib.hid (cover_next hk HY.out)
      have HF : Hid (R = (acc ++ [(z, widK z y)]) ++ coverX (z + 2 ^ widK z y) y) := by show _ = _; rw [hacc.out, coverR_yes hk, coverX_yes hzy]; simp
      have hlen : acc.length + 1 ≤ R.length := by rw [HF.out]; simp
      have HW := Lib.hid (fun w ht => widest_x a z y w ht hz.out HY.out hk)
      have HLast : Hid (∀ w, Calls Tryz.prog 45 #[.agg #[.int .i64 a, .int .u64 (hiQ z), .int .u64 (loQ z), .int .i64 ((bitsV a : Int) - widK z y)]] w fun e w' => e = .returned (.agg #[.int .i64 a, .int .u64 (hiQ (z + (2 ^ widK z y - 1))), .int .u64 (loQ (z + (2 ^ widK z y - 1)))]) ∧ Below w.heap.size w w') := fun w => by
        have := last_x a z ((bitsV a : Int) - widK z y) w hz.out
        rw [show firstV a z ((bitsV a : Int) - widK z y) = a from if_pos HP.out.1, HP.out.2] at this; exact this
      have HL2 : Hid (z + (2 ^ widK z y - 1) < 340282366920938463463374607431768211456) := by
        have := (widK_fits hzy).2; have := two_pos (widK z y); have := HY.out
        show _ < _; omega
      have hN := HN.out
      clear hk ok1 ok2 hzy hkb hd hacc HP
      rw [← HN2.out] at HF
      generalize z + (2 ^ widK z y - 1) = L at *
      have HNext := Lib.hid (fun w => next_x a L w HL2.out)
      have hnl := Lib.hid (nextX_lt a L)
      generalize nextV a L = nv at *
      generalize nextX a L = nx at *
      generalize nextB a L = nb at *
      have ecell : cellsP a (z, widK z y) = [.int .i64 a, .int .u64 (hiQ z), .int .u64 (loQ z), .int .i64 ((bitsV a : Int) - widK z y)] := rfl
      generalize widK z y = k at *
      obtain ⟨n, hn⟩ : ∃ n, (bitsV a : Int) - k = n := ⟨_, rfl⟩
      rw [hn] at HLast HW ecell
      clear hn HL2 HN2
      go_wp2_with fail
      refine (okRang_is _ _ _ _ _ _ HK.out).mono ?_
      rintro e w1 ⟨rfl, hb1⟩
      have R2 := R1.below hb1
      have hown1 := own_next hown hb1
      have B1 := below_next hb hb1
      have HT2 : Hid (TabOk w1) := HT1.out.below hb1 HT1.out.pos
      obtain ⟨kf, ff, lf⟩ := keepf hb1 B lB
      have rf1 : ∀ o, w1.frozen? ⟨B, o, none⟩ = false := fun o => (ff o).trans (rf o)
      clear c0 c1 c2 c3 c4 c5 R1 rf hown hb kf ff hb1 HT1
      obtain ⟨c0, c1, c2, c3, c4, c5, lB1⟩ := id R2
      go_wp2_with fail
      refine (HW.out _ HT2.out).mono ?_
      rintro e w2 ⟨rfl, hb2⟩
      have R3 := R2.below hb2
      have hown2 := own_next hown1 hb2
      have B2 := below_next B1 hb2
      obtain ⟨kf, ff, lf2⟩ := keepf hb2 B lB1
      have rf2 : ∀ o, w2.frozen? ⟨B, o, none⟩ = false := fun o => (ff o).trans (rf1 o)
      have hzs := B2.size
      clear c0 c1 c2 c3 c4 c5 R2 rf1 hown1 kf ff hb2 HT2 HW HK
      go_wp2_with (at_builtin; refine wpList_append_lies _ (by rfl) _ _ 45 (by rfl) w.heap.size 34 i0 (.agg #[.int .i64 0, .int .u64 0, .int .u64 0, .int .i64 0]) 4 32 Tryz.underlying45 hi hz0 hz1 hz2 rfl (by decide) _ _ _ (by rfl) ((hown2.alloc _).alloc _) ⟨w2.heap.size + 1, 0, none⟩ 1 1 [.int .i64 a, .int .u64 (hiQ z), .int .u64 (loQ z), .int .i64 n] (by rfl) (by rfl) (four_newH (by simp)) (fun x hx => by simp at hx; rcases hx with rfl | rfl | rfl | rfl <;> rfl) (by decide) (by unfold maxLen; omega) (by omega) (by simp; omega) (w2.heap.size + 2) (by simp) ?_)
      intro g3 cap w4 hown4 hgrow hat4 hlt4
      have hne : ∀ b, B ≤ b → some b ≠ (Value.slice p acc.length c).ownBlock := fun b hb e => by have := hpB b e.symm; omega
      have B4 : Below w.heap.size w w4 := (ball (ball B2)).grown hgrow (by simp; omega) (fun k hk => (hown2.lt k hk).1)
      obtain ⟨kp, _, lp⟩ := grown_keep hgrow w2.heap.size (by simp; omega) (hne _ (by omega))
      obtain ⟨kb, fb, lb⟩ := grown_keep hgrow B (by simp; omega) (hne _ (Nat.le_refl _))
      have q0 : w4.cell? ⟨w2.heap.size, 0, none⟩ = some (.int .i64 a) := by rw [kp]; simp [go_sem]
      have q1 : w4.cell? ⟨w2.heap.size, 1, none⟩ = some (.int .u64 (hiQ z)) := by rw [kp]; simp [go_sem]
      have q2 : w4.cell? ⟨w2.heap.size, 2, none⟩ = some (.int .u64 (loQ z)) := by rw [kp]; simp [go_sem]
      have q3 : w4.cell? ⟨w2.heap.size, 3, none⟩ = some (.int .i64 n) := by rw [kp]; simp [go_sem]
      have R3' := (R3.alloc (.cells #[.int .i64 a, .int .u64 (hiQ z), .int .u64 (loQ z), .int .i64 n] 34)).alloc (.cells #[.int .i64 a, .int .u64 (hiQ z), .int .u64 (loQ z), .int .i64 n] 34)
      have R4 : Rl w4 B a (hiQ z) (loQ z) a (hiQ y) (loQ y) := ⟨(kb 0).trans R3'.c0, (kb 1).trans R3'.c1, (kb 2).trans R3'.c2, (kb 3).trans R3'.c3, (kb 4).trans R3'.c4, (kb 5).trans R3'.c5, lb⟩
      have rf4 : ∀ o, w4.frozen? ⟨B, o, none⟩ = false := fun o => by
        rw [fb, (keepf (below2 w2 _ _) B lf2).2.1 o]; exact rf2 o
      have hg3B : g3 ≠ B := by
        rcases hat4 with h | h
        · have := hpB g3 h; omega
        · omega
      rw [← ecell] at hown4
      clear R3 R3' kp kb fb rf2 hgrow hat4 hne hown2 B2 hpB
      go_wp2_with fail
      refine (HLast.out _).mono ?_
      rintro e w5 ⟨rfl, hb5⟩
      have R5 := R4.below hb5
      have hown5 := own_next hown4 hb5
      have B5 := below_next B4 hb5
      obtain ⟨kf, ff, lf5⟩ := keepf hb5 B lb
      have rf5 : ∀ o, w5.frozen? ⟨B, o, none⟩ = false := fun o => (ff o).trans (rf4 o)
      clear R4 hown4 B4 kf ff rf4 q0 q1 q2 q3 HLast
      go_wp2_with fail
      refine (HNext.out _).mono ?_
      rintro e w6 ⟨rfl, hb6⟩
      have R6 := R5.below hb6
      have hown6 := own_next hown5 hb6
      have B6 := below_next B5 hb6
      obtain ⟨kf, ff, lf6⟩ := keepf hb6 B lf5
      have rf6 : ∀ o, w6.frozen? ⟨B, o, none⟩ = false := fun o => (ff o).trans (rf5 o)
      have hlt6 : g3 < w6.heap.size := Nat.lt_of_lt_of_le hlt4 (Nat.le_trans hb5.size hb6.size)
      obtain ⟨c0, c1, c2, c3, c4, c5, lB6⟩ := R6
      clear R5 hown5 B5 kf ff rf5 HNext hb5 hb6
      go_wp2
      go_roundw
      case rel =>
        have ha : (Value.slice (some (⟨g3, 0, none⟩ : Addr)) (acc.length + 1) cap).ownBlock ≠ some B := by simp [Value.ownBlock, hg3B]
        have hownV := ownsRow_setCell_other (a := ⟨B, 2, none⟩) (ownsRow_setCell_other (a := ⟨B, 1, none⟩) (ownsRow_setCell_other (a := ⟨B, 0, none⟩) hown6 ha (.int .i64 nv)) ha (.int .u64 (hiQ nx))) ha (.int .u64 (loQ nx))
        have BV := aset3 (i := 0) (j := 1) (k := 2) (u := .int .i64 nv) (v := .int .u64 (hiQ nx)) (x := .int .u64 (loQ nx)) B6 hBw
        obtain ⟨V, hV⟩ : ∃ V, V = ((w6.setCell ⟨B, 0, none⟩ (.int .i64 nv)).setCell ⟨B, 1, none⟩ (.int .u64 (hiQ nx))).setCell ⟨B, 2, none⟩ (.int .u64 (loQ nx)) := ⟨_, rfl⟩
        have hVs : V.heap.size = w6.heap.size := by rw [hV]; simp
        rw [← hV] at hownV BV ⊢
        rw [← hVs]
        refine ⟨acc ++ [(z, k)], nv, nx, some ⟨g3, 0, none⟩, cap, V.heap.size, by simp, rfl, HF.out, hnl, ?_, fun g hg => ?_, rl_new _ _ _ _ _ _ _, fun o => by simp [go_sem], ?_, ball BV⟩
        · have := hownV.alloc (.cells #[.int .i64 nv, .int .u64 (hiQ nx), .int .u64 (loQ nx), .int .i64 a, .int .u64 (hiQ y), .int .u64 (loQ y)] 30)
          simpa using this
        · simp [Value.ownBlock] at hg; subst hg; rw [hVs]; exact hlt6
        · rw [hVs]; omega
      case measure => simp [lenOf]; omega
end Go.Proofs.YtmnemjhkmllniaaGreatDoor
