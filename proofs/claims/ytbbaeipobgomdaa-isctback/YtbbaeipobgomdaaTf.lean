/- All signs of a text: the code's own Tokens. -/
import Derived.Test.YtbbaeipobgomdaaTe
namespace Go.Proofs.Ytbbaeipobgomdaa
open Go.ChangeShapes Go.WideShapes Go.RowKit Go.Sort
/-- What Tokens hands back. -/
def TokensE (w : World) (l : Bs) (e : Ending) (w' : World) : Prop :=
  (match tokV l with
    | .ok L => ∃ p c, e = .returned (.tuple #[.slice p L.length c, .agg #[.int .i64 0, .int .i64 0]]) ∧ TokK w' p L ∧ L.length ≤ l.length
    | .bad k a => e = .returned (.tuple #[.slice none 0 0, .agg #[.int .i64 (k : Int), .int .i64 (a : Int)]])) ∧ Below w.heap.size w w'
theorem TokensE.ok {w w' : World} {l : Bs} {L : List Tk} {p : Option Addr} {c : Nat} (h : tokV l = .ok L) (ht : TokK w' p L) (hl : L.length ≤ l.length) (hb : Below w.heap.size w w') : TokensE w l (.returned (.tuple #[.slice p L.length c, .agg #[.int .i64 0, .int .i64 0]])) w' := by
  unfold TokensE; rw [h]; exact ⟨⟨p, c, rfl, ht, hl⟩, hb⟩
theorem TokensE.bad {w w' : World} {l : Bs} {k a : Nat} (h : tokV l = .bad k a) (hb : Below w.heap.size w w') : TokensE w l (.returned (.tuple #[.slice none 0 0, .agg #[.int .i64 (k : Int), .int .i64 (a : Int)]])) w' := by
  unfold TokensE; rw [h]; exact ⟨rfl, hb⟩
theorem err_plain {w w3 W : World} {B A : Nat} (hE : ErrAt w B) (hA : Below A W w) (hB : A ≤ B) {x y : Int}
    (h : (w.setCell ⟨B, 0, none⟩ (.int .i64 x)).setCell ⟨B, 1, none⟩ (.int .i64 y) = w3) : w3.cell? ⟨B, 0, none⟩ = some (.int .i64 x) ∧ w3.cell? ⟨B, 1, none⟩ = some (.int .i64 y) ∧ Below A W w3 := by
  obtain ⟨a, b⟩ := errset (x := x) (y := y) hE.c0 hE.c1
  have c := (hA.setCell (p := ⟨B, 0, none⟩) hB (.int .i64 x)).setCell (p := ⟨B, 1, none⟩) hB (.int .i64 y)
  subst h
  exact ⟨a, b, c⟩
theorem err_any {w w3 W : World} {B A : Nat} (hE : ErrAt w B) (hA : Below A W w) (hB : A ≤ B) {x y : Int}
    (h : ((w.setCell ⟨B, 0, none⟩ (.int .i64 x)).setCell ⟨B, 1, none⟩ (.int .i64 y)).drew = w3) : w3.cell? ⟨B, 0, none⟩ = some (.int .i64 x) ∧ w3.cell? ⟨B, 1, none⟩ = some (.int .i64 y) ∧ Below A W w3 := by
  obtain ⟨a, b, c⟩ := err_plain hE hA hB (x := x) (y := y) rfl
  subst h
  simp only [drew_cell]
  exact ⟨a, b, c.drew⟩
theorem three8 {w : World} {a b c : Value} {t : TypeId} : ∀ (j : Nat) (x : Value), [a, b, c][j]? = some x → (w.alloc (.cells #[a, b, c] t)).cell? ((⟨w.heap.size, 0, none⟩ : Addr).add j) = some x := by
  intro j x hj
  match j, hj with
  | 0, hj => simp at hj; subst hj; simp [Addr.add]
  | 1, hj => simp at hj; subst hj; simp [Addr.add]
  | 2, hj => simp at hj; subst hj; simp [Addr.add]
/-- What an append of signs leaves behind. -/
def AppK (w : World) (base : Nat) (l : List Tk) (g cap : Nat) (w' : World) : Prop := w'.ownsRow base 33 3 (.slice (some ⟨g, 0, none⟩) l.length cap) l.length (l.flatMap cellsK) ∧ ∀ B X, B ≤ base → Below B X w → Below B X w'
/-- One sign put behind others. -/
theorem appK {ops : Array Oper} {rest : List Oper} {o : Oper} {a : Act} {Q : Exit → Act → World → Prop} (w : World) (hgd : o.guard = none) (s x : Operand)
    (ho : o.op = .call { callee := .builtin .append, args := #[s, x], argTypes := #[24, 24] }) (base : Nat) (p : Option Addr) (q : Nat) (acc : List Tk) (hs : a.eval s = .slice p acc.length q) (hown : w.ownsRow base 33 3 (.slice p acc.length q) acc.length (acc.flatMap cellsK))
    (g c : Nat) (t : Tk) (hx : a.eval x = .slice (some ⟨g, 0, none⟩) 1 c) (hnews : ∀ j u, (cellsK t)[j]? = some u → w.cell? ((⟨g, 0, none⟩ : Addr).add j) = some u) (hlen : acc.length ≤ 1000000) (hbase : base ≤ w.heap.size)
    (h : ∀ g cap w', AppK w base (acc ++ [t]) g cap w' → wpList Try.prog ops Q rest (a.put o.dst (.slice (some ⟨g, 0, none⟩) (acc.length + 1) cap)) w') : wpList Try.prog ops Q (o :: rest) a w := by
  obtain ⟨i0, hi, hz0, hz1, hz2⟩ := info_parts infoK8
  refine wpList_append_lies w hgd s x 24 ho base 33 i0 (.agg #[.int .i64 0, .string .empty, .int .i64 0]) 3 32 Try.underlying24 hi hz0 hz1 hz2 rfl (by decide) _ _ _ hs hown ⟨g, 0, none⟩ 1 c (cellsK t) hx rfl hnews (fun v hv => by simp [cellsK] at hv; rcases hv with rfl | rfl | rfl <;> rfl) (by decide) (by unfold maxLen; omega) (by omega) hbase w.heap.size rfl ?_
  intro g' cap w' hown' hgrow hat hlt
  refine h g' cap w' ⟨?_, fun B X hB hX => hX.grown hgrow (by omega) (fun k hk => Nat.le_trans hB (hown.lt k hk).1)⟩
  rw [List.length_append, List.flatMap_append]
  simpa using hown'
set_option maxHeartbeats 16000000 in
set_option maxRecDepth 100000 in
theorem tokens_x (l : Bs) (a : Option Addr) (c : Nat) (w : World) (h : BytesAt w a l) (hc : l.length ≤ c) (hl : l.length ≤ 1000000) :
    Calls Try.prog 7 #[.slice a l.length c] w fun e w' => TokensE w l e w' := by
  have HH := Lib.hid h
  have HS := Lib.hid (fun i V (hV : BytesAt V a l) (hi : i ≤ l.length) => skip_x l a c i V hV hc hl hi)
  clear h
  go_enter Try.func7, Try.ntmps7
  go_upto_region 1 with fail
  generalize hw0 : w.alloc _ = w0
  have B0 : Below w.heap.size w w0 := hw0 ▸ ball (Below.refl _ _)
  have E0 : ErrAt w0 w.heap.size := by subst hw0; exact ⟨by simp [go_sem], by simp [go_sem], fun o => by simp [go_sem], by simp [go_sem]⟩
  clear hw0
  go_wp2_with fail
  refine (long_no a l.length c _ hl).mono ?_
  rintro e w1 ⟨rfl, hb1⟩
  have B1 := below_next B0 hb1
  have E1 := E0.next hb1
  clear hb1 B0 E0
  go_upto_region 5 with fail
  generalize hw2 : w1.alloc _ = w2
  have B2 : Below w.heap.size w w2 := hw2 ▸ ball B1
  have E2 : ErrAt w2 w.heap.size := hw2 ▸ E1.next (ball (Below.refl _ _))
  clear hw2 B1 E1
  go_wp2_with fail
  refine (HS.out 0 w2 (HH.out.below B2) (Nat.zero_le _)).mono ?_
  rintro e w3 ⟨⟨j0, rfl, hj0⟩, hb3⟩
  have B3 := below_next B2 hb3
  have E3 := E2.next hb3
  clear hb3 B2 E2
  have H3 := Lib.hid (HH.out.below B3)
  have HJ := Lib.hid hj0
  clear hj0 HH
  have HT := Lib.hid (fun i ad V (e : a = some ad) (hV : BytesAt V (some ad) l) (hi : i < l.length) (hb : blankB (l[i]'hi) = false) (h35 : l[i]'hi ≠ 35) => e ▸ tokenAt_x l ad c i V hV hc hl hi hb h35)
  have HA0 : Hid (tokV l = (tokA .top j0 (l.drop j0)).pre []) := Lib.hid (by rw [TR.pre_nil, ← HJ.out.2.2.1]; rfl)
  go_wp2_with fail
  go_loopw [6, 7] (fun sv iv wr => ∃ (acc : List Tk) (j : Nat) (p : Option Addr) (q : Nat), sv = .slice p acc.length q ∧ iv = .int .i64 (j : Int) ∧ acc.length ≤ j ∧ j ≤ l.length ∧ Hid (tokV l = (tokA .top j (l.drop j)).pre acc) ∧ Hid (∀ c, l[j]? = some c → blankB c = false ∧ c ≠ 35) ∧ wr.ownsRow w3.heap.size 33 3 (.slice p acc.length q) acc.length (acc.flatMap cellsK) ∧ Below w3.heap.size w3 wr) (fun _ iv _ => l.length + 1 - intN iv)
  case atStart => exact ⟨[], j0, none, 0, rfl, rfl, Nat.zero_le _, HJ.out.2.1, HA0, Lib.hid HJ.out.2.2.2, World.ownsRow_nil _ _ _ _, Below.refl _ _⟩
  case round =>
    obtain ⟨acc, j, p, q, rfl, rfl, haj, hjl, hp, hnb, hown, hb⟩ := hrel
    clear HJ HA0 
    have hzs := hb.size
    have EW := E3.next hb
    have BB : Below w.heap.size w wr := below_next B3 hb
    by_cases hlt : j < l.length
    · obtain ⟨ad, ha⟩ : ∃ ad, a = some ad := by
        obtain ⟨ad, e, _⟩ := H3.out j (l[j]'hlt) (List.getElem?_eq_getElem hlt)
        exact ⟨ad, e⟩
      subst ha
      have hnb' := hnb.out _ (List.getElem?_eq_getElem hlt)
      have hcall := Lib.hid (HT.out j ad wr rfl (H3.out.below hb) hlt hnb'.1 hnb'.2)
      clear hnb' hnb HT
      go_wp2_with fail
      refine hcall.out.mono ?_
      rintro e w4 ⟨⟨v, rfl, hv⟩, hb4⟩
      have E4 := EW.next hb4
      have B4 := below_next BB hb4
      have hown4 := own_next hown hb4
      have hb4' := below_next hb hb4
      clear hcall EW BB hown hb hb4 hzs
      have hzs := hb4'.size
      rcases hv with ⟨kd, s, k, rfl, hjk, hkl, hsl, htok⟩ | ⟨K, T, N, M, x, rfl, htok⟩
      · have HK : Hid (tokV l = if 255 < s.length then .bad 2 j else (tokA .top k (l.drop k)).pre (acc ++ [(kd, s, j)])) := Lib.hid (by
          rw [hp.out, htok]
          split
          · rfl
          · rw [TR.pre_pre])
        have hsz := baS_size s
        clear htok hp
        go_upto_region 8 with fail
        generalize hw5 : (w4.alloc _).alloc _ = w5
        have B5 : Below w.heap.size w w5 := hw5 ▸ ball (ball B4)
        have E5 : ErrAt w5 w.heap.size := hw5 ▸ E4.next (ball (ball (Below.refl _ _)))
        have hown5 : w5.ownsRow w3.heap.size 33 3 (.slice p acc.length q) acc.length (acc.flatMap cellsK) := hw5 ▸ (hown4.alloc _).alloc _
        have hb5 : Below w3.heap.size w3 w5 := hw5 ▸ (hb4'.alloc hzs _).alloc (by simp; omega) _
        have y0 : w5.cell? ⟨w4.heap.size, 0, none⟩ = some (.int .i64 (kd : Int)) := by subst hw5; simp [go_sem]
        have y1 : w5.cell? ⟨w4.heap.size, 1, none⟩ = some (.string (baS s)) := by subst hw5; simp [go_sem]
        have y2 : w5.cell? ⟨w4.heap.size, 2, none⟩ = some (.int .i64 (j : Int)) := by subst hw5; simp [go_sem]
        have x0 : w5.cell? ⟨w4.heap.size + 1, 0, none⟩ = some (.int .i64 0) := by subst hw5; simp [go_sem]
        have x1 : w5.cell? ⟨w4.heap.size + 1, 1, none⟩ = some (.int .i64 0) := by subst hw5; simp [go_sem]
        clear hw5 B4 E4 hown4 hb4' hzs
        have hzs := hb5.size
        generalize w4.heap.size = X at *
        by_cases hbig : 255 < s.length
        · have HF : Hid (tokV l = .bad 2 j) := Lib.hid (by rw [HK.out, if_pos hbig])
          have e0 := E5.c0
          have e1 := E5.c1
          have ef := E5.fz
          have hbig' : 255 < (baS s).size := by rw [hsz]; exact hbig
          clear HK hsz hbig HS
          generalize baS s = S at *
          go_wp2_with fail
          generalize hw6 : (World.setCell _ _ _).setCell _ _ = w6
          obtain ⟨s0, s1, B6⟩ := err_plain E5 B5 (Nat.le_refl _) hw6
          clear hw6 e0 e1 ef x0 x1 y0 y1 y2 B5 E5
          exact bodyPost_ret (v := .tuple #[.slice none 0 0, .agg #[.int .i64 2, .int .i64 (j : Int)]]) (by simp [results, Try.results7, go_sem, s0, s1]) rfl (TokensE.bad HF.out B6)
        · have HF : Hid (tokV l = (tokA .top k (l.drop k)).pre (acc ++ [(kd, s, j)])) := Lib.hid (by rw [HK.out, if_neg hbig])
          have hbig' : (baS s).size ≤ 255 := by rw [hsz]; omega
          have ecell : cellsK (kd, s, j) = [.int .i64 (kd : Int), .string (baS s), .int .i64 (j : Int)] := rfl
          have HE := Lib.hid ecell
          clear HK hsz hbig ecell
          generalize baS s = S at *
          go_wp2_with (at_builtin; refine appK _ (by rfl) _ _ (by rfl) w3.heap.size p q acc (by rfl) (hown5.alloc _) w5.heap.size 1 (kd, s, j) (by rfl) (by rw [HE.out]; exact three8) (by omega) (by simp; omega) ?_)
          intro g3 cap w6 hA
          obtain ⟨hown6, hbel⟩ := hA
          have B6 := hbel w.heap.size w (Nat.le_of_lt E3.lt) (ball B5)
          have hb6 := hbel w3.heap.size w3 (Nat.le_refl _) (hb5.alloc hzs _)
          clear hbel hown5 hb5 B5 E5 x0 x1 y0 y1 y2 hbig' HE hzs
          go_wp2_with fail
          refine (HS.out k w6 (H3.out.below hb6) hkl).mono ?_
          rintro e w7 ⟨⟨j2, rfl, hj2⟩, hb7⟩
          have hown7 := own_next hown6 hb7
          have hb7' := below_next hb6 hb7
          have HN : Hid (tokV l = (tokA .top j2 (l.drop j2)).pre (acc ++ [(kd, s, j)])) := Lib.hid (by rw [HF.out, hj2.2.2.1])
          have HQ := Lib.hid hj2.2.2.2
          have q1 := hj2.1
          have q2 := hj2.2.1
          clear hj2 HF hown6 hb6 hb7 B6
          go_wp2
          refine ⟨⟨acc ++ [(kd, s, j)], j2, some ⟨g3, 0, none⟩, cap, by simp, rfl, by simp; omega, q2, HN, HQ, by simpa using hown7, hb7'⟩, by simp [intN]; omega⟩
      · have HF : Hid (tokV l = .bad 1 x) := Lib.hid (by rw [hp.out, htok]; rfl)
        clear htok hp
        go_upto_region 8 with fail
        generalize hw5 : (w4.alloc _).alloc _ = w5
        have B5 : Below w.heap.size w w5 := hw5 ▸ ball (ball B4)
        have E5 : ErrAt w5 w.heap.size := hw5 ▸ E4.next (ball (ball (Below.refl _ _)))
        have x0 : w5.cell? ⟨w4.heap.size + 1, 0, none⟩ = some (.int .i64 1) := by subst hw5; simp [go_sem]
        have x1 : w5.cell? ⟨w4.heap.size + 1, 1, none⟩ = some (.int .i64 (x : Int)) := by subst hw5; simp [go_sem]
        have n1 : w4.heap.size + 1 ≠ w.heap.size := by have := E4.lt; omega
        have n2 : w.heap.size ≠ w4.heap.size + 1 := fun e => n1 e.symm
        have e0 := E5.c0
        have e1 := E5.c1
        have ef := E5.fz
        clear hw5 B4 E4 hown4 hb4' hzs HS
        generalize w4.heap.size + 1 = X at *
        go_wp2_with fail
        go_region
        generalize hw6 : World.drew _ = w6
        obtain ⟨s0, s1, B6⟩ := err_any E5 B5 (Nat.le_refl _) hw6
        clear hw6 e0 e1 ef x0 x1 n1 n2 B5 E5
        go_wp2_with fail
        exact bodyPost_ret (v := .tuple #[.slice none 0 0, .agg #[.int .i64 1, .int .i64 (x : Int)]]) (by simp [results, Try.results7, go_sem, s0, s1]) rfl (TokensE.bad HF.out B6)
    · have HF : Hid (tokV l = .ok acc) := Lib.hid (by rw [hp.out, show j = l.length by omega, List.drop_length]; show TR.ok (acc ++ []) = _; rw [List.append_nil])
      obtain rfl : j = l.length := by omega
      have e0 := EW.c0
      have e1 := EW.c1
      have ef := EW.fz
      have hlt3 : w.heap.size < w3.heap.size := E3.lt
      clear hp HS HT hnb
      go_wp2_with fail
      generalize hw6 : (wr.setCell _ _).setCell _ _ = w6
      obtain ⟨s0, s1, B6⟩ := err_plain EW BB (Nat.le_refl _) hw6
      have hown6 : w6.ownsRow w3.heap.size 33 3 (.slice p acc.length q) acc.length (acc.flatMap cellsK) := by
        subst hw6
        exact ownsRow_setCell_below (ownsRow_setCell_below hown hlt3 _) hlt3 _
      clear hw6 e0 e1 ef
      exact bodyPost_ret (v := .tuple #[.slice p acc.length q, .agg #[.int .i64 0, .int .i64 0]]) (by simp [results, Try.results7, go_sem, s0, s1]) rfl (TokensE.ok HF.out (tokK_own hown6) haj B6)
end Go.Proofs.Ytbbaeipobgomdaa
