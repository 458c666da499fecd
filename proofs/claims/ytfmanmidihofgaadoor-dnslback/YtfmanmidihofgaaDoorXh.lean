/- dnsl.Parse: the rows of a text, or where it is wrong. -/
import Derived.Test.YtfmanmidihofgaaDoorXg
import Derived.Test.YtfmanmidihofgaaDoorSe
import Derived.Test.YtfmanmidihofgaaDoorUa
namespace Go.Proofs.YtfmanmidihofgaaDoor
open Go.ChangeShapes Go.WideShapes Go.RowKit Go.Sort

/-- What the rows of a text are handed back as. -/
def RowsE (w : World) (l : Bs) (e : Ending) (w' : World) : Prop :=
  (match rowsV l with
    | .ok L => ∃ p c, e = .returned (.tuple #[.slice p L.length c, .agg #[.int .i64 0, .int .i64 0]]) ∧ RecW w' p L ∧ L.length ≤ 1000000
    | .bad k a => e = .returned (.tuple #[.slice none 0 0, .agg #[.int .i64 (k : Int), .int .i64 (a : Int)]])) ∧ Below w.heap.size w w'
theorem RowsE.ok {w w' : World} {l : Bs} {L : List Rw} {p : Option Addr} {c : Nat} (h : rowsV l = .ok L) (ht : RecW w' p L) (hl : L.length ≤ 1000000) (hb : Below w.heap.size w w') : RowsE w l (.returned (.tuple #[.slice p L.length c, .agg #[.int .i64 0, .int .i64 0]])) w' := by
  unfold RowsE; rw [h]; exact ⟨⟨p, c, rfl, ht, hl⟩, hb⟩
theorem RowsE.bad {w w' : World} {l : Bs} {k a : Nat} (h : rowsV l = .bad k a) (hb : Below w.heap.size w w') : RowsE w l (.returned (.tuple #[.slice none 0 0, .agg #[.int .i64 (k : Int), .int .i64 (a : Int)]])) w' := by
  unfold RowsE; rw [h]; exact ⟨rfl, hb⟩
/-- One line of the walk. -/
theorem rows_skip {LL : List (Bs × Nat)} {j n : Nat} {s : Bs} (h : LL[j]? = some (s, n)) (hs : skipB s = true) : rowsG (LL.drop j) = rowsG (LL.drop (j + 1)) := by
  have hj := (List.getElem?_eq_some_iff.1 h).1
  rw [List.drop_eq_getElem_cons hj, (List.getElem?_eq_some_iff.1 h).2]
  conv => lhs; unfold rowsG
  rw [if_pos hs]
theorem rows_take {LL : List (Bs × Nat)} {j n : Nat} {s : Bs} (h : LL[j]? = some (s, n)) (hs : skipB s = false) : rowsG (LL.drop j) = match rowV s n with | .inr (k, x) => .bad k x | .inl r => (rowsG (LL.drop (j + 1))).pre [r] := by
  have hj := (List.getElem?_eq_some_iff.1 h).1
  rw [List.drop_eq_getElem_cons hj, (List.getElem?_eq_some_iff.1 h).2]
  conv => lhs; unfold rowsG
  rw [if_neg (by simp [hs])]
  cases rowV s n <;> rfl
theorem line_fit {l s : Bs} {n j : Nat} (h : (linesV l)[j]? = some (s, n)) : n + s.length ≤ l.length := by
  have := linesG_at l [] 0 s n (List.mem_of_getElem? h)
  simpa using this
theorem hasPre_x (s : Bs) (w : World) : Calls Tryd.prog 16 #[.string (baS s), .string ⟨#[35]⟩] w fun e w' => e = .returned (.bool (s.head? == some 35)) ∧ w' = w := by
  have h := Tryd.strings_HasPrefix (baS s) ⟨#[35]⟩ w
  have e : Lib.hasPrefix (baS s).data.toList [35] = (s.head? == some 35) := by
    cases s with
    | nil => rfl
    | cons c r => simp [Lib.hasPrefix, baS, List.isPrefixOf, Bool.beq_comm]
  have e2 : Lib.hasPrefix (baS s).data.toList (⟨#[35]⟩ : ByteArray).data.toList = (s.head? == some 35) := e
  rwa [e2] at h
theorem set2_far10 {w w3 : World} {E B : Nat} {u v : Value} (hE : E < B) (h : (w.setCell ⟨E, 0, none⟩ u).setCell ⟨E, 1, none⟩ v = w3) : w.heap.size ≤ w3.heap.size ∧ ∀ g o, B ≤ g → w3.cell? ⟨g, o, none⟩ = w.cell? ⟨g, o, none⟩ := by
  subst h
  refine ⟨by simp [World.setCell], fun g o hg => ?_⟩
  have n1 : g ≠ E := by omega
  refine World.cell?_of_block (a := ⟨g, o, none⟩) ?_
  rw [Below.heap_setCell _ _ _ _ n1, Below.heap_setCell _ _ _ _ n1]
theorem rowV_kind {s : Bs} {n k x : Nat} (h : rowV s n = .inr (k, x)) : k = 1 ∨ k = 2 := (rowV_bad h).2
set_option maxHeartbeats 16000000 in
set_option maxRecDepth 100000 in
theorem parse10_x (l : Bs) (a : Option Addr) (c : Nat) (w : World) (h : BytesAt w a l) (hc : l.length ≤ c) (hl : l.length ≤ 1000000) :
    Calls Tryd.prog 7 #[.slice a l.length c] w fun e w' => RowsE w l e w' := by
  have HH := Lib.hid h
  clear h
  go_enter Tryd.func7, Tryd.ntmps7
  go_upto_region 1 with fail
  generalize hw0 : w.alloc _ = w0
  have B0 : Below w.heap.size w w0 := hw0 ▸ ball (Below.refl _ _)
  have E0 : ErrAt w0 w.heap.size := by subst hw0; exact ⟨by simp [go_sem], by simp [go_sem], fun o => by simp [go_sem], by simp [go_sem]⟩
  clear hw0
  go_wp2_with fail
  refine (long_no a l.length c _ hl).mono ?_
  rintro e w1 ⟨rfl, hb1⟩
  have B1 := below_next B0 hb1
  have E1 := E0.next hb1
  clear hb1 B0 E0
  go_upto_region 4 with fail
  generalize hw3 : w1.alloc _ = w3
  have B3 : Below w.heap.size w w3 := hw3 ▸ ball B1
  have E3 : ErrAt w3 w.heap.size := hw3 ▸ E1.next (ball (Below.refl _ _))
  clear hw3 B1 E1
  go_wp2_with fail
  refine (lines_x l a c _ (HH.out.below B3) hc hl).mono ?_
  rintro e w4 ⟨hb4, pl, cl, rfl, hT⟩
  have B4 := below_next B3 hb4
  have E4 := E3.next hb4
  have HF : Hid (∀ (j : Nat) (s : Bs) (n : Nat), (linesV l)[j]? = some (s, n) → n + s.length ≤ l.length) := fun j s n hj => line_fit hj
  have HN : (linesV l).length ≤ 1000000 := Nat.le_trans (linesV_len l) hl
  have HV : Hid (rowsV l = (rowsG ((linesV l).drop 0)).pre []) := Lib.hid (by rw [DR.pre_nil]; rfl)
  have HT := Lib.hid hT
  clear HH B3 E3 hb4 hT
  generalize linesV l = LL at *
  go_wp2_with fail
  go_loopw [6, 21] (fun sv iv wr => ∃ (acc : List Rw) (vs : List Value) (j : Nat) (p : Option Addr) (q : Nat), sv = .slice p acc.length q ∧ iv = .int .i64 (j : Int) ∧ acc.length ≤ j ∧ j ≤ LL.length ∧ Hid (rowsV l = (rowsG (LL.drop j)).pre acc) ∧ OutW wr w4.heap.size p q acc vs ∧ Below w4.heap.size w4 wr) (fun _ iv _ => LL.length + 1 - intN iv)
  case atStart => exact ⟨[], [], 0, none, 0, rfl, rfl, Nat.le_refl _, Nat.zero_le _, HV, OutW.nil _ _, Below.refl _ _⟩
  case round =>
    obtain ⟨acc, vs, j, p, q, rfl, rfl, haj, hjl, hp, hout, hb⟩ := hrel
    have hzs := hb.size
    have EW := E4.next hb
    have BB : Below w.heap.size w wr := below_next B4 hb
    by_cases hlt : j < LL.length
    · obtain ⟨⟨s, n⟩, hsn⟩ : ∃ t, LL[j]? = some t := ⟨_, List.getElem?_eq_getElem hlt⟩
      have hfit := HF.out j s n hsn
      obtain ⟨g, rfl, hg, t0, t1, t2⟩ := (HT.out.below hb) j s n hsn
      have hw : IntKind.i64.wrap ((j : Int) + 1) = (j : Int) + 1 := by rw [IntKind.wrap_i64]; omega
      go_upto_region 8 with fail
      generalize hw5 : wr.alloc _ = w5
      have B5 : Below w.heap.size w w5 := hw5 ▸ ball BB
      have E5 : ErrAt w5 w.heap.size := hw5 ▸ EW.next (ball (Below.refl _ _))
      have b45 : Below w4.heap.size w4 w5 := hw5 ▸ (hb.alloc hzs _)
      have o5 : OutW w5 w4.heap.size p q acc vs := hw5 ▸ hout.below (ball (Below.refl _ _))
      have x0 : w5.cell? ⟨wr.heap.size, 0, none⟩ = some (.int .i64 1) := by subst hw5; simp [go_sem]
      have x1 : w5.cell? ⟨wr.heap.size, 1, none⟩ = some (.string (baS s)) := by subst hw5; simp [go_sem]
      have x2 : w5.cell? ⟨wr.heap.size, 2, none⟩ = some (.int .i64 (n : Int)) := by subst hw5; simp [go_sem]
      clear hw5 t0 t1 t2 EW BB hout hb
      have hzs5 := b45.size
      generalize wr.heap.size = X at *
      have HPx := Lib.hid (hasPre_x s)
      obtain ⟨sk, hsk⟩ : ∃ sk, skipB s = sk := ⟨_, rfl⟩
      go_cut [32] (fun bv wx => bv = .bool sk ∧ wx = w5)
      case first =>
        cases s with
        | nil =>
          obtain rfl : sk = true := by rw [← hsk]; rfl
          have he : (baS []) = ⟨#[]⟩ := rfl
          rw [he] at x1
          go_wp2_with fail
          go_meet
          exact ⟨by first | rfl | simp, by first | rfl | trivial⟩
        | cons b r =>
          have hne := ne_listR (t := b :: r) (by simp)
          have HS : Hid (((b :: r).head? == some 35) = sk) := Lib.hid (by rw [← hsk]; simp [skipB])
          clear hsk
          generalize ((b :: r).head? == some 35) = V at *
          generalize baS (b :: r) = S at *
          go_wp2_with (go_at_call 16; refine (HPx.out _).mono ?_; rintro e w' ⟨rfl, hww⟩; rw [hww]; clear hww)
          go_meet
          exact ⟨by rw [HS.out], by first | rfl | trivial⟩
      case rest =>
        obtain ⟨rfl, hww⟩ := hcut
        rw [hww]
        clear hww HPx
        cases sk with
        | true =>
          have HN2 : Hid (rowsV l = (rowsG (LL.drop (j + 1))).pre acc) := Lib.hid (by rw [hp.out, rows_skip hsn hsk])
          clear hp hsk
          go_wp2_with fail
          refine ⟨⟨acc, vs, j + 1, p, q, rfl, by simp, by omega, by omega, HN2, o5, b45⟩, by simp [intN]; omega⟩
        | false =>
          have HR := Lib.hid (hp.out.trans (by rw [rows_take hsn hsk]))
          have hcall := Lib.hid (fun V => rowOf_x s n V (by omega) (by omega))
          clear hp hsk
          go_wp2_with fail
          refine (hcall.out _).mono ?_
          rintro e w6 ⟨hb6, hv⟩
          have E6 := E5.next hb6
          have B6 := below_next B5 hb6
          have o6 := o5.below hb6
          have b46 := below_next b45 hb6
          have hz6 := hb6.size
          clear hcall E5 B5
          cases hrv : rowV s n with
          | inl r =>
            rw [hrv] at hv HR
            obtain ⟨p2, c2, rfl, hT2, hfr⟩ := hv
            have HN2 : Hid (rowsV l = (rowsG (LL.drop (j + 1))).pre (acc ++ [r])) := Lib.hid (by rw [HR.out]; show ((rowsG (LL.drop (j + 1))).pre [r]).pre acc = _; rw [DR.pre_pre])
            have hsep : ∀ g, p2 = some ⟨g, 0, none⟩ → w4.heap.size ≤ g ∧ g < w6.heap.size ∧ (Value.slice p acc.length q).ownBlock ≠ some g := fun g hg => by
              have h1 := hfr g hg
              exact ⟨by omega, h1.2, fun he => by have := (o5.own.lt g he).2; omega⟩
            clear HR hrv hfr o5 b45 hb6 x0 x1 x2
            go_upto_region 10 with fail
            generalize hw7 : (w6.alloc _).alloc _ = w7
            have o7 : OutW w7 w4.heap.size p q acc vs := hw7 ▸ o6.below (ball (ball (Below.refl _ _)))
            have b67 : Below w6.heap.size w6 w7 := hw7 ▸ ball (ball (Below.refl _ _))
            have b47 : Below w4.heap.size w4 w7 := below_next b46 b67
            have hT7 := hT2.below b67
            have y0 : w7.cell? ⟨w6.heap.size, 0, none⟩ = some (.string (baS r.1)) := by subst hw7; simp [go_sem]
            have y1 : w7.cell? ⟨w6.heap.size, 1, none⟩ = some (.slice p2 r.2.1.length c2) := by subst hw7; simp [go_sem]
            have y2 : w7.cell? ⟨w6.heap.size, 2, none⟩ = some (.int .i64 (r.2.2 : Int)) := by subst hw7; simp [go_sem]
            have z0 : w7.cell? ⟨w6.heap.size + 1, 0, none⟩ = some (.int .i64 0) := by subst hw7; simp [go_sem]
            have hsep7 : ∀ g, p2 = some ⟨g, 0, none⟩ → w4.heap.size ≤ g ∧ g < w7.heap.size ∧ (Value.slice p acc.length q).ownBlock ≠ some g := fun g hg => ⟨(hsep g hg).1, by have := (hsep g hg).2.1; have := b67.size; omega, (hsep g hg).2.2⟩
            clear hw7 B6 E6 o6 b46 b67 hT2 hsep hz6 hzs5
            have hz7 := b47.size
            generalize w6.heap.size = Y at *
            go_wp2_with (at_builtin; refine appW _ (by rfl) _ _ (by rfl) w4.heap.size p q acc vs (by rfl) (o7.below (ball (Below.refl _ _))) w7.heap.size 1 p2 c2 r (by rfl) (by exact three8) (hT7.below (ball (Below.refl _ _))) (fun g hg => ⟨(hsep7 g hg).1, by have := (hsep7 g hg).2.1; simp; omega, (hsep7 g hg).2.2⟩) (by omega) (by simp; omega) ?_)
            intro g3 cap w8 hA
            obtain ⟨o8, _, hbel⟩ := hA
            have b48 := hbel w4.heap.size w4 (Nat.le_refl _) (b47.alloc hz7 _)
            clear hbel o7 b47 hT7 y0 y1 y2 z0 hsep7
            go_wp2
            refine ⟨⟨acc ++ [r], _, j + 1, some ⟨g3, 0, none⟩, cap, by simp, by simp, by simp; omega, by omega, HN2, o8, b48⟩, by simp [intN]; omega⟩
          | inr y =>
            obtain ⟨k, x⟩ := y
            rw [hrv] at hv HR
            obtain rfl := hv
            have HN2 : Hid (rowsV l = .bad k x) := Lib.hid (by rw [HR.out]; rfl)
            have hk := rowV_kind hrv
            clear HR hrv o5 o6 b45 b46 hb6 x0 x1 x2 hz6 hzs5 hzs
            go_upto_region 10 with fail
            generalize hw7 : (w6.alloc _).alloc _ = w7
            have b67 : Below w6.heap.size w6 w7 := hw7 ▸ ball (ball (Below.refl _ _))
            have B7 := below_next B6 b67
            have E7 := E6.next b67
            have z0 : w7.cell? ⟨w6.heap.size + 1, 0, none⟩ = some (.int .i64 (k : Int)) := by subst hw7; simp [go_sem]
            have z1 : w7.cell? ⟨w6.heap.size + 1, 1, none⟩ = some (.int .i64 (x : Int)) := by subst hw7; simp [go_sem]
            have n1 : w6.heap.size + 1 ≠ w.heap.size := by have := E6.lt; omega
            have n2 : w.heap.size ≠ w6.heap.size + 1 := fun e => n1 e.symm
            have e0 := E7.c0
            have e1 := E7.c1
            have ef := E7.fz
            clear hw7 B6 E6 b67
            generalize w6.heap.size + 1 = Y at *
            have hkz : ¬ ((k : Int) = 0) := by omega
            clear hk
            go_wp2_with fail
            go_region
            generalize hw8 : World.drew _ = w8
            obtain ⟨s0, s1, B8⟩ := err_any E7 B7 (Nat.le_refl _) hw8
            clear hw8 e0 e1 ef z0 z1 n1 n2 B7 E7
            go_wp2_with fail
            exact bodyPost_ret (v := .tuple #[.slice none 0 0, .agg #[.int .i64 (k : Int), .int .i64 (x : Int)]]) (by simp [results, Tryd.results7, go_sem, s0, s1]) rfl (RowsE.bad HN2.out B8)
    · have HN2 : Hid (rowsV l = .ok acc) := Lib.hid (by rw [hp.out, List.drop_eq_nil_of_le (by omega)]; show DR.ok (acc ++ []) = _; rw [List.append_nil])
      have hjn : ¬ ((j : Int) < (LL.length : Int)) := by omega
      have e0 := EW.c0
      have e1 := EW.c1
      have ef := EW.fz
      have hlt3 : w.heap.size < w4.heap.size := E4.lt
      clear hp HT HF
      go_wp2_with fail
      generalize hw6 : (wr.setCell _ _).setCell _ _ = w6
      obtain ⟨s0, s1, B6⟩ := err_plain EW BB (Nat.le_refl _) hw6
      obtain ⟨hs6, hc6⟩ := set2_far10 hlt3 hw6
      have hr6 := hout.readV (Nat.le_refl _) hs6 hc6
      clear hw6 e0 e1 ef
      exact bodyPost_ret (v := .tuple #[.slice p acc.length q, .agg #[.int .i64 0, .int .i64 0]]) (by simp [results, Tryd.results7, go_sem, s0, s1]) rfl (RowsE.ok HN2.out hr6 (by omega) B6)
end Go.Proofs.YtfmanmidihofgaaDoor
