/- What DateTells asks of a second: both writings tell the same day, clock and day of the week. -/
import Derived.Test.YtjoiedomdliadaaDoorEb
import Derived.Test.YtjoiedomdliadaaDoorEd
import Derived.Test.YtjoiedomdliadaaDoorDo
import Derived.Test.YtjoiedomdliadaaDoorDe
import Derived.Test.YtjoiedomdliadaaDoorOp
import Derived.Deep.DeepCutAuto
import Derived.Deep.CutBlock
namespace Go.Proofs.YtjoiedomdliadaaDoor
open Go.ChangeShapes Go.WideShapes Go.RowKit Go.Sort
theorem print_both (s : Nat) : ∃ (d c : Bs) (b : Bool), (∀ w, Gl w → Calls Tryd.prog 9 #[.int .u64 s] w fun e w' => e = .returned (.tuple #[.string (baS d), .string (baS c), .bool b]) ∧ Below w.heap.size w w')
    ∧ (∀ w, Calls Tryd.prog 13 #[.int .u64 s] w fun e w' => e = .returned (.tuple #[.string (baS d), .string (baS c), .bool b]) ∧ Below w.heap.size w w') ∧ (s ≤ 253402300799 → d.length = 10 ∧ c.length = 8) := by
  by_cases hs : s ≤ 253402300799
  · obtain ⟨y, m, d, ho, he⟩ := dayN_onto (s / 86400) (by omega)
    exact ⟨dayT y m d, clockT (s % 86400), true, fun w hg => printD_yes s y m d w hg hs ho he, fun w => printR_yes s y m d w hs ho he, fun _ => ⟨rfl, rfl⟩⟩
  · exact ⟨[], [], false, fun w _ => printD_no s w (by omega), fun w => printR_no s w (by omega), fun h => absurd h hs⟩
theorem numR_parts (r : Option Nat) : ∃ (n : Int) (b : Bool), numR r = .tuple #[.int .u64 n, .bool b] := by
  cases r with
  | none => exact ⟨_, _, rfl⟩
  | some n => exact ⟨_, _, rfl⟩
theorem shr8_and7 (n : Int) : ∃ j : Nat, j < 8 ∧ bits .and .i64 (n / 256) 7 = (j : Int) := by
  have h255 : (BitVec.ofInt 64 7).toNat = 2 ^ 3 - 1 := by decide
  have h : (BitVec.ofInt 64 (n / 256) &&& BitVec.ofInt 64 7).toNat = ((n / 256) % ((2 ^ 64 : Nat) : Int)).toNat % 2 ^ 3 := by
    rw [BitVec.toNat_and, BitVec.toNat_ofInt, h255, Nat.and_two_pow_sub_one_eq_mod]
  refine ⟨(n / 256 % 8).toNat, by omega, ?_⟩
  show IntKind.i64.wrap ((BitVec.ofInt 64 (n / 256) &&& BitVec.ofInt 64 7).toNat : Nat) = _
  rw [h, IntKind.wrap_i64]
  omega
def turnD (s : Bs) (k : Nat) (b : UInt8) : Bs := s.take k ++ [b] ++ s.drop (k + 1)
def vs7 (d c l : Bs) (k j : Nat) (b : UInt8) : List Value := [.string (baS l), .string (baS c), .string (baS d), .string (baS l), .string (baS d), .string (baS c), .string (baS (turnD d k b)), .string (baS c), .string (baS d), .string (baS (turnD c j b)), .string (baS (turnD d k (dC (b.toNat % 10)))), .string (baS c), .string (baS d), .string (baS (turnD c j (dC (b.toNat % 10))))]
theorem AllOps.cons {R : Nat → Oper → Prop} {i : Nat} {o : Oper} {l : List Oper} (h : R i o) (t : AllOps R (i + 1) l) : AllOps R i (o :: l) := ⟨h, t⟩
theorem AllOps.app {R : Nat → Oper → Prop} : ∀ (l m : List Oper) (i : Nat), AllOps R i l → AllOps R (i + l.length) m → AllOps R i (l.append m)
  | [], m, i, _, h => h
  | o :: l, m, i, h, t => ⟨h.1, AllOps.app l m (i + 1) h.2 (by rw [show i + 1 + l.length = i + (o :: l).length by simp; omega]; exact t)⟩
theorem sp_row {base : Nat} {l : List SpK} {s n : Nat} {vs : List Value} {v : Value} {w : World} (hl : l.getD (s - base) (.eqv undef) = .row n vs) (h : spOf base l s v w) : ∃ H, v = .slice (some ⟨H, 0, none⟩) n n ∧ H < w.heap.size ∧ ∀ j x, vs[j]? = some x → w.cell? ⟨H, j, none⟩ = some x := by unfold spOf at h; rw [hl] at h; exact h
theorem sp_row_new {base : Nat} {l : List SpK} {s n : Nat} {vs : List Value} {w : World} {o : Obj} (hl : l.getD (s - base) (.eqv undef) = .row n vs) (h : ∀ j x, vs[j]? = some x → (w.alloc o).cell? ⟨w.heap.size, j, none⟩ = some x) : spOf base l s (.slice (some ⟨w.heap.size, 0, none⟩) n n) (w.alloc o) := by
  unfold spOf; rw [hl]; exact ⟨w.heap.size, rfl, by simp, h⟩
theorem row7_cells (p0 q0 p1 q1 p2 q2 p3 q3 p4 q4 p5 q5 p6 q6 : ByteArray) (w : World) (j : Nat) (x : Value) (h : [Value.string p0, .string q0, .string p1, .string q1, .string p2, .string q2, .string p3, .string q3, .string p4, .string q4, .string p5, .string q5, .string p6, .string q6][j]? = some x) :
    (w.alloc (.cells #[.string p0, .string q0, .string p1, .string q1, .string p2, .string q2, .string p3, .string q3, .string p4, .string q4, .string p5, .string q5, .string p6, .string q6] 37)).cell? ⟨w.heap.size, j, none⟩ = some x := by
  match j, h with
  | 0, h | 1, h | 2, h | 3, h | 4, h | 5, h | 6, h | 7, h | 8, h | 9, h | 10, h | 11, h | 12, h | 13, h => cases h; simp [go_sem]
  | j + 14, h => simp at h
def pr7 (d c l : Bs) (k j : Nat) (b : UInt8) : List (Bs × Bs) := [(l, c), (d, l), (d, c), (turnD d k b, c), (d, turnD c j b), (turnD d k (dC (b.toNat % 10)), c), (d, turnD c j (dC (b.toNat % 10)))]
/-- Pairs of texts lie one behind the other in block H. -/
def Prs (w : World) (H : Nat) (L : List (Bs × Bs)) : Prop := H < w.heap.size ∧ ∀ i x, L[i]? = some x → w.cell? ⟨H, i * 2, none⟩ = some (.string (baS x.1)) ∧ w.cell? ⟨H, i * 2 + 1, none⟩ = some (.string (baS x.2))
theorem Prs.below {w w' : World} {H : Nat} {L : List (Bs × Bs)} (h : Prs w H L) (hb : Below w.heap.size w w') : Prs w' H L := by
  obtain ⟨k, hl⟩ := keep hb H h.1
  exact ⟨hl, fun i x hi => ⟨(k _).trans (h.2 i x hi).1, (k _).trans (h.2 i x hi).2⟩⟩
theorem prs_of (d c l : Bs) (k j : Nat) (b : UInt8) {w : World} {H : Nat} (hH : H < w.heap.size) (h : ∀ i x, (vs7 d c l k j b)[i]? = some x → w.cell? ⟨H, i, none⟩ = some x) : Prs w H (pr7 d c l k j b) := by
  refine ⟨hH, fun i x hi => ?_⟩
  match i, hi with
  | 0, hi | 1, hi | 2, hi | 3, hi | 4, hi | 5, hi | 6, hi => cases hi; exact ⟨h _ _ rfl, h _ _ rfl⟩
  | i + 7, hi => simp [pr7] at hi
def vs6 (l T : Bs) (b : UInt8) : List Value := [.string (baS l), .string (baS T), .string (baS ([48] ++ T)), .string (baS (T ++ [48])), .string (baS (T ++ [b])), .string (baS (T.drop 1))]
def sx6 (l T : Bs) (b : UInt8) : List Bs := [l, T, [48] ++ T, T ++ [48], T ++ [b], T.drop 1]
def Sxs (w : World) (H : Nat) (L : List Bs) : Prop := H < w.heap.size ∧ ∀ i x, L[i]? = some x → w.cell? ⟨H, i, none⟩ = some (.string (baS x))
theorem Sxs.below {w w' : World} {H : Nat} {L : List Bs} (h : Sxs w H L) (hb : Below w.heap.size w w') : Sxs w' H L := by
  obtain ⟨k, hl⟩ := keep hb H h.1
  exact ⟨hl, fun i x hi => (k _).trans (h.2 i x hi)⟩
theorem sx_of (l T : Bs) (b : UInt8) {w : World} {H : Nat} (hH : H < w.heap.size) (h : ∀ i x, (vs6 l T b)[i]? = some x → w.cell? ⟨H, i, none⟩ = some x) : Sxs w H (sx6 l T b) := by
  refine ⟨hH, fun i x hi => ?_⟩
  match i, hi with
  | 0, hi | 1, hi | 2, hi | 3, hi | 4, hi | 5, hi => cases hi; exact h _ _ rfl
  | i + 6, hi => simp [sx6] at hi
theorem sx_len (l T : Bs) (b : UInt8) (hl : l.length ≤ 100) (hT : T.length ≤ 20) : ∀ x ∈ sx6 l T b, x.length ≤ 1000 := by
  intro x hx
  simp only [sx6, List.mem_cons, List.not_mem_nil, or_false] at hx
  rcases hx with rfl | rfl | rfl | rfl | rfl | rfl <;> (try simp only [List.length_append, List.length_cons, List.length_nil, List.length_drop]) <;> omega
theorem row6_cells (p0 p1 p2 p3 p4 p5 : ByteArray) (w : World) (j : Nat) (x : Value) (h : [Value.string p0, .string p1, .string p2, .string p3, .string p4, .string p5][j]? = some x) :
    (w.alloc (.cells #[.string p0, .string p1, .string p2, .string p3, .string p4, .string p5] 9)).cell? ⟨w.heap.size, j, none⟩ = some x := by
  match j, h with
  | 0, h | 1, h | 2, h | 3, h | 4, h | 5, h => cases h; simp [go_sem]
  | j + 6, h => simp at h
def l23 (p : Option Addr) (cap : Nat) (l T : Bs) (b : UInt8) : List SpK := [.eqv (.slice p l.length cap), .eqv (.string (baS l)), .eqv (.string (baS T)), .eqv (.string (baS T)), .eqv (.string (baS ([48] ++ T))), .eqv (.string (baS T)), .eqv (.string (baS (T ++ [48]))), .eqv (.string (baS T)), .eqv (.int .u8 (b.toNat : Nat)), .one b, .eqv (.string (baS [b])), .eqv (.string (baS (T ++ [b]))), .eqv (.string (baS T)), .eqv (.string (baS (T.drop 1))), .row 6 (vs6 l T b), .eqv (.int .i64 6), .eqv (.int .i64 0)]
def l14a (p : Option Addr) (cap : Nat) (d c l : Bs) (k j : Nat) (b : UInt8) : List SpK := [.eqv (.slice p l.length cap),
  .eqv (.string (baS l)),
  .eqv (.string (baS c)),
  .eqv (.agg #[.string (baS l), .string (baS c)]),
  .eqv (.string (baS d)),
  .eqv (.slice p l.length cap),
  .eqv (.string (baS l)),
  .eqv (.agg #[.string (baS d), .string (baS l)]),
  .eqv (.string (baS d)),
  .eqv (.string (baS c)),
  .eqv (.agg #[.string (baS d), .string (baS c)]),
  .eqv (.string (baS d)),
  .eqv (.int .i64 (k : Int)),
  .eqv (.string (baS (d.take k))),
  .eqv (.int .u8 (b.toNat : Nat)),
  .one b,
  .eqv (.string (baS [b])),
  .eqv (.string (baS ((d.take k) ++ [b]))),
  .eqv (.string (baS d)),
  .eqv (.int .i64 (k : Int)),
  .eqv (.int .i64 ((k : Int) + 1)),
  .eqv (.string (baS (d.drop (k + 1)))),
  .eqv (.string (baS (((d.take k) ++ [b]) ++ (d.drop (k + 1))))),
  .eqv (.string (baS c)),
  .eqv (.agg #[.string (baS (((d.take k) ++ [b]) ++ (d.drop (k + 1)))), .string (baS c)]),
  .eqv (.string (baS d)),
  .eqv (.string (baS c)),
  .eqv (.int .i64 (j : Int)),
  .eqv (.string (baS (c.take j))),
  .eqv (.int .u8 (b.toNat : Nat)),
  .one b,
  .eqv (.string (baS [b])),
  .eqv (.string (baS ((c.take j) ++ [b]))),
  .eqv (.string (baS c)),
  .eqv (.int .i64 (j : Int)),
  .eqv (.int .i64 ((j : Int) + 1)),
  .eqv (.string (baS (c.drop (j + 1))))]
def l14b (d c l : Bs) (k j : Nat) (b : UInt8) : List SpK := [.eqv (.string (baS (((c.take j) ++ [b]) ++ (c.drop (j + 1))))),
  .eqv (.agg #[.string (baS d), .string (baS (((c.take j) ++ [b]) ++ (c.drop (j + 1))))]),
  .eqv (.string (baS d)),
  .eqv (.int .i64 (k : Int)),
  .eqv (.string (baS (d.take k))),
  .eqv (.int .u8 (b.toNat : Nat)),
  .eqv (.int .u8 ((b.toNat % 10 : Nat) : Int)),
  .eqv (.int .u8 ((dC (b.toNat % 10)).toNat : Nat)),
  .one (dC (b.toNat % 10)),
  .eqv (.string (baS [(dC (b.toNat % 10))])),
  .eqv (.string (baS ((d.take k) ++ [(dC (b.toNat % 10))]))),
  .eqv (.string (baS d)),
  .eqv (.int .i64 (k : Int)),
  .eqv (.int .i64 ((k : Int) + 1)),
  .eqv (.string (baS (d.drop (k + 1)))),
  .eqv (.string (baS (((d.take k) ++ [(dC (b.toNat % 10))]) ++ (d.drop (k + 1))))),
  .eqv (.string (baS c)),
  .eqv (.agg #[.string (baS (((d.take k) ++ [(dC (b.toNat % 10))]) ++ (d.drop (k + 1)))), .string (baS c)]),
  .eqv (.string (baS d)),
  .eqv (.string (baS c)),
  .eqv (.int .i64 (j : Int)),
  .eqv (.string (baS (c.take j))),
  .eqv (.int .u8 (b.toNat : Nat)),
  .eqv (.int .u8 ((b.toNat % 10 : Nat) : Int)),
  .eqv (.int .u8 ((dC (b.toNat % 10)).toNat : Nat)),
  .one (dC (b.toNat % 10)),
  .eqv (.string (baS [(dC (b.toNat % 10))])),
  .eqv (.string (baS ((c.take j) ++ [(dC (b.toNat % 10))]))),
  .eqv (.string (baS c)),
  .eqv (.int .i64 (j : Int)),
  .eqv (.int .i64 ((j : Int) + 1)),
  .eqv (.string (baS (c.drop (j + 1)))),
  .eqv (.string (baS (((c.take j) ++ [(dC (b.toNat % 10))]) ++ (c.drop (j + 1))))),
  .eqv (.agg #[.string (baS d), .string (baS (((c.take j) ++ [(dC (b.toNat % 10))]) ++ (c.drop (j + 1))))]),
  .row 7 (vs7 d c l k j b),
  .eqv (.int .i64 7),
  .eqv (.int .i64 0)]
set_option maxHeartbeats 8000000 in
set_option maxRecDepth 100000 in
theorem dtells_walk (p : Option Addr) (l : Bs) (cap : Nat) (sec at_ by_ n most : Int) (w : World) (hg : Gl w) (hr : BytesAt w p l) (hsec : 0 ≤ sec ∧ sec < 18446744073709551616) (hby : 0 ≤ by_ ∧ by_ < 256) (hn : 0 ≤ n ∧ n < 18446744073709551616) (hm : 0 ≤ most ∧ most < 18446744073709551616) :
    Calls Tryd.prog 5 #[.slice p l.length cap, .int .u64 sec, .int .i64 at_, .int .u8 by_, .int .u64 n, .int .u64 most] w fun e w' => e = .returned (.bool true) ∧ Below w.heap.size w w' := by
  have HG := Lib.hid hg
  by_cases hl : 100 < l.length
  · have hl' : (100 : Int) < l.length := by omega
    clear hr hn hby hl hg
    go_enter Tryd.func5, Tryd.ntmps5
    go_wp2_with fail
    refine (awake6_x _ HG.out).mono ?_
    rintro e w1 ⟨rfl, B1⟩
    go_wp2
    go_ret
    exact ⟨rfl, B1⟩
  · have hl' : ¬ (100 : Int) < l.length := by omega
    obtain ⟨S, rfl⟩ := Int.eq_ofNat_of_zero_le hsec.1
    obtain ⟨N, rfl⟩ := Int.eq_ofNat_of_zero_le hn.1
    obtain ⟨M, rfl⟩ := Int.eq_ofNat_of_zero_le hm.1
    obtain ⟨b, hb8⟩ : ∃ b : UInt8, by_ = b.toNat := ⟨UInt8.ofNat by_.toNat, by simp; omega⟩
    subst hb8
    have HS : Hid (S < 18446744073709551616) := by show _ < _; omega
    have HN : Hid (N < 18446744073709551616) := by show _ < _; omega
    have HM : Hid (M < 18446744073709551616) := by show _ < _; omega
    have HR := Lib.hid hr
    have HL := Lib.hid hl
    have HAT : Hid (∃ k : Nat, k < 10 ∧ (bits BinOp.and IntKind.i64 at_ 255).tmod 10 = (k : Int)) := by
      rw [i64_and255, Int.tmod_eq_emod_of_nonneg (by omega)]
      exact ⟨(at_ % 256 % 10).toNat, by omega, by omega⟩
    clear hg hn hby hm hsec hr hl
    go_enter Tryd.func5, Tryd.ntmps5
    go_wp2_with fail
    go_loopw [1, 13] (fun sv iv wr => ∃ (s k : Nat), k ≤ 2 ∧ sv = .int .u64 s ∧ iv = .int .i64 k ∧ Hid (s < 18446744073709551616 ∧ (0 < k → s ≤ 253402300799)) ∧ Below w.heap.size w wr)
      (fun _ iv _ => 2 - (intOf iv).toNat)
    case atStart => exact ⟨S, 0, by omega, rfl, rfl, ⟨HS.out, fun h => absurd h (by omega)⟩, Below.refl _ _⟩
    case round =>
      obtain ⟨s, k, hk, rfl, rfl, hh, hb⟩ := hrel
      by_cases hk2 : k < 2
      · have hk2' : (k : Int) < 2 := by omega
        obtain ⟨d, c, ok, P1, P2, P3⟩ := print_both s
        have K1 := Lib.hid P1
        have K2 := Lib.hid P2
        have K3 := Lib.hid (fun w => weekD_x s w hh.out.1)
        have K4 := Lib.hid (fun w => weekR_x s w hh.out.1)
        have hw : ((s : Int)).tmod 253402300800 = ((s % 253402300800 : Nat) : Int) := by rw [Int.tmod_eq_emod_of_nonneg (by omega)]; omega
        have hw' : ((s : Int)) % 253402300800 = ((s % 253402300800 : Nat) : Int) := by omega
        have HX : Hid (s % 253402300800 ≤ 253402300799) := by show _ ≤ _; omega
        generalize weekN s = wk at K3 K4
        generalize s % 253402300800 = s' at *
        clear P1 P2 P3 hh
        go_wp2_with fail
        refine (K1.out _ (HG.out.below hb)).mono ?_
        rintro e w2 ⟨rfl, hb2⟩
        go_wp2_with fail
        refine (K2.out _).mono ?_
        rintro e w3 ⟨rfl, hb3⟩
        go_wp2_with fail
        refine (K3.out _).mono ?_
        rintro e w4 ⟨rfl, rfl⟩
        go_wp2_with fail
        refine (K4.out _).mono ?_
        rintro e w5 ⟨rfl, rfl⟩
        go_wp2
        go_roundw
        case rel => exact ⟨s', k + 1, by omega, by go_num, by go_num, ⟨by have := HX.out; omega, fun _ => HX.out⟩, below_next (below_next hb hb2) hb3⟩
        case measure => simp [intOf]; omega
      · obtain rfl : k = 2 := by omega
        obtain ⟨d, c, ok, P1, P2, P3⟩ := print_both s
        obtain ⟨hdl, hcl⟩ := P3 (hh.out.2 (by omega))
        have K2 := Lib.hid P2
        have HD := Lib.hid (And.intro hdl hcl)
        clear P1 P2 P3 hh hdl hcl hk2 hk
        obtain ⟨k, hk, hke⟩ := HAT.out
        obtain ⟨j, hj, hje⟩ := shr8_and7 at_
        clear HAT
        go_wp2_with fail
        refine (K2.out _).mono ?_
        rintro e w2 ⟨rfl, hb2⟩
        have B2 := below_next hb hb2
        clear hb hb2
        go_wp2_with fail
        go_cut [163, 164, 165] (fun sv lv iv wx => (∃ H, sv = .slice (some ⟨H, 0, none⟩) 7 7 ∧ H < wx.heap.size ∧ ∀ i x, (vs7 d c l k j b)[i]? = some x → wx.cell? ⟨H, i, none⟩ = some x) ∧ lv = .int .i64 7 ∧ iv = .int .i64 0 ∧ Below w2.heap.size w2 wx)
        case first =>
          refine region_all 92 166 (spOf 92 (l14a p cap d c l k j b ++ l14b d c l k j b)) (by kernel_rfl) (by kernel_rfl) (by kernel_rfl) (show (166 : Nat) ≤ 244 by decide) (spOf_mono 92 _) ?hst ?hend
          case hst =>
            refine AllOps.app _ _ _ ?_ ?_
            rotate_left
            refine AllOps.cons (fun a w hA hB hD => ⟨.string (baS (((c.take j) ++ [b]) ++ (c.drop (j + 1)))), w, x_addS rfl (sp_get rfl (hD 32 rfl)) (sp_get rfl (hD 36 rfl)) (by have := HD.out; simp; omega) (by have := HD.out; simp; try omega) w, sp_eqv rfl rfl, Below.refl _ _⟩) ?_
            refine AllOps.cons (fun a w hA hB hD => ⟨.agg #[.string (baS d), .string (baS (((c.take j) ++ [b]) ++ (c.drop (j + 1))))], w, x_build rfl (sp_get rfl (hD 25 rfl)) (sp_get rfl (hD 37 rfl)) w, sp_eqv rfl rfl, Below.refl _ _⟩) ?_
            refine AllOps.cons (fun a w hA hB hD => ⟨.string (baS d), w, x_move rfl ((hA 20 (by decide)).trans rfl) w, sp_eqv rfl rfl, Below.refl _ _⟩) ?_
            refine AllOps.cons (fun a w hA hB hD => ⟨.int .i64 (k : Int), w, x_move rfl ((hA 23 (by decide)).trans rfl) w, sp_eqv rfl rfl, Below.refl _ _⟩) ?_
            refine AllOps.cons (fun a w hA hB hD => ⟨.string (baS (d.take k)), w, x_sliceTo rfl (sp_get rfl (hD 39 rfl)) (sp_get rfl (hD 40 rfl)) (by have := HD.out; omega) w, sp_eqv rfl rfl, Below.refl _ _⟩) ?_
            refine AllOps.cons (fun a w hA hB hD => ⟨.int .u8 (b.toNat : Nat), w, x_move rfl ((hA 3 (by decide)).trans rfl) w, sp_eqv rfl rfl, Below.refl _ _⟩) ?_
            refine AllOps.cons (fun a w hA hB hD => ⟨.int .u8 ((b.toNat % 10 : Nat) : Int), w, x_rem rfl (sp_get rfl (hD 42 rfl)) (UInt8.toNat_lt b) w, sp_eqv rfl rfl, Below.refl _ _⟩) ?_
            refine AllOps.cons (fun a w hA hB hD => ⟨.int .u8 ((dC (b.toNat % 10)).toNat : Nat), w, x_add48 rfl (sp_get rfl (hD 43 rfl)) (Nat.mod_lt _ (by decide)) w, sp_eqv rfl rfl, Below.refl _ _⟩) ?_
            refine AllOps.cons (fun a w hA hB hD => ⟨_, _, x_one rfl (sp_get rfl (hD 44 rfl)) w, sp_one_new rfl, (Below.refl _ _).alloc (Nat.le_refl _) _⟩) ?_
            refine AllOps.cons (fun a w hA hB hD => (let ⟨G, hv, _, hc⟩ := sp_one rfl (hD 45 rfl); ⟨.string (baS [(dC (b.toNat % 10))]), w, x_conv rfl hv (byteG w G (dC (b.toNat % 10)) hc), sp_eqv rfl rfl, Below.refl _ _⟩)) ?_
            refine AllOps.cons (fun a w hA hB hD => ⟨.string (baS ((d.take k) ++ [(dC (b.toNat % 10))])), w, x_addS rfl (sp_get rfl (hD 41 rfl)) (sp_get rfl (hD 46 rfl)) (by have := HD.out; simp; omega) (by have := HD.out; simp; try omega) w, sp_eqv rfl rfl, Below.refl _ _⟩) ?_
            refine AllOps.cons (fun a w hA hB hD => ⟨.string (baS d), w, x_move rfl ((hA 20 (by decide)).trans rfl) w, sp_eqv rfl rfl, Below.refl _ _⟩) ?_
            refine AllOps.cons (fun a w hA hB hD => ⟨.int .i64 (k : Int), w, x_move rfl ((hA 23 (by decide)).trans rfl) w, sp_eqv rfl rfl, Below.refl _ _⟩) ?_
            refine AllOps.cons (fun a w hA hB hD => ⟨.int .i64 ((k : Int) + 1), w, x_add1 rfl (sp_get rfl (hD 49 rfl)) (by omega) w, sp_eqv rfl rfl, Below.refl _ _⟩) ?_
            refine AllOps.cons (fun a w hA hB hD => ⟨.string (baS (d.drop (k + 1))), w, x_sliceFrom rfl (sp_get rfl (hD 48 rfl)) (sp_get rfl (hD 50 rfl)) (by have := HD.out; omega) w, sp_eqv rfl rfl, Below.refl _ _⟩) ?_
            refine AllOps.cons (fun a w hA hB hD => ⟨.string (baS (((d.take k) ++ [(dC (b.toNat % 10))]) ++ (d.drop (k + 1)))), w, x_addS rfl (sp_get rfl (hD 47 rfl)) (sp_get rfl (hD 51 rfl)) (by have := HD.out; simp; omega) (by have := HD.out; simp; try omega) w, sp_eqv rfl rfl, Below.refl _ _⟩) ?_
            refine AllOps.cons (fun a w hA hB hD => ⟨.string (baS c), w, x_move rfl ((hA 21 (by decide)).trans rfl) w, sp_eqv rfl rfl, Below.refl _ _⟩) ?_
            refine AllOps.cons (fun a w hA hB hD => ⟨.agg #[.string (baS (((d.take k) ++ [(dC (b.toNat % 10))]) ++ (d.drop (k + 1)))), .string (baS c)], w, x_build rfl (sp_get rfl (hD 52 rfl)) (sp_get rfl (hD 53 rfl)) w, sp_eqv rfl rfl, Below.refl _ _⟩) ?_
            refine AllOps.cons (fun a w hA hB hD => ⟨.string (baS d), w, x_move rfl ((hA 20 (by decide)).trans rfl) w, sp_eqv rfl rfl, Below.refl _ _⟩) ?_
            refine AllOps.cons (fun a w hA hB hD => ⟨.string (baS c), w, x_move rfl ((hA 21 (by decide)).trans rfl) w, sp_eqv rfl rfl, Below.refl _ _⟩) ?_
            refine AllOps.cons (fun a w hA hB hD => ⟨.int .i64 (j : Int), w, x_move rfl ((hA 24 (by decide)).trans rfl) w, sp_eqv rfl rfl, Below.refl _ _⟩) ?_
            refine AllOps.cons (fun a w hA hB hD => ⟨.string (baS (c.take j)), w, x_sliceTo rfl (sp_get rfl (hD 56 rfl)) (sp_get rfl (hD 57 rfl)) (by have := HD.out; omega) w, sp_eqv rfl rfl, Below.refl _ _⟩) ?_
            refine AllOps.cons (fun a w hA hB hD => ⟨.int .u8 (b.toNat : Nat), w, x_move rfl ((hA 3 (by decide)).trans rfl) w, sp_eqv rfl rfl, Below.refl _ _⟩) ?_
            refine AllOps.cons (fun a w hA hB hD => ⟨.int .u8 ((b.toNat % 10 : Nat) : Int), w, x_rem rfl (sp_get rfl (hD 59 rfl)) (UInt8.toNat_lt b) w, sp_eqv rfl rfl, Below.refl _ _⟩) ?_
            refine AllOps.cons (fun a w hA hB hD => ⟨.int .u8 ((dC (b.toNat % 10)).toNat : Nat), w, x_add48 rfl (sp_get rfl (hD 60 rfl)) (Nat.mod_lt _ (by decide)) w, sp_eqv rfl rfl, Below.refl _ _⟩) ?_
            refine AllOps.cons (fun a w hA hB hD => ⟨_, _, x_one rfl (sp_get rfl (hD 61 rfl)) w, sp_one_new rfl, (Below.refl _ _).alloc (Nat.le_refl _) _⟩) ?_
            refine AllOps.cons (fun a w hA hB hD => (let ⟨G, hv, _, hc⟩ := sp_one rfl (hD 62 rfl); ⟨.string (baS [(dC (b.toNat % 10))]), w, x_conv rfl hv (byteG w G (dC (b.toNat % 10)) hc), sp_eqv rfl rfl, Below.refl _ _⟩)) ?_
            refine AllOps.cons (fun a w hA hB hD => ⟨.string (baS ((c.take j) ++ [(dC (b.toNat % 10))])), w, x_addS rfl (sp_get rfl (hD 58 rfl)) (sp_get rfl (hD 63 rfl)) (by have := HD.out; simp; omega) (by have := HD.out; simp; try omega) w, sp_eqv rfl rfl, Below.refl _ _⟩) ?_
            refine AllOps.cons (fun a w hA hB hD => ⟨.string (baS c), w, x_move rfl ((hA 21 (by decide)).trans rfl) w, sp_eqv rfl rfl, Below.refl _ _⟩) ?_
            refine AllOps.cons (fun a w hA hB hD => ⟨.int .i64 (j : Int), w, x_move rfl ((hA 24 (by decide)).trans rfl) w, sp_eqv rfl rfl, Below.refl _ _⟩) ?_
            refine AllOps.cons (fun a w hA hB hD => ⟨.int .i64 ((j : Int) + 1), w, x_add1 rfl (sp_get rfl (hD 66 rfl)) (by omega) w, sp_eqv rfl rfl, Below.refl _ _⟩) ?_
            refine AllOps.cons (fun a w hA hB hD => ⟨.string (baS (c.drop (j + 1))), w, x_sliceFrom rfl (sp_get rfl (hD 65 rfl)) (sp_get rfl (hD 67 rfl)) (by have := HD.out; omega) w, sp_eqv rfl rfl, Below.refl _ _⟩) ?_
            refine AllOps.cons (fun a w hA hB hD => ⟨.string (baS (((c.take j) ++ [(dC (b.toNat % 10))]) ++ (c.drop (j + 1)))), w, x_addS rfl (sp_get rfl (hD 64 rfl)) (sp_get rfl (hD 68 rfl)) (by have := HD.out; simp; omega) (by have := HD.out; simp; try omega) w, sp_eqv rfl rfl, Below.refl _ _⟩) ?_
            refine AllOps.cons (fun a w hA hB hD => ⟨.agg #[.string (baS d), .string (baS (((c.take j) ++ [(dC (b.toNat % 10))]) ++ (c.drop (j + 1))))], w, x_build rfl (sp_get rfl (hD 55 rfl)) (sp_get rfl (hD 69 rfl)) w, sp_eqv rfl rfl, Below.refl _ _⟩) ?_
            refine AllOps.cons (fun a w hA hB hD => ⟨_, _, x_row7 rfl (sp_get rfl (hD 3 rfl)) (sp_get rfl (hD 7 rfl)) (sp_get rfl (hD 10 rfl)) (sp_get rfl (hD 24 rfl)) (sp_get rfl (hD 38 rfl)) (sp_get rfl (hD 54 rfl)) (sp_get rfl (hD 70 rfl)) w, sp_row_new rfl (row7_cells _ _ _ _ _ _ _ _ _ _ _ _ _ _ w), (Below.refl _ _).alloc (Nat.le_refl _) _⟩) ?_
            refine AllOps.cons (fun a w hA hB hD => (let ⟨H, hv, _⟩ := sp_row rfl (hD 71 rfl); ⟨.int .i64 7, w, x_len (E := 37) (fun _ => by kernel_rfl) rfl hv w, sp_eqv rfl rfl, Below.refl _ _⟩)) ?_
            refine AllOps.cons (fun a w hA hB hD => ⟨.int .i64 0, w, x_move (x := .const (.int .i64 0)) rfl rfl w, sp_eqv rfl rfl, Below.refl _ _⟩) ?_
            exact trivial
            refine AllOps.cons (fun a w hA hB hD => ⟨.slice p l.length cap, w, x_move rfl ((hA 0 (by decide)).trans rfl) w, sp_eqv rfl rfl, Below.refl _ _⟩) ?_
            refine AllOps.cons (fun a w hA hB hD => ⟨.string (baS l), w, x_conv rfl (sp_get rfl (hD 0 rfl)) (conv_bytes cap (HR.out.below (below_next B2 hB))), sp_eqv rfl rfl, Below.refl _ _⟩) ?_
            refine AllOps.cons (fun a w hA hB hD => ⟨.string (baS c), w, x_move rfl ((hA 21 (by decide)).trans rfl) w, sp_eqv rfl rfl, Below.refl _ _⟩) ?_
            refine AllOps.cons (fun a w hA hB hD => ⟨.agg #[.string (baS l), .string (baS c)], w, x_build rfl (sp_get rfl (hD 1 rfl)) (sp_get rfl (hD 2 rfl)) w, sp_eqv rfl rfl, Below.refl _ _⟩) ?_
            refine AllOps.cons (fun a w hA hB hD => ⟨.string (baS d), w, x_move rfl ((hA 20 (by decide)).trans rfl) w, sp_eqv rfl rfl, Below.refl _ _⟩) ?_
            refine AllOps.cons (fun a w hA hB hD => ⟨.slice p l.length cap, w, x_move rfl ((hA 0 (by decide)).trans rfl) w, sp_eqv rfl rfl, Below.refl _ _⟩) ?_
            refine AllOps.cons (fun a w hA hB hD => ⟨.string (baS l), w, x_conv rfl (sp_get rfl (hD 5 rfl)) (conv_bytes cap (HR.out.below (below_next B2 hB))), sp_eqv rfl rfl, Below.refl _ _⟩) ?_
            refine AllOps.cons (fun a w hA hB hD => ⟨.agg #[.string (baS d), .string (baS l)], w, x_build rfl (sp_get rfl (hD 4 rfl)) (sp_get rfl (hD 6 rfl)) w, sp_eqv rfl rfl, Below.refl _ _⟩) ?_
            refine AllOps.cons (fun a w hA hB hD => ⟨.string (baS d), w, x_move rfl ((hA 20 (by decide)).trans rfl) w, sp_eqv rfl rfl, Below.refl _ _⟩) ?_
            refine AllOps.cons (fun a w hA hB hD => ⟨.string (baS c), w, x_move rfl ((hA 21 (by decide)).trans rfl) w, sp_eqv rfl rfl, Below.refl _ _⟩) ?_
            refine AllOps.cons (fun a w hA hB hD => ⟨.agg #[.string (baS d), .string (baS c)], w, x_build rfl (sp_get rfl (hD 8 rfl)) (sp_get rfl (hD 9 rfl)) w, sp_eqv rfl rfl, Below.refl _ _⟩) ?_
            refine AllOps.cons (fun a w hA hB hD => ⟨.string (baS d), w, x_move rfl ((hA 20 (by decide)).trans rfl) w, sp_eqv rfl rfl, Below.refl _ _⟩) ?_
            refine AllOps.cons (fun a w hA hB hD => ⟨.int .i64 (k : Int), w, x_move rfl ((hA 23 (by decide)).trans rfl) w, sp_eqv rfl rfl, Below.refl _ _⟩) ?_
            refine AllOps.cons (fun a w hA hB hD => ⟨.string (baS (d.take k)), w, x_sliceTo rfl (sp_get rfl (hD 11 rfl)) (sp_get rfl (hD 12 rfl)) (by have := HD.out; omega) w, sp_eqv rfl rfl, Below.refl _ _⟩) ?_
            refine AllOps.cons (fun a w hA hB hD => ⟨.int .u8 (b.toNat : Nat), w, x_move rfl ((hA 3 (by decide)).trans rfl) w, sp_eqv rfl rfl, Below.refl _ _⟩) ?_
            refine AllOps.cons (fun a w hA hB hD => ⟨_, _, x_one rfl (sp_get rfl (hD 14 rfl)) w, sp_one_new rfl, (Below.refl _ _).alloc (Nat.le_refl _) _⟩) ?_
            refine AllOps.cons (fun a w hA hB hD => (let ⟨G, hv, _, hc⟩ := sp_one rfl (hD 15 rfl); ⟨.string (baS [b]), w, x_conv rfl hv (byteG w G b hc), sp_eqv rfl rfl, Below.refl _ _⟩)) ?_
            refine AllOps.cons (fun a w hA hB hD => ⟨.string (baS ((d.take k) ++ [b])), w, x_addS rfl (sp_get rfl (hD 13 rfl)) (sp_get rfl (hD 16 rfl)) (by have := HD.out; simp; omega) (by have := HD.out; simp; try omega) w, sp_eqv rfl rfl, Below.refl _ _⟩) ?_
            refine AllOps.cons (fun a w hA hB hD => ⟨.string (baS d), w, x_move rfl ((hA 20 (by decide)).trans rfl) w, sp_eqv rfl rfl, Below.refl _ _⟩) ?_
            refine AllOps.cons (fun a w hA hB hD => ⟨.int .i64 (k : Int), w, x_move rfl ((hA 23 (by decide)).trans rfl) w, sp_eqv rfl rfl, Below.refl _ _⟩) ?_
            refine AllOps.cons (fun a w hA hB hD => ⟨.int .i64 ((k : Int) + 1), w, x_add1 rfl (sp_get rfl (hD 19 rfl)) (by omega) w, sp_eqv rfl rfl, Below.refl _ _⟩) ?_
            refine AllOps.cons (fun a w hA hB hD => ⟨.string (baS (d.drop (k + 1))), w, x_sliceFrom rfl (sp_get rfl (hD 18 rfl)) (sp_get rfl (hD 20 rfl)) (by have := HD.out; omega) w, sp_eqv rfl rfl, Below.refl _ _⟩) ?_
            refine AllOps.cons (fun a w hA hB hD => ⟨.string (baS (((d.take k) ++ [b]) ++ (d.drop (k + 1)))), w, x_addS rfl (sp_get rfl (hD 17 rfl)) (sp_get rfl (hD 21 rfl)) (by have := HD.out; simp; omega) (by have := HD.out; simp; try omega) w, sp_eqv rfl rfl, Below.refl _ _⟩) ?_
            refine AllOps.cons (fun a w hA hB hD => ⟨.string (baS c), w, x_move rfl ((hA 21 (by decide)).trans rfl) w, sp_eqv rfl rfl, Below.refl _ _⟩) ?_
            refine AllOps.cons (fun a w hA hB hD => ⟨.agg #[.string (baS (((d.take k) ++ [b]) ++ (d.drop (k + 1)))), .string (baS c)], w, x_build rfl (sp_get rfl (hD 22 rfl)) (sp_get rfl (hD 23 rfl)) w, sp_eqv rfl rfl, Below.refl _ _⟩) ?_
            refine AllOps.cons (fun a w hA hB hD => ⟨.string (baS d), w, x_move rfl ((hA 20 (by decide)).trans rfl) w, sp_eqv rfl rfl, Below.refl _ _⟩) ?_
            refine AllOps.cons (fun a w hA hB hD => ⟨.string (baS c), w, x_move rfl ((hA 21 (by decide)).trans rfl) w, sp_eqv rfl rfl, Below.refl _ _⟩) ?_
            refine AllOps.cons (fun a w hA hB hD => ⟨.int .i64 (j : Int), w, x_move rfl ((hA 24 (by decide)).trans rfl) w, sp_eqv rfl rfl, Below.refl _ _⟩) ?_
            refine AllOps.cons (fun a w hA hB hD => ⟨.string (baS (c.take j)), w, x_sliceTo rfl (sp_get rfl (hD 26 rfl)) (sp_get rfl (hD 27 rfl)) (by have := HD.out; omega) w, sp_eqv rfl rfl, Below.refl _ _⟩) ?_
            refine AllOps.cons (fun a w hA hB hD => ⟨.int .u8 (b.toNat : Nat), w, x_move rfl ((hA 3 (by decide)).trans rfl) w, sp_eqv rfl rfl, Below.refl _ _⟩) ?_
            refine AllOps.cons (fun a w hA hB hD => ⟨_, _, x_one rfl (sp_get rfl (hD 29 rfl)) w, sp_one_new rfl, (Below.refl _ _).alloc (Nat.le_refl _) _⟩) ?_
            refine AllOps.cons (fun a w hA hB hD => (let ⟨G, hv, _, hc⟩ := sp_one rfl (hD 30 rfl); ⟨.string (baS [b]), w, x_conv rfl hv (byteG w G b hc), sp_eqv rfl rfl, Below.refl _ _⟩)) ?_
            refine AllOps.cons (fun a w hA hB hD => ⟨.string (baS ((c.take j) ++ [b])), w, x_addS rfl (sp_get rfl (hD 28 rfl)) (sp_get rfl (hD 31 rfl)) (by have := HD.out; simp; omega) (by have := HD.out; simp; try omega) w, sp_eqv rfl rfl, Below.refl _ _⟩) ?_
            refine AllOps.cons (fun a w hA hB hD => ⟨.string (baS c), w, x_move rfl ((hA 21 (by decide)).trans rfl) w, sp_eqv rfl rfl, Below.refl _ _⟩) ?_
            refine AllOps.cons (fun a w hA hB hD => ⟨.int .i64 (j : Int), w, x_move rfl ((hA 24 (by decide)).trans rfl) w, sp_eqv rfl rfl, Below.refl _ _⟩) ?_
            refine AllOps.cons (fun a w hA hB hD => ⟨.int .i64 ((j : Int) + 1), w, x_add1 rfl (sp_get rfl (hD 34 rfl)) (by omega) w, sp_eqv rfl rfl, Below.refl _ _⟩) ?_
            refine AllOps.cons (fun a w hA hB hD => ⟨.string (baS (c.drop (j + 1))), w, x_sliceFrom rfl (sp_get rfl (hD 33 rfl)) (sp_get rfl (hD 35 rfl)) (by have := HD.out; omega) w, sp_eqv rfl rfl, Below.refl _ _⟩) ?_
            exact trivial
          case hend =>
            intro u wx hu hbx
            have h1 := sp_row rfl (hu 163 (by decide) (by decide))
            have h2 := sp_get rfl (hu 164 (by decide) (by decide))
            have h3 := sp_get rfl (hu 165 (by decide) (by decide))
            clear hu
            simp only [upd, Nat.reduceAdd, Nat.reduceLeDiff, Nat.reduceLT, and_true, and_false, ↓reduceIte]
            go_wp2_with fail
            go_meet
            exact ⟨h1, h2, h3, hbx⟩
        case rest =>
          obtain ⟨⟨H, rfl, hH, hcells⟩, rfl, rfl, BX0⟩ := hcut
          have BX := below_next B2 BX0
          have HP := Lib.hid (prs_of d c l k j b hH hcells)
          have hL7 : (pr7 d c l k j b).length = 7 := rfl
          generalize pr7 d c l k j b = L at HP hL7
          clear hcells hH BX0 B2 hk hj hke hje HD K2
          go_wp2_with fail
          go_loopw [165] (fun iv wr => ∃ (i : Nat), i ≤ 7 ∧ iv = .int .i64 i ∧ Below wc.heap.size wc wr)
            (fun iv _ => 7 - (intOf iv).toNat)
          case atStart => exact ⟨0, by omega, rfl, Below.refl _ _⟩
          case round =>
            obtain ⟨i, hi, rfl, hb⟩ := hrel
            by_cases hi7 : i < 7
            · have hi7' : (i : Int) < 7 := by omega
              have hiL : i < L.length := by omega
              have hpr := HP.out.below hb
              have hH1 := hpr.1
              obtain ⟨hc0, hc1⟩ := hpr.2 i _ (List.getElem?_eq_getElem hiL)
              generalize L[i]'hiL = x at hc0 hc1
              obtain ⟨x0, x1⟩ := x
              obtain ⟨n1, c1, er⟩ := numR_parts (dateV x0 x1)
              have K1 := Lib.hid (fun w hg => parseD_x x0 x1 w hg)
              have K2 := Lib.hid (fun w => dateR_x x0 x1 w)
              rw [er] at K1 K2
              simp only at hc0 hc1
              have HB0 := Lib.hid (below_next BX hb)
              clear er hiL hpr
              go_wp2_with fail
              refine (K1.out _ (HG.out.below (ball HB0.out))).mono ?_
              rintro e w3 ⟨rfl, hb3⟩
              have hB3 := below_next (ball hb) hb3
              obtain ⟨kc, kl⟩ := keep hb3 wr.heap.size (by simp)
              have k0 : w3.cell? ⟨wr.heap.size, 0, none⟩ = some (.string (baS x0)) := (kc 0).trans (by simp [go_sem])
              have k1 : w3.cell? ⟨wr.heap.size, 1, none⟩ = some (.string (baS x1)) := (kc 1).trans (by simp [go_sem])
              clear kc kl hb3
              go_wp2_with fail
              refine (K2.out _).mono ?_
              rintro e w4 ⟨rfl, hb4⟩
              go_wp2
              go_roundw
              case rel => exact ⟨i + 1, by omega, by go_num, below_next hB3 hb4⟩
              case measure => simp [intOf]; omega
            · obtain rfl : i = 7 := by omega
              have B5 := below_next BX hb
              have KT := Lib.hid (fun w => textR_x N w HN.out)
              have KU := Lib.hid (fun w hg => textD_x N w hg HN.out)
              have hdl := digs_len N HN.out
              generalize Lib.decDigits N = T at KT KU hdl
              have HD := Lib.hid hdl
              clear hb hi hi7 BX hL7 HP hdl
              go_wp2_with fail
              refine (KT.out _).mono ?_
              rintro e w6 ⟨rfl, hb6⟩
              have B6 := below_next B5 hb6
              clear hb6 B5
              go_wp2_with fail
              go_cut [210, 211, 212] (fun sv lv iv wx => (∃ H, sv = .slice (some ⟨H, 0, none⟩) 6 6 ∧ H < wx.heap.size ∧ ∀ i x, (vs6 l T b)[i]? = some x → wx.cell? ⟨H, i, none⟩ = some x) ∧ lv = .int .i64 6 ∧ iv = .int .i64 0 ∧ Below w6.heap.size w6 wx)
              case first =>
                refine region_all 196 213 (spOf 196 (l23 p cap l T b)) (by kernel_rfl) (by kernel_rfl) (by kernel_rfl) (show (213 : Nat) ≤ 244 by decide) (spOf_mono 196 _) ?hst ?hend
                case hst =>
                  refine AllOps.cons (fun a w hA hB hD => ⟨.slice p l.length cap, w, x_move rfl ((hA 0 (by decide)).trans rfl) w, sp_eqv rfl rfl, Below.refl _ _⟩) ?_
                  refine AllOps.cons (fun a w hA hB hD => ⟨.string (baS l), w, x_conv rfl (sp_get rfl (hD 0 rfl)) (conv_bytes cap (HR.out.below (below_next B6 hB))), sp_eqv rfl rfl, Below.refl _ _⟩) ?_
                  refine AllOps.cons (fun a w hA hB hD => ⟨.string (baS T), w, x_move rfl ((hA 31 (by decide)).trans rfl) w, sp_eqv rfl rfl, Below.refl _ _⟩) ?_
                  refine AllOps.cons (fun a w hA hB hD => ⟨.string (baS T), w, x_move rfl ((hA 31 (by decide)).trans rfl) w, sp_eqv rfl rfl, Below.refl _ _⟩) ?_
                  refine AllOps.cons (fun a w hA hB hD => ⟨.string (baS ([48] ++ T)), w, x_addS (s := [48]) (x := .const (.string ⟨#[48]⟩)) rfl rfl (sp_get rfl (hD 3 rfl)) (by simp) (by have := HD.out; omega) w, sp_eqv rfl rfl, Below.refl _ _⟩) ?_
                  refine AllOps.cons (fun a w hA hB hD => ⟨.string (baS T), w, x_move rfl ((hA 31 (by decide)).trans rfl) w, sp_eqv rfl rfl, Below.refl _ _⟩) ?_
                  refine AllOps.cons (fun a w hA hB hD => ⟨.string (baS (T ++ [48])), w, x_addS (t := [48]) (y := .const (.string ⟨#[48]⟩)) rfl (sp_get rfl (hD 5 rfl)) rfl (by have := HD.out; omega) (by simp) w, sp_eqv rfl rfl, Below.refl _ _⟩) ?_
                  refine AllOps.cons (fun a w hA hB hD => ⟨.string (baS T), w, x_move rfl ((hA 31 (by decide)).trans rfl) w, sp_eqv rfl rfl, Below.refl _ _⟩) ?_
                  refine AllOps.cons (fun a w hA hB hD => ⟨.int .u8 (b.toNat : Nat), w, x_move rfl ((hA 3 (by decide)).trans rfl) w, sp_eqv rfl rfl, Below.refl _ _⟩) ?_
                  refine AllOps.cons (fun a w hA hB hD => ⟨_, _, x_one rfl (sp_get rfl (hD 8 rfl)) w, sp_one_new rfl, (Below.refl _ _).alloc (Nat.le_refl _) _⟩) ?_
                  refine AllOps.cons (fun a w hA hB hD => (let ⟨G, hv, _, hc⟩ := sp_one rfl (hD 9 rfl); ⟨.string (baS [b]), w, x_conv rfl hv (byteG w G b hc), sp_eqv rfl rfl, Below.refl _ _⟩)) ?_
                  refine AllOps.cons (fun a w hA hB hD => ⟨.string (baS (T ++ [b])), w, x_addS rfl (sp_get rfl (hD 7 rfl)) (sp_get rfl (hD 10 rfl)) (by have := HD.out; omega) (by simp) w, sp_eqv rfl rfl, Below.refl _ _⟩) ?_
                  refine AllOps.cons (fun a w hA hB hD => ⟨.string (baS T), w, x_move rfl ((hA 31 (by decide)).trans rfl) w, sp_eqv rfl rfl, Below.refl _ _⟩) ?_
                  refine AllOps.cons (fun a w hA hB hD => ⟨.string (baS (T.drop 1)), w, x_sliceFrom (k := 0) (y := .const (.int .i64 1)) rfl (sp_get rfl (hD 12 rfl)) rfl (by have := HD.out; omega) w, sp_eqv rfl rfl, Below.refl _ _⟩) ?_
                  refine AllOps.cons (fun a w hA hB hD => ⟨_, _, x_row6 rfl (sp_get rfl (hD 1 rfl)) (sp_get rfl (hD 2 rfl)) (sp_get rfl (hD 4 rfl)) (sp_get rfl (hD 6 rfl)) (sp_get rfl (hD 11 rfl)) (sp_get rfl (hD 13 rfl)) w, sp_row_new rfl (row6_cells _ _ _ _ _ _ w), (Below.refl _ _).alloc (Nat.le_refl _) _⟩) ?_
                  refine AllOps.cons (fun a w hA hB hD => (let ⟨H, hv, _⟩ := sp_row rfl (hD 14 rfl); ⟨.int .i64 6, w, x_len (E := 9) (fun _ => by kernel_rfl) rfl hv w, sp_eqv rfl rfl, Below.refl _ _⟩)) ?_
                  refine AllOps.cons (fun a w hA hB hD => ⟨.int .i64 0, w, x_move (x := .const (.int .i64 0)) rfl rfl w, sp_eqv rfl rfl, Below.refl _ _⟩) ?_
                  exact trivial
                case hend =>
                  intro u wx hu hbx
                  have h1 := sp_row rfl (hu 210 (by decide) (by decide))
                  have h2 := sp_get rfl (hu 211 (by decide) (by decide))
                  have h3 := sp_get rfl (hu 212 (by decide) (by decide))
                  clear hu
                  simp only [upd, Nat.reduceAdd, Nat.reduceLeDiff, Nat.reduceLT, and_true, and_false, ↓reduceIte]
                  go_wp2_with fail
                  go_meet
                  exact ⟨h1, h2, h3, hbx⟩
              case rest =>
                obtain ⟨⟨H6, rfl, hH, hcells⟩, rfl, rfl, BX0⟩ := hcut
                have BX := below_next B6 BX0
                have HP := Lib.hid (sx_of l T b hH hcells)
                have HL6 := Lib.hid (sx_len l T b (by have := HL.out; omega) (by have := HD.out; omega))
                have hL6 : (sx6 l T b).length = 6 := rfl
                generalize sx6 l T b = L at HP HL6 hL6
                clear hcells hH BX0 B6
                go_wp2_with fail
                go_loopw [212] (fun iv wr => ∃ (i : Nat), i ≤ 6 ∧ iv = .int .i64 i ∧ Below wc.heap.size wc wr)
                  (fun iv _ => 6 - (intOf iv).toNat)
                case atStart => exact ⟨0, by omega, rfl, Below.refl _ _⟩
                case round =>
                  obtain ⟨i, hi, rfl, hb⟩ := hrel
                  by_cases hi6 : i < 6
                  · have hi6' : (i : Int) < 6 := by omega
                    have hiL : i < L.length := by omega
                    have hcell := (HP.out.below hb).2 i _ (List.getElem?_eq_getElem hiL)
                    have hxl := HL6.out _ (List.getElem_mem hiL)
                    generalize L[i]'hiL = x at hcell hxl
                    obtain ⟨n1, c1, er⟩ := numR_parts (numU M x)
                    have K1 := Lib.hid (fun w hg => numD_x x M w hg (by omega) HM.out)
                    have K2 := Lib.hid (fun w => numRef_x x M w (by omega) HM.out)
                    rw [er] at K1 K2
                    have HB0 := Lib.hid (below_next BX hb)
                    clear er hxl hiL
                    go_wp2_with fail
                    refine (K1.out _ (HG.out.below HB0.out)).mono ?_
                    rintro e w7 ⟨rfl, hb7⟩
                    go_wp2_with fail
                    refine (K2.out _).mono ?_
                    rintro e w8 ⟨rfl, rfl⟩
                    go_wp2
                    go_roundw
                    case rel => exact ⟨i + 1, by omega, by go_num, below_next hb hb7⟩
                    case measure => simp [intOf]; omega
                  · obtain rfl : i = 6 := by omega
                    have B7 := below_next BX hb
                    clear hb hi hi6 HP HL6 hL6
                    go_wp2_with fail
                    refine (KU.out _ (HG.out.below B7)).mono ?_
                    rintro e w8 ⟨rfl, hb8⟩
                    have B8 := below_next B7 hb8
                    go_wp2_with fail
                    refine (awake6_x _ (HG.out.below B8)).mono ?_
                    rintro e w9 ⟨rfl, hb9⟩
                    go_wp2
                    go_ret
                    exact ⟨rfl, below_next B8 hb9⟩
end Go.Proofs.YtjoiedomdliadaaDoor
