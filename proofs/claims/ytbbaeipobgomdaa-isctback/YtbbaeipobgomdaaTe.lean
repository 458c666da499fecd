/- One sign: the code's own tokenAt. -/
import Derived.Test.YtbbaeipobgomdaaTd
import Derived.BigRegion
import Derived.Deep.DeepCutAuto
import Derived.Deep.RegionWith
namespace Go.Proofs.Ytbbaeipobgomdaa
open Go.ChangeShapes Go.WideShapes Go.RowKit Go.Sort
/-- What tokenAt hands back where a sign, or something wrong, begins. -/
def StepE (l : Bs) (i : Nat) (v : Value) : Prop :=
  (∃ (kd : Nat) (s : Bs) (k : Nat), v = .tuple #[.agg #[.int .i64 (kd : Int), .string (baS s), .int .i64 (i : Int)], .int .i64 (k : Int), .agg #[.int .i64 0, .int .i64 0]] ∧ i < k ∧ k ≤ l.length ∧ s.length ≤ l.length ∧ tokA .top i (l.drop i) = if 255 < s.length then .bad 2 i else (tokA .top k (l.drop k)).pre [(kd, s, i)])
  ∨ ∃ (K : Int) (T : ByteArray) (N M : Int) (x : Nat), v = .tuple #[.agg #[.int .i64 K, .string T, .int .i64 N], .int .i64 M, .agg #[.int .i64 1, .int .i64 (x : Int)]] ∧ tokA .top i (l.drop i) = .bad 1 x
theorem txtG_len : ∀ (r acc : Bs) (i : Nat) (s : Bs) (k : Nat), txtG acc r i = .inl (s, k) → s.length ≤ acc.length + r.length
  | [], _, i, s, k, h => by simp [txtG] at h
  | [c], acc, i, s, k, h => by
    unfold txtG at h
    split at h
    · cases h; simp
    · split at h
      · simp at h
      · split at h
        · cases h
        · have := txtG_len [] _ _ _ _ h; simp at this ⊢; omega
  | c :: d :: r', acc, i, s, k, h => by
    unfold txtG at h
    split at h
    · cases h; simp
    · split at h
      · simp only at h
        split at h
        · have := txtG_len r' _ _ _ _ h; simp at this ⊢; omega
        · cases h
      · split at h
        · cases h
        · have := txtG_len (d :: r') _ _ _ _ h; simp at this ⊢; omega
theorem text_at {l : Bs} {i : Nat} (h : l[i]? = some 34) {s : Bs} {k : Nat} (ht : txtG [] (l.drop (i + 1)) (i + 1) = .inl (s, k)) : i < k ∧ k ≤ l.length ∧ s.length ≤ l.length ∧ tokA .top i (l.drop i) = if 255 < s.length then .bad 2 i else (tokA .top k (l.drop k)).pre [(3, s, i)] := by
  obtain ⟨h1, h2⟩ := txtG_le _ _ _ _ _ ht
  have h3 := txtG_len _ _ _ _ _ ht
  have hi := (List.getElem?_eq_some_iff.1 h).1
  rw [List.length_drop] at h2 h3
  refine ⟨by omega, by omega, by simp at h3; omega, ?_⟩
  rw [drop_cons8 h, top_txt, tok_txt, ht]
  simp only
  rw [List.drop_drop, show i + 1 + (k - (i + 1)) = k by omega]
theorem text_bad {l : Bs} {i : Nat} (h : l[i]? = some 34) {x : Nat} (ht : txtG [] (l.drop (i + 1)) (i + 1) = .inr x) : tokA .top i (l.drop i) = .bad 1 x := by
  rw [drop_cons8 h, top_txt, tok_txt, ht]
theorem sign_at {l : Bs} {i : Nat} {c : UInt8} (h : l[i]? = some c) (hs : signB c = true) : tokA .top i (l.drop i) = (tokA .top (i + 1) (l.drop (i + 1))).pre [(4, [c], i)] := by
  rw [drop_cons8 h, top_sign hs]
theorem bad_at {l : Bs} {i : Nat} {c : UInt8} (h : l[i]? = some c) (h1 : blankB c = false) (h2 : signB c = false) (h3 : c ≠ 35) (h4 : c ≠ 34) (h5 : wordB c = false) : tokA .top i (l.drop i) = .bad 1 i := by
  rw [drop_cons8 h, top_bad h1 h2 h3 h4 h5]
/-- An empty sign lies in a block. -/
structure TokZ (w : World) (B : Nat) : Prop where
  c0 : w.cell? ⟨B, 0, none⟩ = some (.int .i64 0)
  c1 : w.cell? ⟨B, 1, none⟩ = some (.string ⟨#[]⟩)
  c2 : w.cell? ⟨B, 2, none⟩ = some (.int .i64 0)
  fz : ∀ o, w.frozen? ⟨B, o, none⟩ = false
  lt : B < w.heap.size
theorem TokZ.next {w w' : World} {B : Nat} (h : TokZ w B) (hb : Below w.heap.size w w') : TokZ w' B := by
  obtain ⟨k, f, m⟩ := keepf hb B h.lt
  exact ⟨(k 0).trans h.c0, (k 1).trans h.c1, (k 2).trans h.c2, fun o => (f o).trans (h.fz o), m⟩
theorem set_same {w : World} {p : Addr} {u v : Value} (h : w.cell? p = some u) : (w.setCell p v).cell? p = some v := World.cell?_setCell_same w _ v h
theorem set_oth {w : World} {p q : Addr} {u v : Value} (hne : q ≠ p) (h : w.cell? q = some u) : (w.setCell p v).cell? q = some u := (World.cell?_setCell_other w _ _ v (by first | exact hne | exact hne.symm)).trans h
/-- The five stores of a sign and an error. -/
def set5 (w : World) (B E : Nat) (k : Int) (s : ByteArray) (n x y : Int) : World := ((((w.setCell ⟨B, 0, none⟩ (.int .i64 k)).setCell ⟨B, 1, none⟩ (.string s)).setCell ⟨B, 2, none⟩ (.int .i64 n)).setCell ⟨E, 0, none⟩ (.int .i64 x)).setCell ⟨E, 1, none⟩ (.int .i64 y)
theorem set5_cells {w : World} {B E : Nat} (hT : TokZ w B) (hE : ErrAt w E) (hne : B ≠ E) (k : Int) (s : ByteArray) (n x y : Int) :
    (set5 w B E k s n x y).cell? ⟨B, 0, none⟩ = some (.int .i64 k) ∧ (set5 w B E k s n x y).cell? ⟨B, 1, none⟩ = some (.string s) ∧ (set5 w B E k s n x y).cell? ⟨B, 2, none⟩ = some (.int .i64 n) ∧ (set5 w B E k s n x y).cell? ⟨E, 0, none⟩ = some (.int .i64 x) ∧ (set5 w B E k s n x y).cell? ⟨E, 1, none⟩ = some (.int .i64 y) := by
  unfold set5
  have hne' : E ≠ B := fun e => hne e.symm
  have h0 := hT.c0
  have h1 := hT.c1
  have h2 := hT.c2
  have g0 := hE.c0
  have g1 := hE.c1
  have o1 : ∀ i j, (⟨B, i, none⟩ : Addr) ≠ ⟨E, j, none⟩ := fun i j e => hne (by injection e)
  have o2 : ∀ i j, (⟨E, i, none⟩ : Addr) ≠ ⟨B, j, none⟩ := fun i j e => hne' (by injection e)
  have o3 : ∀ b i j, i ≠ j → (⟨b, i, none⟩ : Addr) ≠ ⟨b, j, none⟩ := fun b i j h e => h (by injection e)
  exact ⟨set_oth (o1 _ _) (set_oth (o1 _ _) (set_oth (o3 _ _ _ (by decide)) (set_oth (o3 _ _ _ (by decide)) (set_same h0)))), set_oth (o1 _ _) (set_oth (o1 _ _) (set_oth (o3 _ _ _ (by decide)) (set_same (set_oth (o3 _ _ _ (by decide)) h1)))), set_oth (o1 _ _) (set_oth (o1 _ _) (set_same (set_oth (o3 _ _ _ (by decide)) (set_oth (o3 _ _ _ (by decide)) h2)))), set_oth (o3 _ _ _ (by decide)) (set_same (set_oth (o2 _ _) (set_oth (o2 _ _) (set_oth (o2 _ _) g0)))), set_same (set_oth (o3 _ _ _ (by decide)) (set_oth (o2 _ _) (set_oth (o2 _ _) (set_oth (o2 _ _) g1))))⟩
theorem set5_below {w W : World} {B E A : Nat} (h : Below A W w) (hB : A ≤ B) (hE : A ≤ E) (k : Int) (s : ByteArray) (n x y : Int) : Below A W (set5 w B E k s n x y) :=
  ((((h.setCell hB _).setCell hB _).setCell hB _).setCell hE _).setCell hE _
theorem set5_plain {w w3 W : World} {B E A : Nat} (hT : TokZ w B) (hE : ErrAt w E) (hne : B ≠ E) (hA : Below A W w) (hB : A ≤ B) (hB2 : A ≤ E) {k : Int} {s : ByteArray} {n x y : Int}
    (h : ((((w.setCell ⟨B, 0, none⟩ (.int .i64 k)).setCell ⟨B, 1, none⟩ (.string s)).setCell ⟨B, 2, none⟩ (.int .i64 n)).setCell ⟨E, 0, none⟩ (.int .i64 x)).setCell ⟨E, 1, none⟩ (.int .i64 y) = w3) :
    w3.cell? ⟨B, 0, none⟩ = some (.int .i64 k) ∧ w3.cell? ⟨B, 1, none⟩ = some (.string s) ∧ w3.cell? ⟨B, 2, none⟩ = some (.int .i64 n) ∧ w3.cell? ⟨E, 0, none⟩ = some (.int .i64 x) ∧ w3.cell? ⟨E, 1, none⟩ = some (.int .i64 y) ∧ Below A W w3 := by
  obtain ⟨a, b, c, d, e⟩ := set5_cells hT hE hne k s n x y
  have f := set5_below hA hB hB2 k s n x y
  unfold set5 at a b c d e f
  subst h
  exact ⟨a, b, c, d, e, f⟩
theorem drew_cell (w : World) (p : Addr) : w.drew.cell? p = w.cell? p := rfl
theorem set5_any {w w3 W : World} {B E A : Nat} (hT : TokZ w B) (hE : ErrAt w E) (hne : B ≠ E) (hA : Below A W w) (hB : A ≤ B) (hB2 : A ≤ E) {k : Int} {s : ByteArray} {n x y : Int}
    (h : World.drew (((((w.setCell ⟨B, 0, none⟩ (.int .i64 k)).setCell ⟨B, 1, none⟩ (.string s)).setCell ⟨B, 2, none⟩ (.int .i64 n)).setCell ⟨E, 0, none⟩ (.int .i64 x)).setCell ⟨E, 1, none⟩ (.int .i64 y)) = w3) :
    w3.cell? ⟨B, 0, none⟩ = some (.int .i64 k) ∧ w3.cell? ⟨B, 1, none⟩ = some (.string s) ∧ w3.cell? ⟨B, 2, none⟩ = some (.int .i64 n) ∧ w3.cell? ⟨E, 0, none⟩ = some (.int .i64 x) ∧ w3.cell? ⟨E, 1, none⟩ = some (.int .i64 y) ∧ Below A W w3 := by
  obtain ⟨a, b, c, d, e⟩ := set5_cells hT hE hne k s n x y
  have f := Below.drew (set5_below hA hB hB2 k s n x y)
  unfold set5 at a b c d e f
  subst h
  simp only [drew_cell]
  exact ⟨a, b, c, d, e, f⟩
set_option maxHeartbeats 8000000 in
set_option maxRecDepth 100000 in
theorem tokenAt_x (l : Bs) (ad : Addr) (c i : Nat) (w : World) (h : BytesAt w (some ad) l) (hc : l.length ≤ c) (hl : l.length ≤ 1000000) (hi : i < l.length) (hb : blankB (l[i]'hi) = false) (h35 : l[i]'hi ≠ 35) :
    Calls Try.prog 16 #[.slice (some ad) l.length c, .int .i64 (i : Int)] w fun e w' => (∃ v, e = .returned v ∧ StepE l i v) ∧ Below w.heap.size w w' := by
  have hget := Lib.hid (List.getElem?_eq_getElem hi)
  have HH := Lib.hid h
  have HC := Lib.hid (fun V (hV : BytesAt V (some ad) l) => bytesAt_cell hV i hi)
  generalize l[i]'hi = b at *
  have HB := Lib.hid hb
  have H35 := Lib.hid h35
  clear h hb h35
  go_enter Try.func16, Try.ntmps16
  go_upto_region 1 with fail
  generalize hw0 : (w.alloc _).alloc _ = w0
  have B0 : Below w.heap.size w w0 := hw0 ▸ ball (ball (Below.refl _ _))
  have T0 : TokZ w0 w.heap.size := by subst hw0; exact ⟨by simp [go_sem], by simp [go_sem], by simp [go_sem], fun o => by simp [go_sem], by simp [go_sem]⟩
  have E0 : ErrAt w0 (w.heap.size + 1) := by subst hw0; exact ⟨by simp [go_sem], by simp [go_sem], fun o => by simp [go_sem], by simp [go_sem]⟩
  clear hw0
  have H0 := Lib.hid (HH.out.below B0)
  clear HH
  have hcell := HC.out _ H0.out
  clear HC
  by_cases hq : b = 34
  · subst hq
    have HT := fun V hV => Lib.hid (textAt_x l ad c i V hV hl hi)
    generalize hr : txtG [] (l.drop (i + 1)) (i + 1) = r at *
    have HR := Lib.hid hr
    clear hr
    cases r with
    | inr x =>
      have HF : Hid (tokA .top i (l.drop i) = .bad 1 x) := Lib.hid (text_bad hget.out HR.out)
      clear HR hget
      go_wp2_with fail
      refine (HT _ H0.out).out.mono ?_
      rintro e w1 ⟨rfl, hb1⟩
      have T1 := T0.next hb1
      have E1 := E0.next hb1
      have B1 := below_next B0 hb1
      clear hcell HT hb1 T0 E0 B0 H0
      unfold TextE
      go_upto_region 4 with fail
      generalize hw2 : w1.alloc _ = w2
      have B2 : Below w.heap.size w w2 := hw2 ▸ ball B1
      have T2 : TokZ w2 w.heap.size := hw2 ▸ T1.next (ball (Below.refl _ _))
      have E2 : ErrAt w2 (w.heap.size + 1) := hw2 ▸ E1.next (ball (Below.refl _ _))
      have x0 : w2.cell? ⟨w1.heap.size, 0, none⟩ = some (.int .i64 1) := by subst hw2; simp [go_sem]
      have x1 : w2.cell? ⟨w1.heap.size, 1, none⟩ = some (.int .i64 (x : Int)) := by subst hw2; simp [go_sem]
      have n1 : w1.heap.size ≠ w.heap.size := by have := T1.lt; omega
      have n2 : w1.heap.size ≠ w.heap.size + 1 := by have := E1.lt; omega
      clear hw2 B1 T1 E1
      have t0 := T2.c0
      have t1 := T2.c1
      have t2 := T2.c2
      have tf := T2.fz
      have e0 := E2.c0
      have e1 := E2.c1
      have ef := E2.fz
      generalize w1.heap.size = X at *
      go_region
      generalize hw3 : World.drew _ = w3
      obtain ⟨s0, s1, s2, s3, s4, B3⟩ := set5_any T2 E2 (Nat.ne_of_lt (Nat.lt_succ_self _)) B2 (Nat.le_refl _) (Nat.le_succ _) hw3
      clear hw3 t0 t1 t2 tf e0 e1 ef x0 x1 n1 n2 B2 T2 E2
      go_wp2_with fail
      exact bodyPost_ret (v := .tuple #[.agg #[.int .i64 3, .string (baS []), .int .i64 (i : Int)], .int .i64 0, .agg #[.int .i64 1, .int .i64 (x : Int)]]) (by simp [results, Try.results16, go_sem, s0, s1, s2, s3, s4]) rfl ⟨⟨_, rfl, Or.inr ⟨_, _, _, _, _, rfl, HF.out⟩⟩, B3⟩
    | inl r =>
      obtain ⟨s, k⟩ := r
      have HF := Lib.hid (text_at hget.out HR.out)
      clear HR hget
      go_wp2_with fail
      refine (HT _ H0.out).out.mono ?_
      rintro e w1 ⟨rfl, hb1⟩
      have T1 := T0.next hb1
      have E1 := E0.next hb1
      have B1 := below_next B0 hb1
      clear hcell HT hb1 T0 E0 B0 H0
      unfold TextE
      go_upto_region 4 with fail
      generalize hw2 : w1.alloc _ = w2
      have B2 : Below w.heap.size w w2 := hw2 ▸ ball B1
      have T2 : TokZ w2 w.heap.size := hw2 ▸ T1.next (ball (Below.refl _ _))
      have E2 : ErrAt w2 (w.heap.size + 1) := hw2 ▸ E1.next (ball (Below.refl _ _))
      have x0 : w2.cell? ⟨w1.heap.size, 0, none⟩ = some (.int .i64 0) := by subst hw2; simp [go_sem]
      have x1 : w2.cell? ⟨w1.heap.size, 1, none⟩ = some (.int .i64 0) := by subst hw2; simp [go_sem]
      have n1 : w1.heap.size ≠ w.heap.size := by have := T1.lt; omega
      have n2 : w1.heap.size ≠ w.heap.size + 1 := by have := E1.lt; omega
      clear hw2 B1 T1 E1
      have t0 := T2.c0
      have t1 := T2.c1
      have t2 := T2.c2
      have tf := T2.fz
      have e0 := E2.c0
      have e1 := E2.c1
      have ef := E2.fz
      generalize w1.heap.size = X at *
      go_region
      generalize hw3 : World.drew _ = w3
      obtain ⟨s0, s1, s2, s3, s4, B3⟩ := set5_any T2 E2 (Nat.ne_of_lt (Nat.lt_succ_self _)) B2 (Nat.le_refl _) (Nat.le_succ _) hw3
      clear hw3 t0 t1 t2 tf e0 e1 ef x0 x1 n1 n2 B2 T2 E2
      go_wp2_with fail
      exact bodyPost_ret (v := .tuple #[.agg #[.int .i64 3, .string (baS s), .int .i64 (i : Int)], .int .i64 (k : Int), .agg #[.int .i64 0, .int .i64 0]]) (by simp [results, Try.results16, go_sem, s0, s1, s2, s3, s4]) rfl ⟨⟨_, rfl, Or.inl ⟨3, s, k, rfl, HF.out⟩⟩, B3⟩
  · have hq34 : ¬ ((b.toNat : Int) = 34) := fun e => hq ((byte_is (c := b) (k := 34) (by decide)).1 e)
    have HX := Lib.hid (inWord_x b w0)
    have HO := Lib.hid (oneOf_x [123, 125, 59, 44] b w0)
    rw [sign_mem] at HO
    have t0 := T0.c0
    have t1 := T0.c1
    have t2 := T0.c2
    have tf := T0.fz
    have e0 := E0.c0
    have e1 := E0.c1
    have ef := E0.fz
    by_cases hw : wordB b = true
    · have HE := Lib.hid (wordEnd_x l ad c i w0 H0.out hl (Nat.le_of_lt hi))
      have HW := Lib.hid hw
      rw [hw] at HX
      clear hw hq HO
      generalize b.toNat = u at *
      go_wp2_with fail
      refine HX.out.mono ?_
      rintro e w' ⟨rfl, rfl⟩
      go_wp2_with fail
      refine HE.out.mono ?_
      rintro e w'' ⟨⟨j, rfl, hj⟩, rfl⟩
      have hjl := hj.2.1
      have hij := hj.1
      have hij2 : i < j := by
        rcases Nat.lt_or_ge i j with h | h
        · exact h
        · have := hj.2.2.2 b (by rw [show j = i by omega]; exact hget.out)
          rw [HW.out] at this; cases this
      have HJ := Lib.hid hj
      have hv := piece_at H0.out hc i j hjl
      have hsl := fun V => sl_lh (some ad) l.length c i j hij (by omega) V
      have hlen := piece_len (l := l) (f := i) hjl
      clear HX HE hj HW hcell
      go_wp2_with fail
      generalize hw3 : World.setCell _ ⟨w.heap.size + 1, 1, none⟩ _ = w3
      obtain ⟨s0, s1, s2, s3, s4, B3⟩ := set5_plain T0 E0 (Nat.ne_of_lt (Nat.lt_succ_self _)) B0 (Nat.le_refl _) (Nat.le_succ _) hw3
      clear hw3 t0 t1 t2 tf e0 e1 ef B0 T0 E0
      exact bodyPost_ret (v := .tuple #[.agg #[.int .i64 2, .string (baS (pieceV l i j)), .int .i64 (i : Int)], .int .i64 (j : Int), .agg #[.int .i64 0, .int .i64 0]]) (by simp [results, Try.results16, go_sem, s0, s1, s2, s3, s4]) rfl ⟨⟨_, rfl, Or.inl ⟨2, pieceV l i j, j, rfl, hij2, hjl, by omega, by rw [hlen]; exact word_at HJ.out hij2⟩⟩, B3⟩
    · rw [show wordB b = false by simpa using hw] at HX
      have HW : Hid (wordB b = false) := Lib.hid (by simpa using hw)
      clear hw
      by_cases hs : signB b = true
      · have HS := Lib.hid hs
        rw [hs] at HO
        have hv := piece_at H0.out hc i (i + 1) hi
        rw [piece_snoc hget.out (Nat.le_refl _), piece_nil, List.nil_append] at hv
        have hsl := fun V => sl_lh (some ad) l.length c i (i + 1) (Nat.le_succ _) (by omega) V
        have hpre : IntKind.i64.wrap ((i : Int) + 1) = ((i + 1 : Nat) : Int) := by rw [IntKind.wrap_i64]; omega
        have HF : Hid (i < i + 1 ∧ i + 1 ≤ l.length ∧ [b].length ≤ l.length ∧ tokA .top i (l.drop i) = if 255 < [b].length then .bad 2 i else (tokA .top (i + 1) (l.drop (i + 1))).pre [(4, [b], i)]) := Lib.hid ⟨Nat.lt_succ_self _, hi, by simp; omega, by rw [if_neg (by simp)]; exact sign_at hget.out HS.out⟩
        have hi1 : i ≤ i + 1 := Nat.le_succ _
        have hi2 : i + 1 ≤ l.length := hi
        clear hs HS hq
        generalize i + 1 = j at *
        generalize hsb : baS [b] = sb at *
        have HSB := Lib.hid hsb
        clear hsb
        generalize b.toNat = u at *
        go_wp2_with fail
        refine HX.out.mono ?_
        rintro e w' ⟨rfl, rfl⟩
        go_wp2_with fail
        refine HO.out.mono ?_
        rintro e w'' ⟨rfl, rfl⟩
        clear HX HO
        go_wp2_with fail
        generalize hw3 : World.setCell _ ⟨w.heap.size + 1, 1, none⟩ _ = w3
        obtain ⟨s0, s1, s2, s3, s4, B3⟩ := set5_plain T0 E0 (Nat.ne_of_lt (Nat.lt_succ_self _)) B0 (Nat.le_refl _) (Nat.le_succ _) hw3
        clear hw3 t0 t1 t2 tf e0 e1 ef B0 T0 E0
        exact bodyPost_ret (v := .tuple #[.agg #[.int .i64 4, .string sb, .int .i64 (i : Int)], .int .i64 (j : Int), .agg #[.int .i64 0, .int .i64 0]]) (by simp [results, Try.results16, go_sem, s0, s1, s2, s3, s4]) rfl ⟨⟨_, rfl, Or.inl ⟨4, [b], j, by rw [← HSB.out]; rfl, HF.out⟩⟩, B3⟩
      · rw [show signB b = false by simpa using hs] at HO
        have HF : Hid (tokA .top i (l.drop i) = .bad 1 i) := Lib.hid (bad_at hget.out HB.out (by simpa using hs) H35.out hq HW.out)
        clear hs hq HW
        generalize b.toNat = u at *
        go_wp2_with fail
        refine HX.out.mono ?_
        rintro e w' ⟨rfl, rfl⟩
        go_wp2_with fail
        refine HO.out.mono ?_
        rintro e w'' ⟨rfl, rfl⟩
        clear HX HO
        go_wp2_with fail
        generalize hw3 : World.setCell _ ⟨w.heap.size + 1, 1, none⟩ _ = w3
        obtain ⟨s0, s1, s2, s3, s4, B3⟩ := set5_plain T0 E0 (Nat.ne_of_lt (Nat.lt_succ_self _)) B0 (Nat.le_refl _) (Nat.le_succ _) hw3
        clear hw3 t0 t1 t2 tf e0 e1 ef B0 T0 E0
        exact bodyPost_ret (v := .tuple #[.agg #[.int .i64 0, .string ⟨#[]⟩, .int .i64 0], .int .i64 0, .agg #[.int .i64 1, .int .i64 (i : Int)]]) (by simp [results, Try.results16, go_sem, s0, s1, s2, s3, s4]) rfl ⟨⟨_, rfl, Or.inr ⟨_, _, _, _, _, rfl, HF.out⟩⟩, B3⟩
end Go.Proofs.Ytbbaeipobgomdaa
