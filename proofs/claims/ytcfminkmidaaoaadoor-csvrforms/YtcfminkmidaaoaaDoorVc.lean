/- Package csvr: what stands behind a field, and one field. -/
import Derived.Test.YtcfminkmidaaoaaDoorVb
namespace Go.Proofs.YtcfminkmidaaoaaDoor
open Go.ChangeShapes Go.WideShapes Go.RowKit Go.Sort
theorem aft_at_bad {l : Bs} {k : Nat} {c : UInt8} (row : List Tk) (h : l[k]? = some c) (hs : stopB c = false) : recA (.aft row) k (l.drop k) = .bad 1 k := by
  rw [get_cons8 h, recA_inr (k := 1) (a := k) (by simp [stepC, aftS_bad hs])]
/-- What behindEnd hands back. -/
def EndE (l : Bs) (k : Nat) (v : Value) : Prop :=
  (∃ n : Nat, v = .tuple #[.int .i64 (n : Int), .agg #[.int .i64 0, .int .i64 0]] ∧ k ≤ n ∧ n ≤ l.length ∧ (k < l.length → k < n) ∧ ∀ row, recA (.aft row) k (l.drop k) = (recA (.beg []) n (l.drop n)).pre [row])
  ∨ (∃ x : Nat, v = .tuple #[.int .i64 0, .agg #[.int .i64 1, .int .i64 (x : Int)]] ∧ ∀ row, recA (.aft row) k (l.drop k) = .bad 1 x)
theorem bne_of {z k : Int} (h : ¬ z = k) : (z != k) = true := bne_iff_ne.2 h
set_option maxHeartbeats 8000000 in
set_option maxRecDepth 100000 in
theorem behindEnd_x (l : Bs) (a : Option Addr) (c k : Nat) (w : World) (h : BytesAt w a l) (hl : l.length ≤ 1000000) (hk : k ≤ l.length) (h44 : l[k]? ≠ some 44) :
    Calls Tryd.prog 25 #[.slice a l.length c, .int .i64 (k : Int)] w fun e w' => (∃ v, e = .returned v ∧ EndE l k v) ∧ Below w.heap.size w w' := by
  have HH := Lib.hid h
  have H44 := Lib.hid h44
  clear h h44
  go_enter Tryd.func25, Tryd.ntmps25
  go_upto_region 1 with fail
  generalize hw0 : w.alloc _ = w0
  have B0 : Below w.heap.size w w0 := hw0 ▸ ball (Below.refl _ _)
  have E0 : ErrAt w0 w.heap.size := by subst hw0; exact ⟨by simp [go_sem], by simp [go_sem], fun o => by simp [go_sem], by simp [go_sem]⟩
  clear hw0
  have H0 := Lib.hid (HH.out.below B0)
  clear HH
  have e0 := E0.c0
  have e1 := E0.c1
  have ef := E0.fz
  by_cases hend : k = l.length
  · subst hend
    have HF : Hid (∀ row, recA (.aft row) l.length (l.drop l.length) = (recA (.beg []) l.length (l.drop l.length)).pre [row]) := Lib.hid (fun row => by rw [aft_at_end, beg_at_end]; rfl)
    obtain ⟨s0, s1⟩ := errset (x := 0) (y := 0) e0 e1
    go_wp2_with fail
    exact bodyPost_ret (v := .tuple #[.int .i64 (l.length : Int), .agg #[.int .i64 0, .int .i64 0]]) (by simp [results, Tryd.results25, go_sem, s0, s1]) rfl ⟨⟨_, rfl, Or.inl ⟨_, rfl, Nat.le_refl _, Nat.le_refl _, fun h => absurd h (Nat.lt_irrefl _), HF.out⟩⟩, (B0.setCell (Nat.le_refl _) _).setCell (Nat.le_refl _) _⟩
  · have hlt : k < l.length := by omega
    obtain ⟨ad, ha⟩ : ∃ ad, a = some ad := by
      obtain ⟨ad, e, _⟩ := H0.out k (l[k]'hlt) (List.getElem?_eq_getElem hlt)
      exact ⟨ad, e⟩
    subst ha
    have hcell := bytesAt_cell H0.out k hlt
    have HG := Lib.hid (List.getElem?_eq_getElem hlt)
    generalize l[k]'hlt = b at *
    have hb44 : b ≠ 44 := fun e => H44.out (by rw [HG.out, e])
    clear H44
    by_cases h13 : b = 13
    · subst h13
      have hpre : IntKind.i64.wrap ((k : Int) + 1) = ((k + 1 : Nat) : Int) := by rw [IntKind.wrap_i64]; omega
      by_cases hend1 : k + 1 = l.length
      · have HF : Hid (∀ row, recA (.aft row) k (l.drop k) = .bad 1 (k + 1)) := Lib.hid (fun row => aft_at_cr row HG.out (by rw [List.getElem?_eq_none (by omega)]; simp))
        obtain ⟨s0, s1⟩ := errset (x := 1) (y := ((k + 1 : Nat) : Int)) e0 e1
        clear HG hb44
        generalize k + 1 = k1 at *
        subst hend1
        go_wp2_with fail
        exact bodyPost_ret (v := .tuple #[.int .i64 0, .agg #[.int .i64 1, .int .i64 (l.length : Int)]]) (by simp [results, Tryd.results25, go_sem, s0, s1]) rfl ⟨⟨_, rfl, Or.inr ⟨_, rfl, HF.out⟩⟩, (B0.setCell (Nat.le_refl _) _).setCell (Nat.le_refl _) _⟩
      · have hlt1 : k + 1 < l.length := by omega
        have hcell1 := bytesAt_cell H0.out (k + 1) hlt1
        have HG1 := Lib.hid (List.getElem?_eq_getElem hlt1)
        generalize l[k + 1]'hlt1 = d at *
        have hkk : k < k + 1 := Nat.lt_succ_self _
        by_cases h10 : d = 10
        · subst h10
          have HF : Hid (∀ row, recA (.aft row) k (l.drop k) = (recA (.beg []) (k + 1 + 1) (l.drop (k + 1 + 1))).pre [row]) := Lib.hid (fun row => aft_at_crlf row HG.out HG1.out)
          obtain ⟨s0, s1⟩ := errset (x := 0) (y := 0) e0 e1
          have hpre2 : IntKind.i64.wrap (((k + 1 : Nat) : Int) + 1) = ((k + 1 + 1 : Nat) : Int) := by rw [IntKind.wrap_i64]; omega
          clear HG HG1 hb44 hend
          generalize k + 1 = k1 at *
          go_wp2_with fail
          exact bodyPost_ret (v := .tuple #[.int .i64 ((k1 + 1 : Nat) : Int), .agg #[.int .i64 0, .int .i64 0]]) (by simp [results, Tryd.results25, go_sem, s0, s1]) rfl ⟨⟨_, rfl, Or.inl ⟨_, rfl, by omega, by omega, fun _ => by omega, HF.out⟩⟩, (B0.setCell (Nat.le_refl _) _).setCell (Nat.le_refl _) _⟩
        · have HF : Hid (∀ row, recA (.aft row) k (l.drop k) = .bad 1 (k + 1)) := Lib.hid (fun row => aft_at_cr row HG.out (by rw [HG1.out]; simpa using h10))
          have hd : (((d.toNat : Nat) : Int) != 10) = true := bne_of (fun e => h10 ((byte_is (c := d) (k := 10) (by decide)).1 e))
          obtain ⟨s0, s1⟩ := errset (x := 1) (y := ((k + 1 : Nat) : Int)) e0 e1
          clear HG HG1 hb44 hend h10
          generalize k + 1 = k1 at *
          generalize d.toNat = u at *
          go_wp2_with fail
          exact bodyPost_ret (v := .tuple #[.int .i64 0, .agg #[.int .i64 1, .int .i64 (k1 : Int)]]) (by simp [results, Tryd.results25, go_sem, s0, s1]) rfl ⟨⟨_, rfl, Or.inr ⟨_, rfl, HF.out⟩⟩, (B0.setCell (Nat.le_refl _) _).setCell (Nat.le_refl _) _⟩
    · have hn13 : ¬ ((b.toNat : Int) = 13) := fun e => h13 ((byte_is (c := b) (k := 13) (by decide)).1 e)
      by_cases h10 : b = 10
      · subst h10
        have HF : Hid (∀ row, recA (.aft row) k (l.drop k) = (recA (.beg []) (k + 1) (l.drop (k + 1))).pre [row]) := Lib.hid (fun row => aft_at_lf row HG.out)
        obtain ⟨s0, s1⟩ := errset (x := 0) (y := 0) e0 e1
        clear HG hb44 hn13 h13
        go_wp2_with fail
        exact bodyPost_ret (v := .tuple #[.int .i64 ((k + 1 : Nat) : Int), .agg #[.int .i64 0, .int .i64 0]]) (by simp [results, Tryd.results25, go_sem, s0, s1]) rfl ⟨⟨_, rfl, Or.inl ⟨_, rfl, by omega, by omega, fun _ => by omega, HF.out⟩⟩, (B0.setCell (Nat.le_refl _) _).setCell (Nat.le_refl _) _⟩
      · have HF : Hid (∀ row, recA (.aft row) k (l.drop k) = .bad 1 k) := Lib.hid (fun row => aft_at_bad row HG.out (by simp [stopB]; exact ⟨⟨hb44, h10⟩, h13⟩))
        have hd : (((b.toNat : Nat) : Int) != 10) = true := bne_of (fun e => h10 ((byte_is (c := b) (k := 10) (by decide)).1 e))
        obtain ⟨s0, s1⟩ := errset (x := 1) (y := (k : Int)) e0 e1
        clear HG hb44 h10 h13
        generalize b.toNat = u at *
        go_wp2_with fail
        exact bodyPost_ret (v := .tuple #[.int .i64 0, .agg #[.int .i64 1, .int .i64 (k : Int)]]) (by simp [results, Tryd.results25, go_sem, s0, s1]) rfl ⟨⟨_, rfl, Or.inr ⟨_, rfl, HF.out⟩⟩, (B0.setCell (Nat.le_refl _) _).setCell (Nat.le_refl _) _⟩
/-- What bareAt and quotedAt hand back, in one form. -/
def CondR (l : Bs) (i : Nat) (row : List Tk) : Prop := i < l.length ∨ row ≠ []
def InnerE (l : Bs) (i : Nat) (v : Value) : Prop :=
  (∃ (s : Bs) (k : Nat), v = .tuple #[.string (baS s), .int .i64 (k : Int), .agg #[.int .i64 0, .int .i64 0]] ∧ i ≤ k ∧ k ≤ l.length ∧ s.length ≤ l.length ∧ ∀ row, CondR l i row → recA (.beg row) i (l.drop i) = if 255 < s.length then .bad 2 i else recA (.aft (row ++ [(5, s, i)])) k (l.drop k))
  ∨ (∃ x : Nat, v = .tuple #[.string (baS []), .int .i64 0, .agg #[.int .i64 1, .int .i64 (x : Int)]] ∧ ∀ row, CondR l i row → recA (.beg row) i (l.drop i) = .bad 1 x)
theorem BareE.inner {l : Bs} {i : Nat} {v : Value} (h : BareE l i v) (h34 : l[i]? ≠ some 34) : InnerE l i v := by
  obtain ⟨j, hp, ⟨rfl, hs⟩ | ⟨rfl, c, hc, hs⟩⟩ := h
  · refine Or.inl ⟨_, _, rfl, hp.1, hp.2.1, by rw [piece_len hp.2.1]; have := hp.2.1; omega, fun row hr => ?_⟩
    rw [piece_len hp.2.1]
    exact plain_ok_at hp hr h34 hs
  · exact Or.inr ⟨_, rfl, fun row hr => plain_bad_at hp hr h34 hc hs⟩
theorem quoted_inner {l : Bs} {i : Nat} (h : l[i]? = some 34) : InnerE l i (TextE (qG [] (l.drop (i + 1)) (i + 1))) := by
  have hlt := (List.getElem?_eq_some_iff.1 h).1
  have hq := fun row => quo_at (l := l) (i := i) row h
  cases hx : qG [] (l.drop (i + 1)) (i + 1) with
  | inr x => rw [hx] at hq; exact Or.inr ⟨x, rfl, fun row _ => hq row⟩
  | inl r =>
    obtain ⟨s, k⟩ := r
    rw [hx] at hq
    obtain ⟨h1, h2, h3⟩ := qG_at hlt hx
    exact Or.inl ⟨s, k, rfl, by omega, h2, h3, fun row _ => hq row⟩
/-- What fieldAt hands back. -/
def FieldE (l : Bs) (i : Nat) (v : Value) : Prop :=
  (∃ (s : Bs) (k : Nat), v = .tuple #[.agg #[.int .i64 5, .string (baS s), .int .i64 (i : Int)], .int .i64 (k : Int), .agg #[.int .i64 0, .int .i64 0]] ∧ i ≤ k ∧ k ≤ l.length ∧ s.length ≤ l.length ∧ ∀ row, CondR l i row → recA (.beg row) i (l.drop i) = recA (.aft (row ++ [(5, s, i)])) k (l.drop k))
  ∨ (∃ K A : Nat, v = .tuple #[.agg #[.int .i64 0, .string ⟨#[]⟩, .int .i64 0], .int .i64 0, .agg #[.int .i64 (K : Int), .int .i64 (A : Int)]] ∧ 0 < K ∧ ∀ row, CondR l i row → recA (.beg row) i (l.drop i) = .bad K A)
/-- An error lies in a block. -/
structure ErrV (w : World) (B : Nat) (x y : Int) : Prop where
  c0 : w.cell? ⟨B, 0, none⟩ = some (.int .i64 x)
  c1 : w.cell? ⟨B, 1, none⟩ = some (.int .i64 y)
  fz : ∀ o, w.frozen? ⟨B, o, none⟩ = false
  lt : B < w.heap.size
theorem ErrV.next {w w' : World} {B : Nat} {x y : Int} (h : ErrV w B x y) (hb : Below w.heap.size w w') : ErrV w' B x y := by
  obtain ⟨k, f, m⟩ := keepf hb B h.lt
  exact ⟨(k 0).trans h.c0, (k 1).trans h.c1, fun o => (f o).trans (h.fz o), m⟩
theorem frozen_set {w : World} {p q : Addr} {v : Value} : (w.setCell p v).frozen? q = w.frozen? q := World.frozen?_setCell w p q v
theorem set2V {w w3 : World} {E : Nat} {x y x' y' : Int} (hE : ErrV w E x y) (h : (w.setCell ⟨E, 0, none⟩ (.int .i64 x')).setCell ⟨E, 1, none⟩ (.int .i64 y') = w3) : ErrV w3 E x' y' := by
  obtain ⟨a, b⟩ := set2 (a := .int .i64 x') (b := .int .i64 y') hE.c0 hE.c1
  subst h
  exact ⟨a, b, fun o => by rw [frozen_set, frozen_set]; exact hE.fz o, by simp [World.setCell]; exact hE.lt⟩
theorem TokZ.set2 {w w3 : World} {B E : Nat} {u v : Value} (hT : TokZ w B) (hne : B ≠ E) (h : (w.setCell ⟨E, 0, none⟩ u).setCell ⟨E, 1, none⟩ v = w3) : TokZ w3 B := by
  have o1 : ∀ i j, (⟨B, i, none⟩ : Addr) ≠ ⟨E, j, none⟩ := fun i j e => hne (by injection e)
  subst h
  exact ⟨set_oth (o1 _ _) (set_oth (o1 _ _) hT.c0), set_oth (o1 _ _) (set_oth (o1 _ _) hT.c1), set_oth (o1 _ _) (set_oth (o1 _ _) hT.c2), fun o => by rw [frozen_set, frozen_set]; exact hT.fz o, by simp [World.setCell]; exact hT.lt⟩
theorem set5V {w W : World} {B E A : Nat} {x' y' : Int} (hT : TokZ w B) (hE : ErrV w E x' y') (hne : B ≠ E) (hA : Below A W w) (hB : A ≤ B) (hB2 : A ≤ E) (k : Int) (s : ByteArray) (n x y : Int) :
    (set5 w B E k s n x y).cell? ⟨B, 0, none⟩ = some (.int .i64 k) ∧ (set5 w B E k s n x y).cell? ⟨B, 1, none⟩ = some (.string s) ∧ (set5 w B E k s n x y).cell? ⟨B, 2, none⟩ = some (.int .i64 n) ∧ (set5 w B E k s n x y).cell? ⟨E, 0, none⟩ = some (.int .i64 x) ∧ (set5 w B E k s n x y).cell? ⟨E, 1, none⟩ = some (.int .i64 y) ∧ Below A W (set5 w B E k s n x y) := by
  have hb := set5_below hA hB hB2 k s n x y
  unfold set5 at hb ⊢
  have hne' : E ≠ B := fun e => hne e.symm
  have h0 := hT.c0
  have h1 := hT.c1
  have h2 := hT.c2
  have g0 := hE.c0
  have g1 := hE.c1
  have o1 : ∀ i j, (⟨B, i, none⟩ : Addr) ≠ ⟨E, j, none⟩ := fun i j e => hne (by injection e)
  have o2 : ∀ i j, (⟨E, i, none⟩ : Addr) ≠ ⟨B, j, none⟩ := fun i j e => hne' (by injection e)
  have o3 : ∀ b i j, i ≠ j → (⟨b, i, none⟩ : Addr) ≠ ⟨b, j, none⟩ := fun b i j h e => h (by injection e)
  exact ⟨set_oth (o1 _ _) (set_oth (o1 _ _) (set_oth (o3 _ _ _ (by decide)) (set_oth (o3 _ _ _ (by decide)) (set_same h0)))), set_oth (o1 _ _) (set_oth (o1 _ _) (set_oth (o3 _ _ _ (by decide)) (set_same (set_oth (o3 _ _ _ (by decide)) h1)))), set_oth (o1 _ _) (set_oth (o1 _ _) (set_same (set_oth (o3 _ _ _ (by decide)) (set_oth (o3 _ _ _ (by decide)) h2)))), set_oth (o3 _ _ _ (by decide)) (set_same (set_oth (o2 _ _) (set_oth (o2 _ _) (set_oth (o2 _ _) g0)))), set_same (set_oth (o3 _ _ _ (by decide)) (set_oth (o2 _ _) (set_oth (o2 _ _) (set_oth (o2 _ _) g1)))), hb⟩
theorem set5_plainV {w w3 W : World} {B E A : Nat} {x' y' : Int} (hT : TokZ w B) (hE : ErrV w E x' y') (hne : B ≠ E) (hA : Below A W w) (hB : A ≤ B) (hB2 : A ≤ E) {k : Int} {s : ByteArray} {n x y : Int}
    (h : ((((w.setCell ⟨B, 0, none⟩ (.int .i64 k)).setCell ⟨B, 1, none⟩ (.string s)).setCell ⟨B, 2, none⟩ (.int .i64 n)).setCell ⟨E, 0, none⟩ (.int .i64 x)).setCell ⟨E, 1, none⟩ (.int .i64 y) = w3) :
    w3.cell? ⟨B, 0, none⟩ = some (.int .i64 k) ∧ w3.cell? ⟨B, 1, none⟩ = some (.string s) ∧ w3.cell? ⟨B, 2, none⟩ = some (.int .i64 n) ∧ w3.cell? ⟨E, 0, none⟩ = some (.int .i64 x) ∧ w3.cell? ⟨E, 1, none⟩ = some (.int .i64 y) ∧ Below A W w3 := by
  have := set5V hT hE hne hA hB hB2 k s n x y
  unfold set5 at this
  subst h
  exact this
theorem set5_anyV {w w3 W : World} {B E A : Nat} {x' y' : Int} (hT : TokZ w B) (hE : ErrV w E x' y') (hne : B ≠ E) (hA : Below A W w) (hB : A ≤ B) (hB2 : A ≤ E) {k : Int} {s : ByteArray} {n x y : Int}
    (h : World.drew (((((w.setCell ⟨B, 0, none⟩ (.int .i64 k)).setCell ⟨B, 1, none⟩ (.string s)).setCell ⟨B, 2, none⟩ (.int .i64 n)).setCell ⟨E, 0, none⟩ (.int .i64 x)).setCell ⟨E, 1, none⟩ (.int .i64 y)) = w3) :
    w3.cell? ⟨B, 0, none⟩ = some (.int .i64 k) ∧ w3.cell? ⟨B, 1, none⟩ = some (.string s) ∧ w3.cell? ⟨B, 2, none⟩ = some (.int .i64 n) ∧ w3.cell? ⟨E, 0, none⟩ = some (.int .i64 x) ∧ w3.cell? ⟨E, 1, none⟩ = some (.int .i64 y) ∧ Below A W w3 := by
  obtain ⟨a, b, c, d, e, f⟩ := set5V hT hE hne hA hB hB2 k s n x y
  have f := Below.drew f
  unfold set5 at a b c d e f
  subst h
  simp only [drew_cell]
  exact ⟨a, b, c, d, e, f⟩
end Go.Proofs.YtcfminkmidaaoaaDoor
