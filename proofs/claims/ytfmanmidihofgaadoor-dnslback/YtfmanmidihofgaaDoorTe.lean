/- One sign: the code's own tokenAt. -/
import Derived.Test.YtfmanmidihofgaaDoorTd
import Derived.BigRegion
import Derived.Deep.DeepCutAuto
import Derived.Deep.RegionWith
namespace Go.Proofs.YtfmanmidihofgaaDoor
open Go.ChangeShapes Go.WideShapes Go.RowKit Go.Sort
/-- What tokenAt hands back where a sign, or something wrong, begins. -/
def StepE (l : Bs) (i : Nat) (v : Value) : Prop :=
  (∃ (kd : Nat) (s : Bs) (k : Nat), v = .tuple #[.agg #[.int .i64 (kd : Int), .string (baS s), .int .i64 (i : Int)], .int .i64 (k : Int), .agg #[.int .i64 0, .int .i64 0]] ∧ i < k ∧ k ≤ l.length ∧ s.length ≤ l.length ∧ tokA .top i (l.drop i) = if 255 < s.length then .bad 2 i else (tokA .top k (l.drop k)).pre [(kd, s, i)])
  ∨ ∃ (K : Int) (T : ByteArray) (N M : Int) (x : Nat), v = .tuple #[.agg #[.int .i64 K, .string T, .int .i64 N], .int .i64 M, .agg #[.int .i64 1, .int .i64 (x : Int)]] ∧ tokA .top i (l.drop i) = .bad 1 x
theorem txtG_len : ∀ (r acc : Bs) (i : Nat) (s : Bs) (k : Nat), txtG acc r i = .inl (s, k) → s.length ≤ acc.length + r.length
  | [], _, i, s, k, h => by simp [txtG] at h
  | [c], acc, i, s, k, h => by
    unfold txtG at h
    split at h
    · cases h; simp
    · split at h
      · simp at h
      · split at h
        · cases h
        · have := txtG_len [] _ _ _ _ h; simp at this ⊢; omega
  | c :: d :: r', acc, i, s, k, h => by
    unfold txtG at h
    split at h
    · cases h; simp
    · split at h
      · simp only at h
        split at h
        · have := txtG_len r' _ _ _ _ h; simp at this ⊢; omega
        · cases h
      · split at h
        · cases h
        · have := txtG_len (d :: r') _ _ _ _ h; simp at this ⊢; omega
theorem text_at {l : Bs} {i : Nat} (h : l[i]? = some 34) {s : Bs} {k : Nat} (ht : txtG [] (l.drop (i + 1)) (i + 1) = .inl (s, k)) : i < k ∧ k ≤ l.length ∧ s.length ≤ l.length ∧ tokA .top i (l.drop i) = if 255 < s.length then .bad 2 i else (tokA .top k (l.drop k)).pre [(3, s, i)] := by
  obtain ⟨h1, h2⟩ := txtG_le _ _ _ _ _ ht
  have h3 := txtG_len _ _ _ _ _ ht
  have hi := (List.getElem?_eq_some_iff.1 h).1
  rw [List.length_drop] at h2 h3
  refine ⟨by omega, by omega, by simp at h3; omega, ?_⟩
  rw [drop_cons8 h, top_txt, tok_txt, ht]
  simp only
  rw [List.drop_drop, show i + 1 + (k - (i + 1)) = k by omega]
theorem text_bad {l : Bs} {i : Nat} (h : l[i]? = some 34) {x : Nat} (ht : txtG [] (l.drop (i + 1)) (i + 1) = .inr x) : tokA .top i (l.drop i) = .bad 1 x := by
  rw [drop_cons8 h, top_txt, tok_txt, ht]
theorem sign_at {l : Bs} {i : Nat} {c : UInt8} (h : l[i]? = some c) (hs : signB c = true) : tokA .top i (l.drop i) = (tokA .top (i + 1) (l.drop (i + 1))).pre [(4, [c], i)] := by
  rw [drop_cons8 h, top_sign hs]
theorem bad_at {l : Bs} {i : Nat} {c : UInt8} (h : l[i]? = some c) (h1 : blankB c = false) (h2 : signB c = false) (h3 : c ≠ 35) (h4 : c ≠ 34) (h5 : wordB c = false) : tokA .top i (l.drop i) = .bad 1 i := by
  rw [drop_cons8 h, top_bad h1 h2 h3 h4 h5]
/-- An empty sign lies in a block. -/
structure TokZ (w : World) (B : Nat) : Prop where
  c0 : w.cell? ⟨B, 0, none⟩ = some (.int .i64 0)
  c1 : w.cell? ⟨B, 1, none⟩ = some (.string ⟨#[]⟩)
  c2 : w.cell? ⟨B, 2, none⟩ = some (.int .i64 0)
  fz : ∀ o, w.frozen? ⟨B, o, none⟩ = false
  lt : B < w.heap.size
theorem TokZ.next {w w' : World} {B : Nat} (h : TokZ w B) (hb : Below w.heap.size w w') : TokZ w' B := by
  obtain ⟨k, f, m⟩ := keepf hb B h.lt
  exact ⟨(k 0).trans h.c0, (k 1).trans h.c1, (k 2).trans h.c2, fun o => (f o).trans (h.fz o), m⟩
theorem set_same {w : World} {p : Addr} {u v : Value} (h : w.cell? p = some u) : (w.setCell p v).cell? p = some v := World.cell?_setCell_same w _ v h
theorem set_oth {w : World} {p q : Addr} {u v : Value} (hne : q ≠ p) (h : w.cell? q = some u) : (w.setCell p v).cell? q = some u := (World.cell?_setCell_other w _ _ v (by first | exact hne | exact hne.symm)).trans h
/-- The five stores of a sign and an error. -/
def set5 (w : World) (B E : Nat) (k : Int) (s : ByteArray) (n x y : Int) : World := ((((w.setCell ⟨B, 0, none⟩ (.int .i64 k)).setCell ⟨B, 1, none⟩ (.string s)).setCell ⟨B, 2, none⟩ (.int .i64 n)).setCell ⟨E, 0, none⟩ (.int .i64 x)).setCell ⟨E, 1, none⟩ (.int .i64 y)
theorem set5_cells {w : World} {B E : Nat} (hT : TokZ w B) (hE : ErrAt w E) (hne : B ≠ E) (k : Int) (s : ByteArray) (n x y : Int) :
    (set5 w B E k s n x y).cell? ⟨B, 0, none⟩ = some (.int .i64 k) ∧ (set5 w B E k s n x y).cell? ⟨B, 1, none⟩ = some (.string s) ∧ (set5 w B E k s n x y).cell? ⟨B, 2, none⟩ = some (.int .i64 n) ∧ (set5 w B E k s n x y).cell? ⟨E, 0, none⟩ = some (.int .i64 x) ∧ (set5 w B E k s n x y).cell? ⟨E, 1, none⟩ = some (.int .i64 y) := by
  unfold set5
  have hne' : E ≠ B := fun e => hne e.symm
  have h0 := hT.c0
  have h1 := hT.c1
  have h2 := hT.c2
  have g0 := hE.c0
  have g1 := hE.c1
  have o1 : ∀ i j, (⟨B, i, none⟩ : Addr) ≠ ⟨E, j, none⟩ := fun i j e => hne (by injection e)
  have o2 : ∀ i j, (⟨E, i, none⟩ : Addr) ≠ ⟨B, j, none⟩ := fun i j e => hne' (by injection e)
  have o3 : ∀ b i j, i ≠ j → (⟨b, i, none⟩ : Addr) ≠ ⟨b, j, none⟩ := fun b i j h e => h (by injection e)
  exact ⟨set_oth (o1 _ _) (set_oth (o1 _ _) (set_oth (o3 _ _ _ (by decide)) (set_oth (o3 _ _ _ (by decide)) (set_same h0)))), set_oth (o1 _ _) (set_oth (o1 _ _) (set_oth (o3 _ _ _ (by decide)) (set_same (set_oth (o3 _ _ _ (by decide)) h1)))), set_oth (o1 _ _) (set_oth (o1 _ _) (set_same (set_oth (o3 _ _ _ (by decide)) (set_oth (o3 _ _ _ (by decide)) h2)))), set_oth (o3 _ _ _ (by decide)) (set_same (set_oth (o2 _ _) (set_oth (o2 _ _) (set_oth (o2 _ _) g0)))), set_same (set_oth (o3 _ _ _ (by decide)) (set_oth (o2 _ _) (set_oth (o2 _ _) (set_oth (o2 _ _) g1))))⟩
theorem set5_below {w W : World} {B E A : Nat} (h : Below A W w) (hB : A ≤ B) (hE : A ≤ E) (k : Int) (s : ByteArray) (n x y : Int) : Below A W (set5 w B E k s n x y) :=
  ((((h.setCell hB _).setCell hB _).setCell hB _).setCell hE _).setCell hE _
theorem set5_plain {w w3 W : World} {B E A : Nat} (hT : TokZ w B) (hE : ErrAt w E) (hne : B ≠ E) (hA : Below A W w) (hB : A ≤ B) (hB2 : A ≤ E) {k : Int} {s : ByteArray} {n x y : Int}
    (h : ((((w.setCell ⟨B, 0, none⟩ (.int .i64 k)).setCell ⟨B, 1, none⟩ (.string s)).setCell ⟨B, 2, none⟩ (.int .i64 n)).setCell ⟨E, 0, none⟩ (.int .i64 x)).setCell ⟨E, 1, none⟩ (.int .i64 y) = w3) :
    w3.cell? ⟨B, 0, none⟩ = some (.int .i64 k) ∧ w3.cell? ⟨B, 1, none⟩ = some (.string s) ∧ w3.cell? ⟨B, 2, none⟩ = some (.int .i64 n) ∧ w3.cell? ⟨E, 0, none⟩ = some (.int .i64 x) ∧ w3.cell? ⟨E, 1, none⟩ = some (.int .i64 y) ∧ Below A W w3 := by
  obtain ⟨a, b, c, d, e⟩ := set5_cells hT hE hne k s n x y
  have f := set5_below hA hB hB2 k s n x y
  unfold set5 at a b c d e f
  subst h
  exact ⟨a, b, c, d, e, f⟩
theorem drew_cell (w : World) (p : Addr) : w.drew.cell? p = w.cell? p := rfl
theorem set5_any {w w3 W : World} {B E A : Nat} (hT : TokZ w B) (hE : ErrAt w E) (hne : B ≠ E) (hA : Below A W w) (hB : A ≤ B) (hB2 : A ≤ E) {k : Int} {s : ByteArray} {n x y : Int}
    (h : World.drew (((((w.setCell ⟨B, 0, none⟩ (.int .i64 k)).setCell ⟨B, 1, none⟩ (.string s)).setCell ⟨B, 2, none⟩ (.int .i64 n)).setCell ⟨E, 0, none⟩ (.int .i64 x)).setCell ⟨E, 1, none⟩ (.int .i64 y)) = w3) :
    w3.cell? ⟨B, 0, none⟩ = some (.int .i64 k) ∧ w3.cell? ⟨B, 1, none⟩ = some (.string s) ∧ w3.cell? ⟨B, 2, none⟩ = some (.int .i64 n) ∧ w3.cell? ⟨E, 0, none⟩ = some (.int .i64 x) ∧ w3.cell? ⟨E, 1, none⟩ = some (.int .i64 y) ∧ Below A W w3 := by
  obtain ⟨a, b, c, d, e⟩ := set5_cells hT hE hne k s n x y
  have f := Below.drew (set5_below hA hB hB2 k s n x y)
  unfold set5 at a b c d e f
  subst h
  simp only [drew_cell]
  exact ⟨a, b, c, d, e, f⟩
end Go.Proofs.YtfmanmidihofgaaDoor
