/- ScanForms: whichever row of texts is asked for, the law answers true. -/
import Derived.Test.YtlhllhdjcbaipaaSh
import Derived.Lib.QuietBelow
import Derived.Test.YtlhllhdjcbaipaaRg
import Derived.Deep.DeepCutAuto
import Derived.Deep.RegionWith
namespace Go.Proofs.Ytlhllhdjcbaipaa
open Go.ChangeShapes Go.WideShapes Go.RowKit Go.Sort
/-- A text's bytes, where '[]byte(s)' laid them. -/
theorem run_v {P : Program} {s : Sem Value} {w w' : World} {v : Value} (h : s.run P w = .ok v w') : (do pure (Next.value (← s)) : Sem Next).run P w = .ok (.value v) w' := by
  simp [go_sem, h]
theorem bytes_conv (V : World) (l : Bs) : BytesAt (Lib.bytesWorld V 5 (baS l)) (some ⟨V.heap.size, 0, none⟩) l := fun j b hj => by
  have hlt := (List.getElem?_eq_some_iff.1 hj).1
  refine ⟨_, rfl, by rw [Lib.bytesWorld_size]; simp, ?_⟩
  have e : ((⟨V.heap.size, 0, none⟩ : Addr).add j) = ⟨V.heap.size, j, none⟩ := by
    unfold Addr.add; split <;> simp_all
  rw [e, Lib.bytesWorld_cell V _ _ j (by rw [baS_size]; exact hlt)]
  simp [baS, List.getD, hj]
theorem conv_below (V : World) (l : Bs) : Below V.heap.size V (Lib.bytesWorld V 5 (baS l)) := Joins.below_bytesWorld _ _ _ _ (Nat.le_refl _)
theorem where_s (l : Bs) (t : Int) (V : World) (hl : l.length ≤ 1000000) :
    Calls Try.prog 7 #[.slice (some ⟨V.heap.size, 0, none⟩) (baS l).size (grownCap V (baS l).size 0 5), .int .i64 t] (Lib.bytesWorld V 5 (baS l)) fun e w' => e = .returned (.tuple #[.int .i64 (1 + (lfs (l.take (heldAt l t)) : Int)), .int .i64 (1 + (since (l.take (heldAt l t)) : Int))]) ∧ Below V.heap.size V w' := by
  rw [baS_size]
  exact (where_x l _ _ t _ (bytes_conv V l) (grownCap_ge _ _ _ _) hl).mono fun e w' ⟨h, k⟩ => ⟨h, below_next (conv_below V l) k⟩
theorem long_s (l : Bs) (V : World) (hl : l.length ≤ 1000000) :
    Calls Try.prog 8 #[.slice (some ⟨V.heap.size, 0, none⟩) (baS l).size (grownCap V (baS l).size 0 5)] (Lib.bytesWorld V 5 (baS l)) fun e w' => e = .returned (.tuple #[.agg #[.int .i64 0, .int .i64 0], .bool false]) ∧ Below V.heap.size V w' := by
  rw [baS_size]
  exact (long_no _ l.length _ _ hl).mono fun e w' ⟨h, k⟩ => ⟨h, below_next (conv_below V l) k⟩
theorem lines_s (l : Bs) (V : World) (hl : l.length ≤ 1000000) :
    Calls Try.prog 9 #[.slice (some ⟨V.heap.size, 0, none⟩) (baS l).size (grownCap V (baS l).size 0 5)] (Lib.bytesWorld V 5 (baS l)) fun e w' => (∃ p c, e = .returned (.slice p (linesV l).length c)) ∧ Below V.heap.size V w' := by
  rw [baS_size]
  exact (lines_x l _ _ _ (bytes_conv V l) (grownCap_ge _ _ _ _) hl).mono fun e w' ⟨k, p, c, h, _⟩ => ⟨⟨p, c, h⟩, below_next (conv_below V l) k⟩
/-- The rows, by hand: a text, its lines, a place, its line and column, the last line. -/
def rows7 : List (Bs × Nat × Int × Int × Int × Int) := [([], 0, 0, 1, 1, 1), ([97], 1, 1, 1, 2, 1), ([97, 10], 1, 2, 2, 1, 2), ([10], 1, 0, 1, 1, 2), ([10, 10], 2, 1, 2, 1, 3), ([97, 10, 98], 2, 3, 2, 2, 2), ([97, 13, 10, 98, 13, 10], 2, 3, 2, 1, 3), ([97, 13, 98], 1, 2, 1, 3, 1), ([97, 10, 13, 10], 2, 2, 2, 1, 3), ([195, 169, 10], 1, 2, 1, 3, 2)]
def okRow7 (p : Bs × Nat × Int × Int × Int × Int) : Bool := decide (p.1.length ≤ 10) && decide ((linesV p.1).length = p.2.1) && decide ((1 + (lfs (p.1.take (heldAt p.1 p.2.2.1)) : Int)) = p.2.2.2.1) && decide ((1 + (since (p.1.take (heldAt p.1 p.2.2.1)) : Int)) = p.2.2.2.2.1) && decide ((1 + (lfs (p.1.take (heldAt p.1 1000)) : Int)) = p.2.2.2.2.2)
theorem rows7_ok : rows7.all okRow7 = true := by decide +kernel
def cellsR (p : Bs × Nat × Int × Int × Int × Int) : List Value := [.string (baS p.1), .int .i64 (p.2.1 : Int), .int .i64 p.2.2.1, .int .i64 p.2.2.2.1, .int .i64 p.2.2.2.2.1, .int .i64 p.2.2.2.2.2]
theorem cellsR_at : ∀ (l : List (Bs × Nat × Int × Int × Int × Int)) (j i : Nat) (p), l[j]? = some p → i < 6 → (l.flatMap cellsR)[j * 6 + i]? = (cellsR p)[i]?
  | [], j, i, p, h, _ => by simp at h
  | q :: r, 0, i, p, h, hi => by
    simp at h; subst h
    rw [List.flatMap_cons, List.getElem?_append_left (by simp [cellsR]; omega), Nat.zero_mul, Nat.zero_add]
  | q :: r, j + 1, i, p, h, hi => by
    rw [List.flatMap_cons, List.getElem?_append_right (by simp [cellsR]; omega), show (j + 1) * 6 + i - (cellsR q).length = j * 6 + i by simp [cellsR]; omega]
    exact cellsR_at r j i p (by simpa using h) hi
/-- A row lies in block b. -/
structure Fl (w : World) (b : Nat) (s : ByteArray) (n a l c f : Int) : Prop where
  c0 : w.cell? ⟨b, 0, none⟩ = some (.string s)
  c1 : w.cell? ⟨b, 1, none⟩ = some (.int .i64 n)
  c2 : w.cell? ⟨b, 2, none⟩ = some (.int .i64 a)
  c3 : w.cell? ⟨b, 3, none⟩ = some (.int .i64 l)
  c4 : w.cell? ⟨b, 4, none⟩ = some (.int .i64 c)
  c5 : w.cell? ⟨b, 5, none⟩ = some (.int .i64 f)
  lt : b < w.heap.size
theorem Fl.next {w w' : World} {b : Nat} {s : ByteArray} {n a l c f : Int} (h : Fl w b s n a l c f) (hb : Below w.heap.size w w') : Fl w' b s n a l c f := by
  obtain ⟨k, m⟩ := keep hb b h.lt
  exact ⟨(k 0).trans h.c0, (k 1).trans h.c1, (k 2).trans h.c2, (k 3).trans h.c3, (k 4).trans h.c4, (k 5).trans h.c5, m⟩
def cells7 : List Value := [.string ⟨#[]⟩, .int .i64 0, .int .i64 0, .int .i64 1, .int .i64 1, .int .i64 1, .string ⟨#[97]⟩, .int .i64 1, .int .i64 1, .int .i64 1, .int .i64 2, .int .i64 1, .string ⟨#[97, 10]⟩, .int .i64 1, .int .i64 2, .int .i64 2, .int .i64 1, .int .i64 2, .string ⟨#[10]⟩, .int .i64 1, .int .i64 0, .int .i64 1, .int .i64 1, .int .i64 2, .string ⟨#[10, 10]⟩, .int .i64 2, .int .i64 1, .int .i64 2, .int .i64 1, .int .i64 3, .string ⟨#[97, 10, 98]⟩, .int .i64 2, .int .i64 3, .int .i64 2, .int .i64 2, .int .i64 2, .string ⟨#[97, 13, 10, 98, 13, 10]⟩, .int .i64 2, .int .i64 3, .int .i64 2, .int .i64 1, .int .i64 3, .string ⟨#[97, 13, 98]⟩, .int .i64 1, .int .i64 2, .int .i64 1, .int .i64 3, .int .i64 1, .string ⟨#[97, 10, 13, 10]⟩, .int .i64 2, .int .i64 2, .int .i64 2, .int .i64 1, .int .i64 3, .string ⟨#[195, 169, 10]⟩, .int .i64 1, .int .i64 2, .int .i64 1, .int .i64 3, .int .i64 2]
theorem cells7_is : cells7 = rows7.flatMap cellsR := rfl
set_option maxHeartbeats 8000000 in
set_option maxRecDepth 100000 in
theorem sforms_row (n : Int) (k : Nat) (s : Bs) (m : Nat) (a l c f : Int) (w : World) (hk : k < 10) (hn : (bits BinOp.and IntKind.i64 n 255).tmod 10 = (k : Int)) (hx : rows7[k]? = some (s, m, a, l, c, f)) (ho : okRow7 (s, m, a, l, c, f) = true) :
    Calls Try.prog 3 #[.int .i64 n] w fun e w' => e = .returned (.bool true) ∧ Below w.heap.size w w' := by
  have h0 := cellsR_at rows7 k 0 _ hx (by decide)
  have h1 := cellsR_at rows7 k 1 _ hx (by decide)
  have h2 := cellsR_at rows7 k 2 _ hx (by decide)
  have h3 := cellsR_at rows7 k 3 _ hx (by decide)
  have h4 := cellsR_at rows7 k 4 _ hx (by decide)
  have h5 := cellsR_at rows7 k 5 _ hx (by decide)
  rw [← cells7_is] at h0 h1 h2 h3 h4 h5
  simp only [cellsR, List.getElem?_cons_zero, List.getElem?_cons_succ, Nat.add_zero] at h0 h1 h2 h3 h4 h5
  unfold cells7 at h0 h1 h2 h3 h4 h5
  unfold okRow7 at ho
  simp only [Bool.and_eq_true, decide_eq_true_eq] at ho
  obtain ⟨⟨⟨⟨o1, o2⟩, o3⟩, o4⟩, o5⟩ := ho
  have HA : Hid (∀ V, Calls Try.prog 7 #[.slice (some ⟨V.heap.size, 0, none⟩) (baS s).size (grownCap V (baS s).size 0 5), .int .i64 a] (Lib.bytesWorld V 5 (baS s)) fun e w' => e = .returned (.tuple #[.int .i64 l, .int .i64 c]) ∧ Below V.heap.size V w') := fun V => by
    have := where_s s a V (by omega)
    rwa [o3, o4] at this
  have HF : Hid (∀ V, Calls Try.prog 7 #[.slice (some ⟨V.heap.size, 0, none⟩) (baS s).size (grownCap V (baS s).size 0 5), .int .i64 1000] (Lib.bytesWorld V 5 (baS s)) fun e w' => (∃ q, e = .returned (.tuple #[.int .i64 f, q])) ∧ Below V.heap.size V w') := fun V => by
    have := where_s s 1000 V (by omega)
    rw [o5] at this
    exact this.mono fun e w' ⟨h, k⟩ => ⟨⟨_, h⟩, k⟩
  have H5 : Hid (∀ V, Calls Try.prog 7 #[.slice (some ⟨V.heap.size, 0, none⟩) (baS s).size (grownCap V (baS s).size 0 5), .int .i64 (-5)] (Lib.bytesWorld V 5 (baS s)) fun e w' => e = .returned (.tuple #[.int .i64 1, .int .i64 1]) ∧ Below V.heap.size V w') := fun V => by
    have := where_s s (-5) V (by omega)
    rw [show heldAt s (-5) = 0 by unfold heldAt; omega, List.take_zero] at this
    exact this
  have HG : Hid (∀ V, Calls Try.prog 8 #[.slice (some ⟨V.heap.size, 0, none⟩) (baS s).size (grownCap V (baS s).size 0 5)] (Lib.bytesWorld V 5 (baS s)) fun e w' => e = .returned (.tuple #[.agg #[.int .i64 0, .int .i64 0], .bool false]) ∧ Below V.heap.size V w') := fun V => long_s s V (by omega)
  have HL : Hid (∀ V g q, BytesAt V (some ⟨g, 0, none⟩) s → (baS s).size ≤ q → Calls Try.prog 9 #[.slice (some ⟨g, 0, none⟩) (baS s).size q] V fun e w' => (∃ p c, e = .returned (.slice p m c)) ∧ Below V.heap.size V w') := fun V g q hV hq => by
    rw [baS_size] at hq ⊢
    exact (lines_x s _ _ _ hV hq (by omega)).mono fun e w' ⟨k, p, c, h, _⟩ => ⟨⟨p, c, by rw [h, o2]⟩, k⟩
  have HC : Hid (∀ V : World, BytesAt (Lib.bytesWorld V 5 (baS s)) (some ⟨V.heap.size, 0, none⟩) s) := fun V => bytes_conv V s
  have kc : ∀ (V : World) (s : ByteArray), (convert 9 26 (.string s)).run Try.prog V = .ok (.slice (some ⟨V.heap.size, 0, none⟩) s.size (grownCap V s.size 0 5)) (Lib.bytesWorld V 5 s) := fun V s =>
    Lib.run_convert_string_bytes V 9 26 5 s Try.underlying9 Try.underlying26 Try.underlying5
  clear o1 o2 o3 o4 o5 hx
  dsimp only at h0 h1 h2 h3 h4 h5
  generalize baS s = S at *
  go_enter Try.func3, Try.ntmps3
  go_upto_region 3 with fail
  generalize hw1 : (w.alloc _).alloc _ = w1
  have B1 : Below w.heap.size w w1 := hw1 ▸ ball (ball (Below.refl _ _))
  have S1 : Fl w1 (w.heap.size + 1) S m a l c f := by
    subst hw1
    exact ⟨by simp [go_sem], by simp [go_sem], by simp [go_sem], by simp [go_sem], by simp [go_sem], by simp [go_sem], by simp [go_sem]⟩
  clear h0 h1 h2 h3 h4 h5 hn hk hw1
  generalize w.heap.size + 1 = X at *
  have HB : Hid (∀ V : World, Below V.heap.size V (Lib.bytesWorld V 5 S)) := fun V => Joins.below_bytesWorld _ _ _ _ (Nat.le_refl _)
  have s0 := S1.c0
  have s2 := (S1.next (HB.out w1)).c2
  go_wp2_with fail
  clear s0 s2
  refine (HA.out w1).mono ?_
  rintro e w2 ⟨rfl, hb2⟩
  have S2 := S1.next hb2
  have B2 := below_next B1 hb2
  clear S1 hb2 B1 HA
  have s0 := S2.c0
  go_wp2_with fail
  clear s0
  refine (HF.out w2).mono ?_
  rintro e w3 ⟨⟨q, rfl⟩, hb3⟩
  have S3 := S2.next hb3
  have B3 := below_next B2 hb3
  clear S2 hb3 B2 HF
  have s0 := S3.c0
  go_wp2_with fail
  clear s0
  refine (H5.out w3).mono ?_
  rintro e w4 ⟨rfl, hb4⟩
  have S4 := S3.next hb4
  have B4 := below_next B3 hb4
  clear S3 hb4 B3 H5
  have s0 := S4.c0
  go_wp2_with fail
  clear s0
  refine (HG.out w4).mono ?_
  rintro e w5 ⟨rfl, hb5⟩
  have S5 := S4.next hb5
  have B5 := below_next B4 hb5
  clear S4 hb5 B4 HG
  go_upto_region 7 with fail
  generalize hw6 : w5.alloc _ = w6
  have B6 : Below w.heap.size w w6 := hw6 ▸ ball B5
  have S6 : Fl w6 X S m a l c f := hw6 ▸ S5.next (ball (Below.refl _ _))
  clear hw6 B5 S5
  have HS : Hid (∀ V, Below w6.heap.size w6 V → V.cell? ⟨X, 0, none⟩ = some (.string S) ∧ V.cell? ⟨X, 1, none⟩ = some (.int .i64 m) ∧ V.cell? ⟨X, 3, none⟩ = some (.int .i64 l) ∧ V.cell? ⟨X, 4, none⟩ = some (.int .i64 c) ∧ V.cell? ⟨X, 5, none⟩ = some (.int .i64 f)) := fun V hV => by
    have := S6.next hV
    exact ⟨this.c0, this.c1, this.c3, this.c4, this.c5⟩
  have HW := Lib.hid awake7_x
  clear S6
  refine region_go [62, 63, 64, 65, 66, 67, 68, 69, 70, 71, 72, 73, 74, 75, 76, 77, 78, 79, 80, 81, 82, 83, 84, 85, 86, 87, 88, 89, 90, 91, 92, 93, 94, 95, 96, 97, 98, 99, 100, 101, 102, 2]
    [.eqv (.pointer (some ⟨X, 0, none⟩)), .eqv (.string S), ⟨fun v w => ∃ g q, v = .slice (some ⟨g, 0, none⟩) S.size q ∧ S.size ≤ q ∧ BytesAt w (some ⟨g, 0, none⟩) s, fun _ _ _ ⟨g, q, h1, h2, h3⟩ hb => ⟨g, q, h1, h2, h3.below hb⟩⟩, ⟨fun v _ => ∃ p q, v = .slice p m q, fun _ _ _ h _ => h⟩, .eqv (.int .i64 m), .eqv (.pointer (some ⟨X, 1, none⟩)), .eqv (.int .i64 m), .eqv (.bool true), .eqv (.bool true), .eqv (.int .i64 l), .eqv (.pointer (some ⟨X, 3, none⟩)), .eqv (.int .i64 l), .eqv (.bool true), .eqv (.bool true), .eqv (.bool true), .eqv (.int .i64 c), .eqv (.pointer (some ⟨X, 4, none⟩)), .eqv (.int .i64 c), .eqv (.bool true), .eqv (.bool true), .eqv (.bool true), .eqv (.int .i64 f), .eqv (.pointer (some ⟨X, 5, none⟩)), .eqv (.int .i64 f), .eqv (.bool true), .eqv (.bool true), .eqv (.bool true), .eqv (.int .i64 1), .eqv (.bool true), .eqv (.bool true), .eqv (.bool true), .eqv (.int .i64 1), .eqv (.bool true), .eqv (.bool true), .eqv (.bool true), .eqv (.bool false), .eqv (.bool true), .eqv (.bool true), .eqv (.bool true), .eqv (.bool true), .eqv (.bool true), .eqv (.bool true)]
    (by kernel_rfl) (by kernel_rfl) rfl (by decide) (of_decide_eq_true (by kernel_rfl)) ?_ ?_
  · refine ⟨?_, ?_, ?_, ?_, ?_, ?_, ?_, ?_, ?_, ?_, ?_, ?_, ?_, ?_, ?_, ?_, ?_, ?_, ?_, ?_, ?_, ?_, ?_, ?_, ?_, ?_, ?_, ?_, ?_, ?_, ?_, ?_, ?_, ?_, ?_, ?_, ?_, ?_, ?_, ?_, ?_, ?_, True.intro⟩
    · refine stepG_val rfl fun a w hF hB hD => ⟨rg_free rfl _, ?_⟩
      have h4 : a.eval (.tmp 4) = .pointer (some ⟨X, 0, none⟩) := (hF 4 (by decide)).trans rfl
      unfold execOp
      simp only [h4]
      simp [go_sem]
    · refine stepG_val rfl fun a w hF hB hD => ⟨rg_free rfl _, ?_⟩
      have h62 : a.eval (.tmp 62) = .pointer (some ⟨X, 0, none⟩) := hD 0 rfl
      have c0 := (HS.out w hB).1
      unfold execOp
      simp only [h62]
      simp [go_sem, c0]
    · refine stepG_run fun a w hF hB hD => ⟨rg_free rfl _, .slice (some ⟨w.heap.size, 0, none⟩) S.size (grownCap w S.size 0 5), Lib.bytesWorld w 5 S, ?_, ⟨_, _, rfl, grownCap_ge _ _ _ _, HC.out w⟩, HB.out w⟩
      have h63 : a.eval (.tmp 63) = .string S := hD 1 rfl
      unfold execOp
      simp only [h63]
      exact run_v (kc w S)
    · refine stepG_call fun a w hF hB hD => ⟨rg_free rfl _, 9, ?_⟩
      obtain ⟨g, q, h64, hq, hy⟩ : ∃ g q, a.eval (.tmp 64) = .slice (some ⟨g, 0, none⟩) S.size q ∧ S.size ≤ q ∧ BytesAt w (some ⟨g, 0, none⟩) s := hD 2 rfl
      refine ⟨#[.slice (some ⟨g, 0, none⟩) S.size q], ?_, ?_⟩
      · unfold execOp
        simp [go_sem, rg_tmp h64]
      · exact (HL.out w g q hy hq).mono fun e w' ⟨⟨p, r, h⟩, k⟩ => ⟨_, h, ⟨p, r, rfl⟩, k⟩
    · refine stepG_val rfl fun a w hF hB hD => ⟨rg_free rfl _, ?_⟩
      obtain ⟨p, q, h65⟩ : ∃ p q, a.eval (.tmp 65) = .slice p m q := hD 3 rfl
      unfold execOp
      simp [go_sem, rg_tmp h65, Builtin.len_]
    · refine stepG_val rfl fun a w hF hB hD => ⟨rg_free rfl _, ?_⟩
      have h4 : a.eval (.tmp 4) = .pointer (some ⟨X, 0, none⟩) := (hF 4 (by decide)).trans rfl
      unfold execOp
      simp only [h4]
      simp [go_sem]
    · refine stepG_val rfl fun a w hF hB hD => ⟨rg_free rfl _, ?_⟩
      have h67 : a.eval (.tmp 67) = .pointer (some ⟨X, 1, none⟩) := hD 5 rfl
      have c0 := (HS.out w hB).2.1
      unfold execOp
      simp only [h67]
      simp [go_sem, c0]
    · refine stepG_val rfl fun a w hF hB hD => ⟨rg_free rfl _, ?_⟩
      have h66 : a.eval (.tmp 66) = .int .i64 m := hD 4 rfl
      have h68 : a.eval (.tmp 68) = .int .i64 m := hD 6 rfl
      unfold execOp
      simp only [h66, h68]
      simp [go_sem]
    · refine stepG_val rfl fun a w hF hB hD => ⟨rg_free rfl _, ?_⟩
      have h69 : a.eval (.tmp 69) = .bool true := hD 7 rfl
      unfold execOp
      simp only [h69]
      simp [go_sem]
    · refine stepG_val rfl fun a w hF hB hD => ⟨rg_on (d := 70) rfl rfl (hD 8 rfl), ?_⟩
      have h5 : a.eval (.tmp 5) = .int .i64 l := (hF 5 (by decide)).trans rfl
      unfold execOp
      simp only [h5]
      simp [go_sem]
    · refine stepG_val rfl fun a w hF hB hD => ⟨rg_on (d := 70) rfl rfl (hD 8 rfl), ?_⟩
      have h4 : a.eval (.tmp 4) = .pointer (some ⟨X, 0, none⟩) := (hF 4 (by decide)).trans rfl
      unfold execOp
      simp only [h4]
      simp [go_sem]
    · refine stepG_val rfl fun a w hF hB hD => ⟨rg_on (d := 70) rfl rfl (hD 8 rfl), ?_⟩
      have h72 : a.eval (.tmp 72) = .pointer (some ⟨X, 3, none⟩) := hD 10 rfl
      have c0 := (HS.out w hB).2.2.1
      unfold execOp
      simp only [h72]
      simp [go_sem, c0]
    · refine stepG_val rfl fun a w hF hB hD => ⟨rg_on (d := 70) rfl rfl (hD 8 rfl), ?_⟩
      have h71 : a.eval (.tmp 71) = .int .i64 l := hD 9 rfl
      have h73 : a.eval (.tmp 73) = .int .i64 l := hD 11 rfl
      unfold execOp
      simp only [h71, h73]
      simp [go_sem]
    · refine stepG_val rfl fun a w hF hB hD => ⟨rg_free rfl _, ?_⟩
      have h70 : a.eval (.tmp 70) = .bool true := hD 8 rfl
      have h74 : a.eval (.tmp 74) = .bool true := hD 12 rfl
      unfold execOp
      simp only [h70, h74]
      simp [go_sem]
    · refine stepG_val rfl fun a w hF hB hD => ⟨rg_free rfl _, ?_⟩
      have h75 : a.eval (.tmp 75) = .bool true := hD 13 rfl
      unfold execOp
      simp only [h75]
      simp [go_sem]
    · refine stepG_val rfl fun a w hF hB hD => ⟨rg_on (d := 76) rfl rfl (hD 14 rfl), ?_⟩
      have h6 : a.eval (.tmp 6) = .int .i64 c := (hF 6 (by decide)).trans rfl
      unfold execOp
      simp only [h6]
      simp [go_sem]
    · refine stepG_val rfl fun a w hF hB hD => ⟨rg_on (d := 76) rfl rfl (hD 14 rfl), ?_⟩
      have h4 : a.eval (.tmp 4) = .pointer (some ⟨X, 0, none⟩) := (hF 4 (by decide)).trans rfl
      unfold execOp
      simp only [h4]
      simp [go_sem]
    · refine stepG_val rfl fun a w hF hB hD => ⟨rg_on (d := 76) rfl rfl (hD 14 rfl), ?_⟩
      have h78 : a.eval (.tmp 78) = .pointer (some ⟨X, 4, none⟩) := hD 16 rfl
      have c0 := (HS.out w hB).2.2.2.1
      unfold execOp
      simp only [h78]
      simp [go_sem, c0]
    · refine stepG_val rfl fun a w hF hB hD => ⟨rg_on (d := 76) rfl rfl (hD 14 rfl), ?_⟩
      have h77 : a.eval (.tmp 77) = .int .i64 c := hD 15 rfl
      have h79 : a.eval (.tmp 79) = .int .i64 c := hD 17 rfl
      unfold execOp
      simp only [h77, h79]
      simp [go_sem]
    · refine stepG_val rfl fun a w hF hB hD => ⟨rg_free rfl _, ?_⟩
      have h76 : a.eval (.tmp 76) = .bool true := hD 14 rfl
      have h80 : a.eval (.tmp 80) = .bool true := hD 18 rfl
      unfold execOp
      simp only [h76, h80]
      simp [go_sem]
    · refine stepG_val rfl fun a w hF hB hD => ⟨rg_free rfl _, ?_⟩
      have h81 : a.eval (.tmp 81) = .bool true := hD 19 rfl
      unfold execOp
      simp only [h81]
      simp [go_sem]
    · refine stepG_val rfl fun a w hF hB hD => ⟨rg_on (d := 82) rfl rfl (hD 20 rfl), ?_⟩
      have h7 : a.eval (.tmp 7) = .int .i64 f := (hF 7 (by decide)).trans rfl
      unfold execOp
      simp only [h7]
      simp [go_sem]
    · refine stepG_val rfl fun a w hF hB hD => ⟨rg_on (d := 82) rfl rfl (hD 20 rfl), ?_⟩
      have h4 : a.eval (.tmp 4) = .pointer (some ⟨X, 0, none⟩) := (hF 4 (by decide)).trans rfl
      unfold execOp
      simp only [h4]
      simp [go_sem]
    · refine stepG_val rfl fun a w hF hB hD => ⟨rg_on (d := 82) rfl rfl (hD 20 rfl), ?_⟩
      have h84 : a.eval (.tmp 84) = .pointer (some ⟨X, 5, none⟩) := hD 22 rfl
      have c0 := (HS.out w hB).2.2.2.2
      unfold execOp
      simp only [h84]
      simp [go_sem, c0]
    · refine stepG_val rfl fun a w hF hB hD => ⟨rg_on (d := 82) rfl rfl (hD 20 rfl), ?_⟩
      have h83 : a.eval (.tmp 83) = .int .i64 f := hD 21 rfl
      have h85 : a.eval (.tmp 85) = .int .i64 f := hD 23 rfl
      unfold execOp
      simp only [h83, h85]
      simp [go_sem]
    · refine stepG_val rfl fun a w hF hB hD => ⟨rg_free rfl _, ?_⟩
      have h82 : a.eval (.tmp 82) = .bool true := hD 20 rfl
      have h86 : a.eval (.tmp 86) = .bool true := hD 24 rfl
      unfold execOp
      simp only [h82, h86]
      simp [go_sem]
    · refine stepG_val rfl fun a w hF hB hD => ⟨rg_free rfl _, ?_⟩
      have h87 : a.eval (.tmp 87) = .bool true := hD 25 rfl
      unfold execOp
      simp only [h87]
      simp [go_sem]
    · refine stepG_val rfl fun a w hF hB hD => ⟨rg_on (d := 88) rfl rfl (hD 26 rfl), ?_⟩
      have h9 : a.eval (.tmp 9) = .int .i64 1 := (hF 9 (by decide)).trans rfl
      unfold execOp
      simp only [h9]
      simp [go_sem]
    · refine stepG_val rfl fun a w hF hB hD => ⟨rg_on (d := 88) rfl rfl (hD 26 rfl), ?_⟩
      have h89 : a.eval (.tmp 89) = .int .i64 1 := hD 27 rfl
      unfold execOp
      simp only [h89]
      simp [go_sem]
    · refine stepG_val rfl fun a w hF hB hD => ⟨rg_free rfl _, ?_⟩
      have h88 : a.eval (.tmp 88) = .bool true := hD 26 rfl
      have h90 : a.eval (.tmp 90) = .bool true := hD 28 rfl
      unfold execOp
      simp only [h88, h90]
      simp [go_sem]
    · refine stepG_val rfl fun a w hF hB hD => ⟨rg_free rfl _, ?_⟩
      have h91 : a.eval (.tmp 91) = .bool true := hD 29 rfl
      unfold execOp
      simp only [h91]
      simp [go_sem]
    · refine stepG_val rfl fun a w hF hB hD => ⟨rg_on (d := 92) rfl rfl (hD 30 rfl), ?_⟩
      have h10 : a.eval (.tmp 10) = .int .i64 1 := (hF 10 (by decide)).trans rfl
      unfold execOp
      simp only [h10]
      simp [go_sem]
    · refine stepG_val rfl fun a w hF hB hD => ⟨rg_on (d := 92) rfl rfl (hD 30 rfl), ?_⟩
      have h93 : a.eval (.tmp 93) = .int .i64 1 := hD 31 rfl
      unfold execOp
      simp only [h93]
      simp [go_sem]
    · refine stepG_val rfl fun a w hF hB hD => ⟨rg_free rfl _, ?_⟩
      have h92 : a.eval (.tmp 92) = .bool true := hD 30 rfl
      have h94 : a.eval (.tmp 94) = .bool true := hD 32 rfl
      unfold execOp
      simp only [h92, h94]
      simp [go_sem]
    · refine stepG_val rfl fun a w hF hB hD => ⟨rg_free rfl _, ?_⟩
      have h95 : a.eval (.tmp 95) = .bool true := hD 33 rfl
      unfold execOp
      simp only [h95]
      simp [go_sem]
    · refine stepG_val rfl fun a w hF hB hD => ⟨rg_on (d := 96) rfl rfl (hD 34 rfl), ?_⟩
      have h12 : a.eval (.tmp 12) = .bool false := (hF 12 (by decide)).trans rfl
      unfold execOp
      simp only [h12]
      simp [go_sem]
    · refine stepG_val rfl fun a w hF hB hD => ⟨rg_on (d := 96) rfl rfl (hD 34 rfl), ?_⟩
      have h97 : a.eval (.tmp 97) = .bool false := hD 35 rfl
      unfold execOp
      simp only [h97]
      simp [go_sem]
    · refine stepG_val rfl fun a w hF hB hD => ⟨rg_free rfl _, ?_⟩
      have h96 : a.eval (.tmp 96) = .bool true := hD 34 rfl
      have h98 : a.eval (.tmp 98) = .bool true := hD 36 rfl
      unfold execOp
      simp only [h96, h98]
      simp [go_sem]
    · refine stepG_val rfl fun a w hF hB hD => ⟨rg_free rfl _, ?_⟩
      have h99 : a.eval (.tmp 99) = .bool true := hD 37 rfl
      unfold execOp
      simp only [h99]
      simp [go_sem]
    · refine stepG_call fun a w hF hB hD => ⟨rg_on (d := 100) rfl rfl (hD 38 rfl), 10, #[], ?_, (HW.out w).mono fun e w' ⟨h, k⟩ => ⟨_, h, rfl, k⟩⟩
      unfold execOp
      simp [go_sem]
    · refine stepG_val rfl fun a w hF hB hD => ⟨rg_free rfl _, ?_⟩
      have h100 : a.eval (.tmp 100) = .bool true := hD 38 rfl
      have h101 : a.eval (.tmp 101) = .bool true := hD 39 rfl
      unfold execOp
      simp only [h100, h101]
      simp [go_sem]
    · refine stepG_val rfl fun a w hF hB hD => ⟨rg_free rfl _, ?_⟩
      have h102 : a.eval (.tmp 102) = .bool true := hD 40 rfl
      unfold execOp
      simp only [h102]
      simp [go_sem]
  · rintro ⟨T, Df⟩ w7 hd _ _ hsp hb7
    obtain rfl : Df = [] := hd
    have h2 : T.getD 2 undef = .bool true := hsp 41 (by decide)
    clear hsp
    go_wp2
    go_ret
    exact ⟨by rw [h2], below_next B6 hb7⟩
theorem sforms_walk (n : Int) (w : World) :
    Calls Try.prog 3 #[.int .i64 n] w fun e w' => e = .returned (.bool true) ∧ Below w.heap.size w w' := by
  have h : ∃ k : Nat, k < 10 ∧ (bits BinOp.and IntKind.i64 n 255).tmod 10 = (k : Int) := by
    rw [i64_and255, Int.tmod_eq_emod_of_nonneg (by omega)]
    exact ⟨(n % 256 % 10).toNat, by omega, by omega⟩
  obtain ⟨k, hk, e⟩ := h
  have hlen : rows7.length = 10 := rfl
  have hm := List.all_eq_true.1 rows7_ok (rows7[k]'(by omega)) (List.getElem_mem _)
  have hx : rows7[k]? = some (rows7[k]'(by omega)) := List.getElem?_eq_getElem _
  generalize rows7[k]'(by omega) = r at *
  obtain ⟨s, m, a, l, c, f⟩ := r
  exact sforms_row n k s m a l c f w hk e hx hm
end Go.Proofs.Ytlhllhdjcbaipaa
