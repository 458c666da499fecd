/- What a text stands for: one byte put behind others, and the code's own textAt. -/
import Derived.Test.YtbbaeipobgomdaaTc
namespace Go.Proofs.Ytbbaeipobgomdaa
open Go.ChangeShapes Go.WideShapes Go.RowKit Go.Sort
theorem infoB8 : (Try.prog.info? 5).map (fun i => (i.zero, i.size, i.bytes)) = some (some (.int .u8 0), 1, 1) := by kernel_rfl
theorem infoK8 : (Try.prog.info? 33).map (fun i => (i.zero, i.size, i.bytes)) = some (some (.agg #[.int .i64 0, .string .empty, .int .i64 0]), 3, 32) := by kernel_rfl
theorem cellsB_len (l : Bs) : (cellsB l).length = l.length := by simp [cellsB]
theorem cellsB_snoc (l : Bs) (b : UInt8) : cellsB (l ++ [b]) = cellsB l ++ [.int .u8 (b.toNat : Int)] := by simp [cellsB]
/-- What an append leaves behind. -/
def AppB (w : World) (base : Nat) (l : Bs) (g cap : Nat) (w' : World) : Prop := w'.ownsRow base 5 1 (.slice (some ⟨g, 0, none⟩) l.length cap) l.length (cellsB l) ∧ ∀ B X, B ≤ base → Below B X w → Below B X w'
/-- One byte put behind others. -/
theorem app1 {ops : Array Oper} {rest : List Oper} {o : Oper} {a : Act} {Q : Exit → Act → World → Prop} (w : World) (hgd : o.guard = none) (s x : Operand)
    (ho : o.op = .call { callee := .builtin .append, args := #[s, x], argTypes := #[29, 29] }) (base : Nat) (p : Option Addr) (q : Nat) (acc : Bs) (hs : a.eval s = .slice p acc.length q) (hown : w.ownsRow base 5 1 (.slice p acc.length q) acc.length (cellsB acc))
    (g c : Nat) (u : Int) (b : UInt8) (hb : u = (b.toNat : Int)) (hx : a.eval x = .slice (some ⟨g, 0, none⟩) 1 c) (hnews : w.cell? ⟨g, 0, none⟩ = some (.int .u8 u)) (hlen : acc.length ≤ 1000000) (hbase : base ≤ w.heap.size)
    (h : ∀ g cap w', AppB w base (acc ++ [b]) g cap w' → wpList Try.prog ops Q rest (a.put o.dst (.slice (some ⟨g, 0, none⟩) (acc.length + 1) cap)) w') : wpList Try.prog ops Q (o :: rest) a w := by
  subst hb
  obtain ⟨i0, hi, hz0, hz1, hz2⟩ := info_parts infoB8
  refine wpList_append_lies w hgd s x 29 ho base 5 i0 (.int .u8 0) 1 1 Try.underlying29 hi hz0 hz1 hz2 rfl (by decide) _ _ _ hs hown ⟨g, 0, none⟩ 1 c [.int .u8 (b.toNat : Int)] hx rfl (fun j v hj => ?_) (fun v hv => by simp at hv; subst hv; rfl) (by decide) (by unfold maxLen; omega) (by omega) hbase w.heap.size rfl ?_
  · cases j with
    | zero => simp at hj; subst hj; simpa [Addr.add] using hnews
    | succ j => simp at hj
  · intro g' cap w' hown' hgrow hat hlt
    refine h g' cap w' ⟨?_, fun B X hB hX => hX.grown hgrow (by omega) (fun k hk => Nat.le_trans hB (hown.lt k hk).1)⟩
    rw [cellsB_snoc, List.length_append]
    exact hown'
theorem t_quote {l acc : Bs} {j : Nat} (h : l[j]? = some 34) : txtG acc (l.drop j) j = .inl (acc, j + 1) := by
  rw [drop_cons8 h, txt_quote]
theorem t_end (l acc : Bs) : txtG acc (l.drop l.length) l.length = .inr l.length := by rw [List.drop_length]; rfl
theorem t_esc_end {l acc : Bs} {j : Nat} (h : l[j]? = some 92) (hj : j + 1 = l.length) : txtG acc (l.drop j) j = .inr l.length := by
  rw [drop_cons8 h, hj, List.drop_length]; unfold txtG; rw [if_neg (by decide), if_pos rfl]; simp only [hj]
theorem t_esc {l acc : Bs} {j : Nat} {d : UInt8} (h : l[j]? = some 92) (hd : l[j + 1]? = some d) : txtG acc (l.drop j) j = if escB d then txtG (acc ++ [d]) (l.drop (j + 2)) (j + 2) else .inr (j + 1) := by
  rw [drop_cons8 h, drop_cons8 hd]; conv => lhs; unfold txtG
  rw [if_neg (by decide), if_pos rfl]
  by_cases he : d = 34 ∨ d = 92
  · rw [if_pos (show escB d = true by simp [escB, he])]; simp only [if_pos he]
  · rw [if_neg (show ¬ escB d = true by simp [escB]; simpa using he)]; simp only [if_neg he]
theorem t_go {l acc : Bs} {j : Nat} {b : UInt8} (h : l[j]? = some b) (h1 : b ≠ 34) (h2 : b ≠ 92) : txtG acc (l.drop j) j = if prtB b then txtG (acc ++ [b]) (l.drop (j + 1)) (j + 1) else .inr j := by
  rw [drop_cons8 h]; conv => lhs; unfold txtG
  rw [if_neg h1, if_neg h2]
  by_cases hp : prtB b = true
  · rw [if_pos hp, if_neg (prt_not hp)]
  · rw [if_neg hp, if_pos (Classical.not_not.1 fun e => hp (prt_of e))]
theorem esc_prt {d : UInt8} (h : escB d = true) : prtB d = true := by
  simp [escB] at h; rcases h with rfl | rfl <;> decide
/-- What textAt hands back. -/
def TextE (r : (Bs × Nat) ⊕ Nat) : Value :=
  match r with
  | .inl (s, k) => .tuple #[.string (baS s), .int .i64 (k : Int), .agg #[.int .i64 0, .int .i64 0]]
  | .inr x => .tuple #[.string (baS []), .int .i64 0, .agg #[.int .i64 1, .int .i64 (x : Int)]]
/-- An empty error lies in a block. -/
structure ErrAt (w : World) (B : Nat) : Prop where
  c0 : w.cell? ⟨B, 0, none⟩ = some (.int .i64 0)
  c1 : w.cell? ⟨B, 1, none⟩ = some (.int .i64 0)
  fz : ∀ o, w.frozen? ⟨B, o, none⟩ = false
  lt : B < w.heap.size
theorem ErrAt.next {w w' : World} {B : Nat} (h : ErrAt w B) (hb : Below w.heap.size w w') : ErrAt w' B := by
  obtain ⟨k, f, m⟩ := keepf hb B h.lt
  exact ⟨(k 0).trans h.c0, (k 1).trans h.c1, fun o => (f o).trans (h.fz o), m⟩
theorem errset {w : World} {B : Nat} {u v : Value} {x y : Int} (h0 : w.cell? ⟨B, 0, none⟩ = some u) (h1 : w.cell? ⟨B, 1, none⟩ = some v) :
    ((w.setCell ⟨B, 0, none⟩ (.int .i64 x)).setCell ⟨B, 1, none⟩ (.int .i64 y)).cell? ⟨B, 0, none⟩ = some (.int .i64 x) ∧ ((w.setCell ⟨B, 0, none⟩ (.int .i64 x)).setCell ⟨B, 1, none⟩ (.int .i64 y)).cell? ⟨B, 1, none⟩ = some (.int .i64 y) := set2 h0 h1
set_option maxHeartbeats 8000000 in
set_option maxRecDepth 100000 in
theorem textAt_x (l : Bs) (ad : Addr) (c i : Nat) (w : World) (h : BytesAt w (some ad) l) (hl : l.length ≤ 1000000) (hi : i < l.length) :
    Calls Try.prog 25 #[.slice (some ad) l.length c, .int .i64 (i : Int)] w fun e w' => e = .returned (TextE (txtG [] (l.drop (i + 1)) (i + 1))) ∧ Below w.heap.size w w' := by
  have HH := Lib.hid h
  clear h
  go_enter Try.func25, Try.ntmps25
  go_wp2_with fail
  generalize hw0 : w.alloc _ = w0
  have B0 : Below w.heap.size w w0 := hw0 ▸ ball (Below.refl _ _)
  have E0 : ErrAt w0 w.heap.size := by subst hw0; exact ⟨by simp [go_sem], by simp [go_sem], fun o => by simp [go_sem], by simp [go_sem]⟩
  clear hw0
  have H0 := Lib.hid (HH.out.below B0)
  clear HH
  go_loopw [7, 8] (fun sv iv wr => ∃ (acc : Bs) (j : Nat) (p : Option Addr) (q : Nat), sv = .slice p acc.length q ∧ iv = .int .i64 (j : Int) ∧ acc.length ≤ j ∧ j ≤ l.length ∧ Hid (txtG [] (l.drop (i + 1)) (i + 1) = txtG acc (l.drop j) j) ∧ wr.ownsRow w0.heap.size 5 1 (.slice p acc.length q) acc.length (cellsB acc) ∧ Below w0.heap.size w0 wr) (fun _ iv _ => l.length + 1 - intN iv)
  case atStart => exact ⟨[], i + 1, none, 0, rfl, rfl, Nat.zero_le _, hi, Lib.hid rfl, World.ownsRow_nil _ _ _ _, Below.refl _ _⟩
  case round =>
    obtain ⟨acc, j, p, q, rfl, rfl, haj, hjl, hp, hown, hb⟩ := hrel
    have hzs := hb.size
    have EW := E0.next hb
    have e0 := EW.c0
    have e1 := EW.c1
    have ef := EW.fz
    have hv := conv_bytes q (bytes_own hown)
    have BB : Below w.heap.size w wr := below_next B0 hb
    by_cases hlt : j < l.length
    · have hcell := bytesAt_cell (H0.out.below hb) j hlt
      have hget := Lib.hid (List.getElem?_eq_getElem hlt)
      generalize l[j]'hlt = b at *
      by_cases hq : b = 34
      · subst hq
        have HF := Lib.hid (hp.out.trans (t_quote hget.out))
        obtain ⟨s0, s1⟩ := errset (x := 0) (y := 0) e0 e1
        clear hget hp
        go_wp2_with fail
        exact bodyPost_ret (v := .tuple #[.string (baS acc), .int .i64 ((j : Int) + 1), .agg #[.int .i64 0, .int .i64 0]]) (by simp [results, Try.results25, go_sem, s0, s1]) rfl ⟨by rw [HF.out]; rfl, (BB.setCell (Nat.le_refl _) _).setCell (Nat.le_refl _) _⟩
      · have hq34 : ¬ ((b.toNat : Int) = 34) := fun e => hq ((byte_is (c := b) (k := 34) (by decide)).1 e)
        by_cases h92 : b = 92
        · subst h92
          by_cases hend : j + 1 = l.length
          · have HF := Lib.hid (hp.out.trans (t_esc_end hget.out hend))
            obtain ⟨s0, s1⟩ := errset (x := 1) (y := (l.length : Int)) e0 e1
            clear hget hp
            go_wp2_with fail
            exact bodyPost_ret (v := .tuple #[.string (baS []), .int .i64 0, .agg #[.int .i64 1, .int .i64 (l.length : Int)]]) (by simp [results, Try.results25, go_sem, s0, s1, baS]) rfl ⟨by rw [HF.out]; rfl, (BB.setCell (Nat.le_refl _) _).setCell (Nat.le_refl _) _⟩
          · have hlt1 : j + 1 < l.length := by omega
            have hcell1 := bytesAt_cell (H0.out.below hb) (j + 1) hlt1
            have HT := Lib.hid (t_esc (acc := acc) hget.out (List.getElem?_eq_getElem hlt1))
            have HX := Lib.hid (inText_x (l[j + 1]'hlt1))
            have HN := Lib.hid (needsEscape_x (l[j + 1]'hlt1))
            have hpre : IntKind.i64.wrap ((j : Int) + 1) = ((j + 1 : Nat) : Int) := by rw [IntKind.wrap_i64]; omega
            generalize l[j + 1]'hlt1 = d at *
            by_cases he : escB d = true
            · rw [he] at HN
              rw [esc_prt he] at HX
              have HF : Hid (txtG [] (l.drop (i + 1)) (i + 1) = txtG (acc ++ [d]) (l.drop (j + 1 + 1)) (j + 1 + 1)) := Lib.hid (by rw [hp.out, HT.out, if_pos he])
              have hacc2 : acc.length ≤ j + 1 := by omega
              have hjj : j < j + 1 := Nat.lt_succ_self _
              clear hget hp HT he e0 e1 ef hend
              generalize j + 1 = j1 at *
              go_wp2_with fail
              refine (HX.out _).mono ?_
              rintro e w' ⟨rfl, rfl⟩
              go_wp2_with fail
              refine (HN.out _).mono ?_
              rintro e w' ⟨rfl, rfl⟩
              clear HX HN
              go_wp2_with (at_builtin; refine app1 _ (by rfl) _ _ (by rfl) w0.heap.size p q acc (by rfl) (hown.alloc _) w'.heap.size 1 _ d rfl (by rfl) (by simp [go_sem]) (by omega) (by simp; omega) ?_)
              intro g3 cap w4 hA
              obtain ⟨hown4, hbel⟩ := hA
              have B4 := hbel _ _ (Nat.le_refl _) (ball hb)
              clear hbel hown hb BB
              go_wp2
              refine ⟨⟨acc ++ [d], j1 + 1, some ⟨g3, 0, none⟩, cap, by simp, by simp, by simp; omega, by omega, HF, by simpa using hown4, B4⟩, by simp [intN]; omega⟩
            · rw [show escB d = false by simpa using he] at HN
              have HF : Hid (txtG [] (l.drop (i + 1)) (i + 1) = .inr (j + 1)) := Lib.hid (by rw [hp.out, HT.out, if_neg he])
              obtain ⟨s0, s1⟩ := errset (x := 1) (y := ((j + 1 : Nat) : Int)) e0 e1
              clear hget hp HT he hend
              generalize j + 1 = j1 at *
              by_cases hd : prtB d = true
              · rw [hd] at HX
                clear hd
                go_wp2_with fail
                refine (HX.out _).mono ?_
                rintro e w' ⟨rfl, rfl⟩
                go_wp2_with fail
                refine (HN.out _).mono ?_
                rintro e w' ⟨rfl, rfl⟩
                clear HX HN
                go_wp2_with fail
                exact bodyPost_ret (v := .tuple #[.string (baS []), .int .i64 0, .agg #[.int .i64 1, .int .i64 (j1 : Int)]]) (by simp [results, Try.results25, go_sem, s0, s1, baS]) rfl ⟨by rw [HF.out]; rfl, (BB.setCell (Nat.le_refl _) _).setCell (Nat.le_refl _) _⟩
              · rw [show prtB d = false by simpa using hd] at HX
                clear hd
                go_wp2_with fail
                refine (HX.out _).mono ?_
                rintro e w' ⟨rfl, rfl⟩
                clear HX HN
                go_wp2_with fail
                exact bodyPost_ret (v := .tuple #[.string (baS []), .int .i64 0, .agg #[.int .i64 1, .int .i64 (j1 : Int)]]) (by simp [results, Try.results25, go_sem, s0, s1, baS]) rfl ⟨by rw [HF.out]; rfl, (BB.setCell (Nat.le_refl _) _).setCell (Nat.le_refl _) _⟩
        · have hq92 : ¬ ((b.toNat : Int) = 92) := fun e => h92 ((byte_is (c := b) (k := 92) (by decide)).1 e)
          have HT := Lib.hid (t_go (acc := acc) hget.out hq h92)
          have HX := Lib.hid (inText_x b)
          clear hget hq h92
          have hnat : (b.toNat : Int) = (b.toNat : Int) := rfl
          by_cases hd : prtB b = true
          · have HF : Hid (txtG [] (l.drop (i + 1)) (i + 1) = txtG (acc ++ [b]) (l.drop (j + 1)) (j + 1)) := Lib.hid (by rw [hp.out, HT.out, if_pos hd])
            have HU := Lib.hid hnat
            rw [hd] at HX
            clear hp HT hd e0 e1 ef hnat
            generalize hu : b.toNat = u at HX hcell hq34 hq92
            have HU2 := Lib.hid hu
            clear hu
            go_wp2_with fail
            refine (HX.out _).mono ?_
            rintro e w' ⟨rfl, rfl⟩
            clear HX
            go_wp2_with (at_builtin; refine app1 _ (by rfl) _ _ (by rfl) w0.heap.size p q acc (by rfl) (hown.alloc _) w'.heap.size 1 _ b (by rw [HU2.out]) (by rfl) (by simp [go_sem]) (by omega) (by simp; omega) ?_)
            intro g3 cap w4 hA
            obtain ⟨hown4, hbel⟩ := hA
            have B4 := hbel _ _ (Nat.le_refl _) (ball hb)
            clear hbel hown hb BB
            go_wp2
            refine ⟨⟨acc ++ [b], j + 1, some ⟨g3, 0, none⟩, cap, by simp, by simp, by simp; omega, by omega, HF, by simpa using hown4, B4⟩, by simp [intN]; omega⟩
          · have HF : Hid (txtG [] (l.drop (i + 1)) (i + 1) = .inr j) := Lib.hid (by rw [hp.out, HT.out, if_neg hd])
            obtain ⟨s0, s1⟩ := errset (x := 1) (y := (j : Int)) e0 e1
            rw [show prtB b = false by simpa using hd] at HX
            clear hp HT hd hnat
            generalize b.toNat = u at *
            go_wp2_with fail
            refine (HX.out _).mono ?_
            rintro e w' ⟨rfl, rfl⟩
            clear HX
            go_wp2_with fail
            exact bodyPost_ret (v := .tuple #[.string (baS []), .int .i64 0, .agg #[.int .i64 1, .int .i64 (j : Int)]]) (by simp [results, Try.results25, go_sem, s0, s1, baS]) rfl ⟨by rw [HF.out]; rfl, (BB.setCell (Nat.le_refl _) _).setCell (Nat.le_refl _) _⟩
    · have HF : Hid (txtG [] (l.drop (i + 1)) (i + 1) = .inr l.length) := Lib.hid (by rw [hp.out, show j = l.length by omega, t_end])
      obtain rfl : j = l.length := by omega
      obtain ⟨s0, s1⟩ := errset (x := 1) (y := (l.length : Int)) e0 e1
      clear hp
      go_wp2_with fail
      exact bodyPost_ret (v := .tuple #[.string (baS []), .int .i64 0, .agg #[.int .i64 1, .int .i64 (l.length : Int)]]) (by simp [results, Try.results25, go_sem, s0, s1, baS]) rfl ⟨by rw [HF.out]; rfl, (BB.setCell (Nat.le_refl _) _).setCell (Nat.le_refl _) _⟩
end Go.Proofs.Ytbbaeipobgomdaa
