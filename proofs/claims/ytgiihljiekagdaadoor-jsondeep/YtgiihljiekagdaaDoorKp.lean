/- Package json: text. -/
import Derived.Test.YtgiihljiekagdaaDoorKo
namespace Go.Proofs.YtgiihljiekagdaaDoor
open Go.ChangeShapes Go.WideShapes Go.RowKit Go.Sort
def cellsB (l : Bs) : List Value := l.map fun b => .int .u8 (b.toNat : Int)
theorem own_but {w w' : World} {R base e size n : Nat} {v : Value} {xs : List Value} (h : w.ownsRow base e size v n xs) (hb : But R w w') (hR : R < base) : w'.ownsRow base e size v n xs := by
  obtain ⟨h1, h2⟩ := h
  refine ⟨h1, ?_⟩
  rcases h2 with h | ⟨g, cap, cur, a, b, c, d⟩
  · exact Or.inl h
  · exact Or.inr ⟨g, cap, cur, a, b, (hb.block g (Array.getElem?_eq_some_iff.1 c).1 (by omega)).trans c, d⟩
theorem own_slice {w : World} {base e size n : Nat} {v : Value} {xs : List Value} (h : w.ownsRow base e size v n xs) : ∃ (p : Option Addr) (q : Nat), v = .slice p n q ∧ n ≤ q := by
  rcases h.2 with ⟨rfl, rfl⟩ | ⟨g, cap, cur, rfl, _, _, hc, _⟩
  · exact ⟨none, 0, rfl, Nat.le_refl _⟩
  · exact ⟨_, cap, rfl, hc⟩
theorem bytes_own {w : World} {base c : Nat} {p : Option Addr} {l : Bs} (h : w.ownsRow base 5 1 (.slice p l.length c) l.length (cellsB l)) : BytesAt w p l := fun j b hj => by
  have hlt : j < l.length := (List.getElem?_eq_some_iff.1 hj).1
  have h' := h
  rcases h.2 with ⟨_, h0⟩ | ⟨g, cap, cur, hv, _, hg2, hcap, _⟩
  · omega
  · obtain ⟨rfl, rfl⟩ : p = some ⟨g, 0, none⟩ ∧ c = cap := by injection hv with a _ b; exact ⟨a, b⟩
    refine ⟨⟨g, 0, none⟩, rfl, (Array.getElem?_eq_some_iff.1 hg2).1, ?_⟩
    have e : ((⟨g, 0, none⟩ : Addr).add j) = ⟨g, j, none⟩ := by unfold Addr.add; split <;> simp_all
    rw [e]
    have := h'.cellAt j (by omega)
    rw [this]
    simp [cellsB, hj]
theorem Rd.low {n b o c R B : Nat} {w w' : World} {i : Nat} {k a : Int} (h : Rd n b o c R w i k a) (hb : Below B w w') (hR : R < B) : Rd n b o c R w' i k a :=
  ⟨(hb.cell (p := ⟨R, 0, none⟩) hR).trans h.c0, (hb.cell (p := ⟨R, 1, none⟩) hR).trans h.c1, (hb.cell (p := ⟨R, 2, none⟩) hR).trans h.c2, (hb.cell (p := ⟨R, 3, none⟩) hR).trans h.c3,
    fun o => (hb.frozen (p := ⟨R, o, none⟩) hR).trans (h.fz o), Nat.lt_of_lt_of_le h.lt hb.size⟩
theorem ball' {B : Nat} {w : World} (h : B ≤ w.heap.size) (o : Obj) : Below B w (w.alloc o) := (Below.refl _ _).alloc h o
theorem esc_fwd {i j : Nat} {s x t : Bs} (h : escJ i s = .ok x j t) : i < j := by
  unfold escJ at h
  repeat' split at h
  all_goals first
    | (simp only [PJ.ok.injEq] at h; obtain ⟨_, rfl, _⟩ := h; exact Nat.lt_add_of_pos_right (by decide))
    | cases h
theorem rune_pos {c : UInt8} {r : Bs} (h : ¬ runeJ (c :: r) = 0) : 0 < runeJ (c :: r) := by omega
theorem char_fwd {l : Bs} {i j : Nat} {x t : Bs} (h : charJ l i = .ok x j t) : i < j := by
  unfold charJ at h
  split at h
  · exact esc_fwd h
  · split at h
    · cases h
    · split at h
      · cases h
      · rename_i h2
        have := rune_pos (fun e => h2 (.inr e))
        cases h; omega
theorem enc_len (n : Nat) : (encJ n).length ≤ 4 := by
  unfold encJ; split
  · simp
  · split
    · simp
    · split <;> simp
theorem inside_end {l : Bs} {i : Nat} (h : l[i]? = some 34) (k : Nat) (acc : Bs) : insideJ (k + 1) acc i (l.drop i) = .ok acc (i + 1) (l.drop (i + 1)) := by
  rw [drop_at h, insideJ, if_pos rfl]
theorem inside_char {l : Bs} {i : Nat} (h : l[i]? ≠ some 34) (k : Nat) (acc : Bs) : insideJ (k + 1) acc i (l.drop i) = match charJ l i with | .bad q a => .bad q a | .ok x j t => insideJ k (acc ++ x) j t := by
  unfold charJ
  cases hg : l[i]? with
  | none =>
    have hd : l.drop i = [] := List.drop_eq_nil_of_le (List.getElem?_eq_none_iff.1 hg)
    rw [if_neg (by simp), hd, insideJ]
  | some y =>
    rw [hg] at h
    have h34 : y ≠ 34 := fun e => h (by rw [e])
    rw [drop_at hg, insideJ, if_neg h34]
    by_cases h92 : y = 92
    · subst h92
      rw [if_pos rfl, if_pos rfl]
      cases escJ i (l.drop (i + 1)) <;> rfl
    · have hs : ¬ (some y = some 92) := by simp [h92]
      rw [if_neg h92, if_neg hs]
      simp only
      by_cases hc : y < 32 ∨ runeJ (y :: l.drop (i + 1)) = 0
      · rw [if_pos hc, if_pos hc]
      · rw [if_neg hc, if_neg hc]
/-- A text that is too long is none. -/
def capJ (i : Nat) : PJ Bs → PJ Bs
  | .bad q a => .bad q a
  | .ok x j t => if 255 < x.length then .bad 2 i else .ok x j t
/-- What a text that is read is, or what is wrong. -/
def TextP (l : Bs) (b o c R : Nat) (w : World) (i : Nat) (e : Ending) (w' : World) : Prop :=
  But R w w' ∧ ((∃ (x : Bs) (j : Nat), textJ i (l.drop i) = .ok x j (l.drop j) ∧ i < j ∧ j ≤ l.length ∧ x.length ≤ 255 ∧ e = .returned (.tuple #[.string (baS x), .bool true]) ∧ Rd l.length b o c R w' j 0 0) ∨
    ∃ (k a j : Nat), textJ i (l.drop i) = .bad k a ∧ e = .returned (.tuple #[.string ⟨#[]⟩, .bool false]) ∧ Rd l.length b o c R w' j (k : Int) (a : Int))
set_option maxHeartbeats 8000000 in
set_option maxRecDepth 100000 in
theorem text_f {l : Bs} {b o c R : Nat} {w : World} {i : Nat} (hs : Src l b o c R w) (h : Rd l.length b o c R w i 0 0) (h34 : l[i]? = some 34) :
    Calls Tryd.prog 36 #[.pointer (some ⟨R, 0, none⟩)] w fun e w' => TextP l b o c R w i e w' := by
  have hi := (List.getElem?_eq_some_iff.1 h34).1
  have HS := Lib.hid hs
  have HR := Lib.hid h
  have hsm := hs.small
  have hRw := h.lt
  have hw : IntKind.i64.wrap ((i : Int) + 1) = ((i + 1 : Nat) : Int) := by rw [IntKind.wrap_i64]; omega
  have HT : Hid (textJ i (l.drop i) = capJ i (insideJ (l.length - i + 1) [] (i + 1) (l.drop (i + 1)))) := Lib.hid (by
    rw [drop_at h34]
    unfold textJ
    rw [List.tail_cons]
    have : (34 :: l.drop (i + 1)).length = l.length - i := by simp; omega
    rw [this]
    cases insideJ (l.length - i + 1) [] (i + 1) (l.drop (i + 1)) <;> rfl)
  obtain ⟨c0, c1, c2, c3, fz, lt⟩ := h
  have hi1 : Hid (i + 1 ≤ l.length ∧ i < i + 1) := ⟨hi, by omega⟩
  clear hs h34
  generalize i + 1 = i1 at *
  go_enter Tryd.func36, Tryd.ntmps36
  go_wp2_with fail
  have B1 : But R w (w.setCell ⟨R, 1, none⟩ (.int .i64 (i1 : Int))) := (But.refl _ _).set _ _
  have H1 := Lib.hid (HR.out.at_ i1)
  have O1 : (w.setCell ⟨R, 1, none⟩ (.int .i64 (i1 : Int))).ownsRow w.heap.size 5 1 (.slice none 0 0) 0 (cellsB []) := World.ownsRow_nil _ _ _ _
  generalize w.setCell ⟨R, 1, none⟩ (.int .i64 (i1 : Int)) = w0 at *
  clear c0 c1 c2 c3 fz lt
  go_loopw [5, 6, 7] (fun sv _ _ wr => ∃ (acc : Bs) (j k : Nat), But R w wr ∧ Rd l.length b o c R wr j 0 0 ∧ i < j ∧ j ≤ l.length ∧ Hid (l.length - j < k) ∧ Hid (acc.length ≤ 4 * j) ∧ wr.ownsRow w.heap.size 5 1 sv acc.length (cellsB acc) ∧ Hid (textJ i (l.drop i) = capJ i (insideJ k acc j (l.drop j)))) (fun _ _ _ wr => l.length + 2 - (intCell wr ⟨R, 1, none⟩).toNat)
  case atStart => exact ⟨[], i1, l.length - i + 1, B1, H1.out, hi1.out.2, hi1.out.1, Lib.hid (by have := hi1.out; omega), Lib.hid (by simp), O1, HT⟩
  case round =>
    obtain ⟨acc, j, k, hb, hr, hij, hj, hk, ha, ho, hp⟩ := hrel
    have HRj := Lib.hid hr
    have hm0 := Lib.hid hr.ic
    have HSj := Lib.hid (HS.out.but hb)
    have HX := Lib.hid (sees_x HSj.out hr 34)
    obtain ⟨k1, rfl⟩ : ∃ k1, k = k1 + 1 := ⟨k - 1, by have := hk.out; omega⟩
    clear hr
    by_cases h34 : l[j]? = some 34
    · have hlt := (List.getElem?_eq_some_iff.1 h34).1
      have hdd : decide (l[j]? = some 34) = true := by simp [h34]
      rw [hdd] at HX
      have HP : Hid (textJ i (l.drop i) = if 255 < acc.length then .bad 2 i else .ok acc (j + 1) (l.drop (j + 1))) := Lib.hid (by rw [hp.out, inside_end h34]; rfl)
      have hw2 : IntKind.i64.wrap ((j : Int) + 1) = ((j + 1 : Nat) : Int) := by rw [IntKind.wrap_i64]; omega
      have hj1 : Hid (j + 1 ≤ l.length ∧ i < j + 1) := ⟨hlt, by omega⟩
      obtain ⟨p, q, rfl, hq⟩ := own_slice ho
      have HO := Lib.hid ho
      clear hdd h34 hp ho hk ha hm0
      generalize j + 1 = j1 at *
      go_wp2_with fail
      refine HX.out.mono ?_
      rintro e w1 ⟨rfl, B2⟩
      clear HX
      have H2 := Lib.hid (HRj.out.below B2)
      obtain ⟨c0, c1, c2, c3, fz, lt⟩ := HRj.out.below B2
      have H3 := Lib.hid (H2.out.at_ j1)
      have B3 : But R w (w1.setCell ⟨R, 1, none⟩ (.int .i64 (j1 : Int))) := (hb.trans (.of R B2)).set _ _
      have HB := Lib.hid (bytes_own (own_but HO.out ((But.of R B2).set 1 (.int .i64 (j1 : Int))) hRw))
      by_cases h255 : 255 < acc.length
      · rw [if_pos h255] at HP
        have g1 : (255 : Int) < (acc.length : Int) := by omega
        clear h255
        go_wp2_with fail
        refine (fail_x H3.out 2 (i : Int)).mono ?_
        rintro e w5 ⟨rfl, q1, q2⟩
        go_wp2_with fail
        go_ret2
        exact ⟨B3.trans q2, .inr ⟨2, i, j1, HP.out, rfl, q1⟩⟩
      · rw [if_neg h255] at HP
        have g1 : ¬ ((255 : Int) < (acc.length : Int)) := by omega
        have hcv := conv_bytes q HB.out
        have HL := Lib.hid h255
        clear h255
        go_wp2_with fail
        go_ret2
        exact ⟨B3, .inl ⟨acc, j1, HP.out, hj1.out.2, hj1.out.1, by have := HL.out; omega, rfl, H3.out⟩⟩
    · have hdd : decide (l[j]? = some 34) = false := by simp [h34]
      rw [hdd] at HX
      have HP : Hid (textJ i (l.drop i) = capJ i (match charJ l j with | .bad q a => .bad q a | .ok x j2 t => insideJ k1 (acc ++ x) j2 t)) := Lib.hid (by rw [hp.out, inside_char h34])
      clear hdd h34 hp
      go_wp2_with fail
      refine HX.out.mono ?_
      rintro e w1 ⟨rfl, B2⟩
      clear HX
      have HC := Lib.hid (char_x (HSj.out.below B2) (HRj.out.below B2) hj)
      have O2 := own_but ho (But.of R B2) hRw
      have B3 := hb.trans (.of R B2)
      clear ho
      go_wp2_with fail
      refine HC.out.mono ?_
      rintro e w2 ⟨B4, hx⟩
      clear HC
      have O3 := Lib.hid (own_but O2 B4 hRw)
      have B5 := B3.trans B4
      clear O2
      rcases hx with ⟨n, j2, h1, h2, h3, h4, rfl, h5⟩ | ⟨v, a, j2, h1, rfl, h5⟩
      · have hf := char_fwd h1
        have HP2 : Hid (textJ i (l.drop i) = capJ i (insideJ k1 (acc ++ encJ n) j2 (l.drop j2))) := Lib.hid (by rw [HP.out, h1])
        have HN : Hid (n < 0x110000 ∧ (n < 0xd800 ∨ 0xe000 ≤ n)) := ⟨h3, h4⟩
        have H5 := Lib.hid h5
        have HF := Lib.hid hf
        clear h1 h3 h4 h5 HP hf
        go_wp2_with fail
        have HA := Tryd.utf8_AppendRune_plain w.heap.size u5 acc.length (cellsB acc) (n : Int) (by omega) (by have := HN.out.1; omega) w2 O3.out (by have := ha.out; omega) B5.size
        refine HA.mono ?_
        rintro e w3 ⟨v3, rfl, o3, ob, hgr⟩
        have HV3 := Lib.hid o3
        have B6 : But R w w3 := (B5.alloc ob).grown hgr (fun g hg => (O3.out.lt g hg).1)
        have BL : Below w.heap.size w2 w3 := (ball' B5.size ob).grown hgr (by simp; exact Nat.le_succ_of_le B5.size) (fun g hg => (O3.out.lt g hg).1)
        have H6 := Lib.hid (H5.out.low BL hRw)
        clear HA o3 hgr O3
        go_wp2_with fail
        have hlen : (cellsB acc ++ Lib.runeCells (n : Int)) = cellsB (acc ++ encJ n) := by rw [cells_enc HN.out.1 HN.out.2]; simp [cellsB]
        have hl2 : acc.length + (Lib.runeCells (n : Int)).length = (acc ++ encJ n).length := by rw [cells_enc HN.out.1 HN.out.2]; simp
        have ho3 := HV3.out
        rw [hlen, hl2] at ho3
        refine ⟨⟨acc ++ encJ n, j2, k1, B6, H6.out, by have := HF.out; omega, h2, Lib.hid (by have := HF.out; have := hk.out; omega), Lib.hid (by have := ha.out; have := HF.out; have := enc_len n; simp; omega), ho3, HP2⟩, ?_⟩
        rw [hm0.out, H6.out.ic]
        have := HF.out
        omega
      · have HP2 : Hid (textJ i (l.drop i) = .bad 1 a) := Lib.hid (by rw [HP.out, h1]; rfl)
        clear h1 HP
        go_wp2_with fail
        go_ret2
        exact ⟨B5, .inr ⟨1, a, j2, HP2.out, rfl, h5⟩⟩
end Go.Proofs.YtgiihljiekagdaaDoor
