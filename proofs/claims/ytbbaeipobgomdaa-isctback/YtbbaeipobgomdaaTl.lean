/- Numbers in memory, bytes and texts put behind others, and the law's own text of numbers. -/
import Derived.Test.YtbbaeipobgomdaaTd
import Derived.Laws.OwnMore
import Derived.Lib.AppendStr
import Derived.Deep.DeepCutAuto
namespace Go.Proofs.Ytbbaeipobgomdaa
open Go.ChangeShapes Go.WideShapes Go.RowKit Go.Sort
/-- A row of numbers lies in memory. -/
def IntsAt (w : World) (p : Option Addr) (l : List Int) : Prop := ∀ (j : Nat) (z : Int), l[j]? = some z → ∃ ad, p = some ad ∧ ad.block < w.heap.size ∧ w.cell? (ad.add j) = some (.int .i64 z)
theorem IntsAt.below {w w' : World} {p : Option Addr} {l : List Int} (h : IntsAt w p l) (hb : Below w.heap.size w w') : IntsAt w' p l := fun j b hj => by
  obtain ⟨ad, e, hl, hc⟩ := h j b hj
  exact ⟨ad, e, Nat.lt_of_lt_of_le hl hb.size, (hb.cell (p := ad.add j) (by rw [add_block]; exact hl)).trans hc⟩
theorem intsAt_cell {w : World} {ad : Addr} {l : List Int} (h : IntsAt w (some ad) l) (j : Nat) (hj : j < l.length) : w.cell? (ad.add j) = some (.int .i64 (l[j]'hj)) := by
  obtain ⟨ad', e, _, hc⟩ := h j _ (List.getElem?_eq_getElem hj)
  cases e; exact hc
theorem strCells_is (t : Bs) : Lib.strCells (baS t) = cellsB t := rfl
/-- What such an append leaves behind. -/
def AppT (w : World) (base : Nat) (l : Bs) (p : Option Addr) (q : Nat) (w' : World) : Prop := w'.ownsRow base 5 1 (.slice p l.length q) l.length (cellsB l) ∧ ∀ B X, B ≤ base → Below B X w → Below B X w'
/-- A text put behind bytes. -/
theorem appS {ops : Array Oper} {rest : List Oper} {o : Oper} {a : Act} {Q : Exit → Act → World → Prop} (w : World) (hgd : o.guard = none) (s x : Operand)
    (ho : o.op = .call { callee := .builtin .append, args := #[s, x], argTypes := #[29, 9] }) (base : Nat) (p : Option Addr) (q : Nat) (acc t : Bs) (hs : a.eval s = .slice p acc.length q) (hown : w.ownsRow base 5 1 (.slice p acc.length q) acc.length (cellsB acc))
    (hx : a.eval x = .string (baS t)) (hlen : acc.length ≤ 1000000) (hlt : t.length ≤ 1000000) (hbase : base ≤ w.heap.size)
    (h : ∀ p' q' w', AppT w base (acc ++ t) p' q' w' → wpList Try.prog ops Q rest (a.put o.dst (.slice p' (acc.length + t.length) q')) w') : wpList Try.prog ops Q (o :: rest) a w := by
  obtain ⟨i0, hi, hz0, hz1, hz2⟩ := info_parts infoB8
  have hsz := baS_size t
  refine Lib.wpList_append_own_string w hgd s x 29 9 ho base 5 i0 Try.underlying29 Try.underlying9 hi hz0 hz1 hz2 _ _ _ hs hown (baS t) hx (by unfold maxLen; omega) (by omega) hbase ?_
  intro v' w' hown' hgrow _
  rw [hsz, strCells_is] at hown'
  obtain ⟨p', q', rfl⟩ : ∃ p' q', v' = .slice p' (acc.length + t.length) q' := by
    rcases hown'.2 with ⟨h1, h2⟩ | ⟨g, cap, cur, h1, _⟩
    · exact ⟨none, 0, by rw [h1, h2]⟩
    · exact ⟨some ⟨g, 0, none⟩, cap, h1⟩
  refine h p' q' w' ⟨?_, fun B X hB hX => hX.grown hgrow (by omega) (fun k hk => Nat.le_trans hB (hown.lt k hk).1)⟩
  rw [List.length_append, show cellsB (acc ++ t) = cellsB acc ++ cellsB t by simp [cellsB]]
  exact hown'
theorem ownsRow_le8 {w : World} {base base' size n : Nat} {e : TypeId} {v : Value} {xs : List Value} (h : w.ownsRow base e size v n xs) (hb : base' ≤ base) : w.ownsRow base' e size v n xs := by
  obtain ⟨h1, h2⟩ := h
  refine ⟨h1, ?_⟩
  rcases h2 with h | ⟨g, cap, cur, a, b, c⟩
  · exact Or.inl h
  · exact Or.inr ⟨g, cap, cur, a, Nat.le_trans hb b, c⟩
theorem str_at8 (l : Bs) (j : Nat) (hj : j < l.length) (w : World) : (Instr.index 9 (.string (baS l)) (.int .i64 (j : Int))).run Try.prog w = .ok (.int .u8 ((l[j]'hj).toNat : Int)) w := by
  rw [run_index_string w 9 (baS l) .i64 (j : Int) Try.underlying9, dif_pos ⟨by omega, by rw [baS_size]; omega⟩]
  rfl
/-- The pieces, by hand. -/
def pieces8 : List Bs := [[111, 112, 116, 105, 111, 110], [115, 117, 98, 110, 101, 116], [115, 117, 98, 110, 101, 116, 54], [110, 101, 116, 109, 97, 115, 107], [114, 97, 110, 103, 101], [114, 97, 110, 103, 101, 54], [104, 111, 115, 116], [104, 97, 114, 100, 119, 97, 114, 101], [101, 116, 104, 101, 114, 110, 101, 116], [102, 105, 120, 101, 100, 45, 97, 100, 100, 114, 101, 115, 115], [100, 101, 102, 97, 117, 108, 116, 45, 108, 101, 97, 115, 101, 45, 116, 105, 109, 101], [115, 104, 97, 114, 101, 100, 45, 110, 101, 116, 119, 111, 114, 107], [108, 101, 97, 115, 101], [101, 110, 100, 115], [110, 101, 118, 101, 114], [114, 111, 117, 116, 101, 114, 115], [100, 111, 109, 97, 105, 110, 45, 110, 97, 109, 101], [49, 48, 46, 48, 46, 48, 46, 48], [50, 53, 53, 46, 50, 53, 53, 46, 50, 53, 53, 46, 48], [49, 48, 46, 48, 46, 48, 46, 49], [49, 48, 46, 48, 46, 48, 46, 57], [50, 48, 48, 49, 58, 100, 98, 56, 58, 58, 47, 54, 52], [50, 48, 48, 49, 58, 100, 98, 56, 58, 58, 53], [48, 48, 58, 48, 48, 58, 48, 48, 58, 48, 48, 58, 48, 48, 58, 48, 49], [97], [95], [51, 54, 48, 48], [52], [50, 48, 50, 52, 47, 48, 50, 47, 50, 57], [50, 51, 58, 53, 57, 58, 53, 57], [34, 120, 32, 121, 34], [34, 97, 92, 34, 98, 34], [34], [123], [125], [59], [44], [35], [10], [61], [92], [195, 169]]
theorem pieces8_len : ∀ s ∈ pieces8, s.length ≤ 18 := by decide +kernel
theorem strs_new (V : World) (L : List Bs) (t : TypeId) (m : Nat × Nat) (k : Nat) (s : Bs) (hk : L[k]? = some s) : (V.alloc (.cells (L.map fun s => Value.string (baS s)).toArray t m)).cell? ⟨V.heap.size, k, none⟩ = some (.string (baS s)) := by
  rw [World.cell?_alloc_mark]
  simp [hk]
def seps8 : Bs := [32, 10, 9, 32]
theorem i64_and65535 (n : Int) : bits .and .i64 n 65535 = n % 65536 := by
  have h0 : (BitVec.ofInt 64 65535).toNat = 2 ^ 16 - 1 := by decide
  have h : (BitVec.ofInt 64 n &&& BitVec.ofInt 64 65535).toNat = (n % ((2 ^ 64 : Nat) : Int)).toNat % 2 ^ 16 := by
    rw [BitVec.toNat_and, BitVec.toNat_ofInt, h0, Nat.and_two_pow_sub_one_eq_mod]
  show IntKind.i64.wrap ((BitVec.ofInt 64 n &&& BitVec.ofInt 64 65535).toNat : Nat) = n % 65536
  rw [h, IntKind.wrap_i64]
  omega
theorem i64_and3 (n : Int) : bits .and .i64 n 3 = n % 4 := by
  have h0 : (BitVec.ofInt 64 3).toNat = 2 ^ 2 - 1 := by decide
  have h : (BitVec.ofInt 64 n &&& BitVec.ofInt 64 3).toNat = (n % ((2 ^ 64 : Nat) : Int)).toNat % 2 ^ 2 := by
    rw [BitVec.toNat_and, BitVec.toNat_ofInt, h0, Nat.and_two_pow_sub_one_eq_mod]
  show IntKind.i64.wrap ((BitVec.ofInt 64 n &&& BitVec.ofInt 64 3).toNat : Nat) = n % 4
  rw [h, IntKind.wrap_i64]
  omega
def kZ (z : Int) : Nat := (z % 65536 % 42).toNat
def sZ (z : Int) : Nat := (z / 65536 % 4).toNat
theorem kZ_is (z : Int) : (bits BinOp.and IntKind.i64 z 65535).tmod 42 = (kZ z : Int) ∧ kZ z < 42 := by
  rw [i64_and65535, Int.tmod_eq_emod_of_nonneg (by omega)]
  unfold kZ; omega
theorem sZ_is (z : Int) : bits BinOp.and IntKind.i64 (z / 65536) 3 = (sZ z : Int) ∧ sZ z < 4 := by
  rw [i64_and3]
  unfold sZ; omega
/-- What one number says. -/
def unitZ (z : Int) : Bs := pieces8.getD (kZ z) [] ++ [seps8.getD (sZ z) 0]
def textZ (zs : List Int) : Bs := (zs.take 60).flatMap unitZ
theorem textZ_snoc {zs : List Int} {j : Nat} {z : Int} (h : zs[j]? = some z) : (zs.take (j + 1)).flatMap unitZ = (zs.take j).flatMap unitZ ++ unitZ z := by
  rw [List.take_add_one, h, List.flatMap_append]; simp
/-- What Text hands back. -/
def TextZE (w : World) (l : Bs) (e : Ending) (w' : World) : Prop := Below w.heap.size w w' ∧ ∃ p q, e = .returned (.slice p l.length q) ∧ w'.ownsRow w.heap.size 5 1 (.slice p l.length q) l.length (cellsB l)
theorem own_cap {w : World} {base q : Nat} {p : Option Addr} {l : Bs} (h : w.ownsRow base 5 1 (.slice p l.length q) l.length (cellsB l)) : l.length ≤ q := by
  rcases h.2 with ⟨hv, h0⟩ | ⟨g, cap, cur, hv, _, hg, hcap, _⟩
  · omega
  · injection hv with _ _ e; subst e; omega
theorem unitZ_len (z : Int) : (unitZ z).length ≤ 19 ∧ (pieces8.getD (kZ z) []).length ≤ 18 := by
  have : (pieces8.getD (kZ z) []).length ≤ 18 := by
    rw [List.getD_eq_getElem?_getD]
    rcases Nat.lt_or_ge (kZ z) pieces8.length with h | h
    · rw [List.getElem?_eq_getElem h]; exact pieces8_len _ (List.getElem_mem h)
    · rw [List.getElem?_eq_none h]; simp
  unfold unitZ
  rw [List.length_append]
  exact ⟨by simp only [List.length_cons, List.length_nil]; omega, this⟩
theorem textZ_len (zs : List Int) : (textZ zs).length ≤ 1140 := by
  have : ∀ (q : List Int), (q.flatMap unitZ).length ≤ 19 * q.length := by
    intro q
    induction q with
    | nil => simp
    | cons a r ih => rw [List.flatMap_cons, List.length_append, List.length_cons]; have := (unitZ_len a).1; omega
  have h := this (zs.take 60)
  unfold textZ
  rw [List.length_take] at h
  omega
set_option maxHeartbeats 8000000 in
set_option maxRecDepth 100000 in
theorem textZ_some (zs : List Int) (ad : Addr) (c : Nat) (w : World) (h : IntsAt w (some ad) zs) (hz : ∀ z ∈ zs, (Lit.int .i64 z).wf = true) :
    Calls Try.prog 9 #[.slice (some ad) zs.length c] w fun e w' => TextZE w (textZ zs) e w' := by
  have HH := Lib.hid h
  clear h
  go_enter Try.func9, Try.ntmps9
  go_upto_region 3 with fail
  generalize hw0 : w.alloc _ = w0
  have B0 : Below w.heap.size w w0 := hw0 ▸ ball (Below.refl _ _)
  have HP : Hid (∀ V, Below w0.heap.size w0 V → ∀ (k : Nat), k < 42 → V.cell? ⟨w.heap.size, k, none⟩ = some (.string (baS (pieces8.getD k [])))) := by
    intro V hV k hk
    have hl : w.heap.size < w0.heap.size := by subst hw0; simp [go_sem]
    rw [olds hV _ _ hl]
    subst hw0
    have hk' : k < pieces8.length := hk
    rw [List.getD_eq_getElem?_getD, List.getElem?_eq_getElem hk']
    exact strs_new w pieces8 _ _ k _ (List.getElem?_eq_getElem hk')
  clear hw0
  have H0 := Lib.hid (HH.out.below B0)
  clear HH
  go_wp2_with fail
  go_loopw [4, 5] (fun sv iv wr => ∃ (acc : Bs) (j : Nat) (p : Option Addr) (q : Nat), sv = .slice p acc.length q ∧ iv = .int .i64 (j : Int) ∧ acc.length ≤ 19 * j ∧ j ≤ 60 ∧ j ≤ zs.length ∧ Hid (acc = (zs.take j).flatMap unitZ) ∧ wr.ownsRow w0.heap.size 5 1 (.slice p acc.length q) acc.length (cellsB acc) ∧ Below w0.heap.size w0 wr) (fun _ iv _ => zs.length + 1 - intN iv)
  case atStart => exact ⟨[], 0, none, 0, rfl, rfl, by simp, Nat.zero_le _, Nat.zero_le _, Lib.hid rfl, World.ownsRow_nil _ _ _ _, Below.refl _ _⟩
  case round =>
    obtain ⟨acc, j, p, q, rfl, rfl, haj, hj60, hjl, hacc, hown, hb⟩ := hrel
    have hzs := hb.size
    have hbs := B0.size
    by_cases hlt : j < zs.length
    · by_cases h60 : j < 60
      · have hcell := intsAt_cell (H0.out.below hb) j hlt
        have HZ := Lib.hid (fun V (hV : IntsAt V (some ad) zs) => intsAt_cell hV j hlt)
        have hzw := hz _ (List.getElem_mem hlt)
        have HS := Lib.hid (textZ_snoc (List.getElem?_eq_getElem hlt))
        generalize zs[j]'hlt = z at *
        obtain ⟨hk, hk2⟩ := kZ_is z
        obtain ⟨hm, hm2⟩ := sZ_is z
        have hx : ∀ V, (Instr.index 9 (.string ⟨#[32, 10, 9, 32]⟩) (.int .i64 (sZ z : Int))).run Try.prog V = .ok (.int .u8 (((seps8.getD (sZ z) 0).toNat : Nat) : Int)) V := fun V => by
          have := str_at8 seps8 (sZ z) hm2 V
          rw [List.getD_eq_getElem?_getD, List.getElem?_eq_getElem (show sZ z < seps8.length from hm2)]
          exact this
        have hpc := HP.out wr hb (kZ z) hk2
        have hul := (unitZ_len z).2
        have HF : Hid (acc ++ pieces8.getD (kZ z) [] ++ [seps8.getD (sZ z) 0] = (zs.take (j + 1)).flatMap unitZ) := Lib.hid (by rw [HS.out, hacc.out]; unfold unitZ; rw [List.append_assoc])
        clear HS hacc
        generalize pieces8.getD (kZ z) [] = s at *
        generalize hu : seps8.getD (sZ z) 0 = u at *
        clear hu
        generalize sZ z = m at *
        generalize kZ z = k at *
        have HU := Lib.hid (rfl : (u.toNat : Int) = (u.toNat : Int))
        go_wp2_with (at_builtin; refine appS _ (by rfl) _ _ (by rfl) w0.heap.size p q acc s (by rfl) hown (by rfl) (by omega) (by omega) (by omega) ?_)
        intro p' q' w4 hA
        obtain ⟨hown4, hbel⟩ := hA
        have B4 := hbel _ _ (Nat.le_refl _) hb
        have hcell4 := HZ.out w4 (H0.out.below B4)
        have HL : Hid (List.length (acc ++ s) = acc.length + s.length) := Lib.hid (by simp)
        have hzs4 := B4.size
        have HO4 := Lib.hid hown4
        clear hcell hpc hk hbel hown hb HZ hown4
        go_wp2_with (at_builtin; refine app1 _ (by rfl) _ _ (by rfl) w0.heap.size p' q' (acc ++ s) (by rw [HL.out]; rfl) (HO4.out.alloc _) w4.heap.size 1 _ u rfl (by rfl) (by simp [go_sem]) (by rw [HL.out]; omega) (by simp; omega) ?_)
        intro g5 cap5 w5 hA
        obtain ⟨hown5, hbel⟩ := hA
        have B5 := hbel _ _ (Nat.le_refl _) (ball B4)
        clear hbel HO4 B4 hcell4
        go_wp2
        exact ⟨⟨acc ++ s ++ [u], j + 1, some ⟨g5, 0, none⟩, cap5, by simp; omega, by simp, by simp; omega, by omega, by omega, HF, by simpa [Nat.add_assoc] using hown5, B5⟩, by simp [intN]; omega⟩
      · have HF : Hid (acc = textZ zs) := Lib.hid (by rw [hacc.out, show j = 60 by omega]; rfl)
        have h60' : ¬ ((j : Int) < 60) := by omega
        clear hacc HP
        go_wp2_with fail
        go_ret
        rw [← HF.out]
        exact ⟨below_next B0 hb, p, q, rfl, ownsRow_le8 hown hbs⟩
    · have HF : Hid (acc = textZ zs) := Lib.hid (by rw [hacc.out]; unfold textZ; rw [List.take_of_length_le (by omega), List.take_of_length_le (by omega)])
      obtain rfl : j = zs.length := by omega
      clear hacc HP
      go_wp2_with fail
      go_ret
      rw [← HF.out]
      exact ⟨below_next B0 hb, p, q, rfl, ownsRow_le8 hown hbs⟩
set_option maxRecDepth 100000 in
set_option maxHeartbeats 4000000 in
theorem textZ_none (c : Nat) (w : World) :
    Calls Try.prog 9 #[.slice none 0 c] w fun e w' => TextZE w [] e w' := by
  go_enter Try.func9, Try.ntmps9
  go_upto_region 3 with fail
  generalize hw0 : w.alloc _ = w0
  have B0 : Below w.heap.size w w0 := hw0 ▸ ball (Below.refl _ _)
  clear hw0
  go_wp2_with fail
  go_loopw [4, 5] (fun sv iv wr => sv = .slice none 0 0 ∧ iv = .int .i64 0 ∧ wr = w0) (fun _ _ _ => 0)
  case atStart => exact ⟨rfl, rfl, rfl⟩
  case round =>
    obtain ⟨rfl, rfl, rfl⟩ := hrel
    go_wp2_with fail
    go_ret
    exact ⟨B0, none, 0, rfl, World.ownsRow_nil _ _ _ _⟩
theorem textZ_x (zs : List Int) (a : Option Addr) (c : Nat) (w : World) (h : IntsAt w a zs) (hz : ∀ z ∈ zs, (Lit.int .i64 z).wf = true) :
    Calls Try.prog 9 #[.slice a zs.length c] w fun e w' => TextZE w (textZ zs) e w' := by
  cases a with
  | some ad => exact textZ_some zs ad c w h hz
  | none =>
    have hn : zs = [] := by
      cases zs with
      | nil => rfl
      | cons a r => obtain ⟨ad, e, _⟩ := h 0 a rfl; cases e
    subst hn
    exact textZ_none c w
end Go.Proofs.Ytbbaeipobgomdaa
