/- Strings as lists of bytes, rows of texts and of bytes in memory; the second writing's Hex and Split. -/
import Derived.Test.YtmnemjhkmllniaaDoorFh
import Derived.Test.YtmnemjhkmllniaaDoorBm
import Derived.Deep.AppendLies
import Derived.OwnWalk
import Derived.Deep.QuietTactic
import Derived.BigQuiet
import Derived.Laws.BytesArg
namespace Go.Proofs.YtmnemjhkmllniaaDoor
open Go.ChangeShapes Go.WideShapes Go.RowKit Go.Sort
theorem or_add (k a b : Nat) (h : b < 2 ^ k) : (a * 2 ^ k) ||| b = a * 2 ^ k + b := by
  rw [Nat.mul_comm, ← Nat.two_pow_add_eq_or_of_lt h]
theorem cut_is (s : ByteArray) (k : UInt8) (w : World) (hg : Gl w) (hs : s.size < 4294967281) (b : Bool) (h : (Lib.cut s.data.toList [k]).2.2 = b) :
    Calls Tryd.prog 13 #[.string s, .string ⟨#[k]⟩] w fun e w' => e = .returned (.tuple #[.string ⟨(Lib.cut s.data.toList [k]).1.toArray⟩, .string ⟨(Lib.cut s.data.toList [k]).2.1.toArray⟩, .bool b]) ∧ Below w.heap.size w w' := h ▸ cut_x s k w hg hs
theorem infoStr : (Tryd.prog.info? 9).map (fun i => (i.zero, i.size, i.bytes)) = some (some (.string ByteArray.empty), 1, 16) := by kernel_rfl
/-- n empty texts. -/
def emptyS (n : Nat) : Array Value := madeCells (Value.string ByteArray.empty).cells n
theorem emptyS_at (n j : Nat) (h : j < n) : (emptyS n)[j]? = some (.string ByteArray.empty) := by
  unfold emptyS madeCells
  rw [Array.getElem?_map, Array.getElem?_range, if_pos h, show (Value.string ByteArray.empty).cells = #[Value.string ByteArray.empty] from rfl]
  simp [Nat.mod_one]
theorem makeS (n : Nat) (h : n ≤ 1000) (W : World) : (Instr.makeSlice 34 (.int .i64 (n : Int)) (.int .i64 (n : Int))).run Tryd.prog W = .ok (.slice (some ⟨W.heap.size, 0, none⟩) n n) (W.alloc (.cells (emptyS n) 9)) := by
  obtain ⟨i0, hi, hz0, hz1, hz2⟩ := info_parts infoStr
  have h := run_make (P := Tryd.prog) W 34 9 i0 (.string ByteArray.empty) Tryd.underlying34 hi hz0 .i64 .i64 n n (by omega) (by omega) (by rw [hz2]; omega) (by omega)
  rw [hz1] at h
  rw [h]
  simp [emptyS]
def baS (l : Bs) : ByteArray := ⟨l.toArray⟩
/-- What holds in the middle of the loop that fills the texts: the first k are told. -/
def MidS (w : World) (H n : Nat) (f : Nat → Bs) (k : Nat) : Prop :=
  (∀ j, j < k → w.cell? ⟨H, j, none⟩ = some (.string (baS (f j)))) ∧ (∀ j, j < n → ∃ s, w.cell? ⟨H, j, none⟩ = some (.string s)) ∧ ∀ o, w.frozen? ⟨H, o, none⟩ = false
theorem midS_next {w w' : World} {H n k : Nat} {f : Nat → Bs} (h : MidS w H n f k) (hH : H < w.heap.size) (hb : Below w.heap.size w w') : MidS w' H n f k := by
  obtain ⟨c, fr, _⟩ := keepf hb H hH
  exact ⟨fun j hj => (c j).trans (h.1 j hj), fun j hj => by obtain ⟨s, hs⟩ := h.2.1 j hj; exact ⟨s, (c j).trans hs⟩, fun o => (fr o).trans (h.2.2 o)⟩
theorem midS_set {w : World} {H n k : Nat} {f : Nat → Bs} (h : MidS w H n f k) (hk : k < n) : MidS (w.setCell ⟨H, k, none⟩ (.string (baS (f k)))) H n f (k + 1) := by
  obtain ⟨s, hs⟩ := h.2.1 k hk
  refine ⟨fun j hj => ?_, fun j hj => ?_, fun o => by simp [h.2.2 o]⟩
  · by_cases e : j = k
    · subst e; exact World.cell?_setCell_same _ _ _ hs
    · rw [World.cell?_setCell_other _ _ _ _ (by intro e'; injection e' with _ e'; omega)]; exact h.1 j (by omega)
  · by_cases e : j = k
    · subst e; exact ⟨_, World.cell?_setCell_same _ _ _ hs⟩
    · obtain ⟨s', hs'⟩ := h.2.1 j hj
      exact ⟨s', by rw [World.cell?_setCell_other _ _ _ _ (by intro e'; injection e' with _ e'; omega)]; exact hs'⟩
theorem midS_new (w : World) (n : Nat) (f : Nat → Bs) : MidS (w.alloc (.cells (emptyS n) 9)) w.heap.size n f 0 :=
  ⟨fun j hj => by omega, fun j hj => ⟨ByteArray.empty, by rw [World.cell?_alloc_new, emptyS_at n j hj]⟩, fun o => World.frozen?_alloc_new _ _ _ _⟩
theorem and255 (a : Nat) (h : a < 18446744073709551616) : bits .and .u64 (a : Int) 255 = ((a % 256 : Nat) : Int) := by
  rw [show (255 : Int) = ((255 : Nat) : Int) by rfl, u64_and_nat _ _ h (by omega), show (255 : Nat) = 2 ^ 8 - 1 by rfl, Nat.and_two_pow_sub_one_eq_mod]
theorem addS (x y : Bs) (hx : x.length ≤ 8388608) (hy : y.length ≤ 8388608) (V : World) : (Op.stringOp .add (baS x) (baS y)).run Tryd.prog V = .ok (.string (baS (x ++ y))) V :=
  run_string_add_lists V x y (by omega) (by omega)
theorem baS_size (l : Bs) : (baS l).size = l.length := by simp [baS, ByteArray.size]
theorem add_block (p : Addr) (j : Nat) : (p.add j).block = p.block := by unfold Addr.add; split <;> rfl
theorem baS_of (b : ByteArray) (l : Bs) (h : b.data.toList = l) : b = baS l := by subst h; cases b; simp [baS]
theorem sliceTo (s : Bs) (k : Nat) (hk : k ≤ s.length) (V : World) : (Instr.slice 9 (.string (baS s)) none (some (.int .i64 (k : Int))) none).run Tryd.prog V = .ok (.string (baS (s.take k))) V := by
  rw [run_slice_string_h V 9 (baS s) Tryd.underlying9 .i64 (k : Int) (by omega) (by rw [baS_size]; omega)]
  rw [baS_of ((baS s).extract 0 (k : Int).toNat) (s.take k) (by rw [Lib.extract_data]; simp [baS])]
theorem sliceFrom (s : Bs) (k : Nat) (hk : k ≤ s.length) (V : World) : (Instr.slice 9 (.string (baS s)) (some (.int .i64 (k : Int))) none none).run Tryd.prog V = .ok (.string (baS (s.drop k))) V := by
  rw [run_slice_string_l V 9 (baS s) Tryd.underlying9 .i64 (k : Int) (by omega) (by rw [baS_size]; omega)]
  rw [baS_of ((baS s).extract (k : Int).toNat (baS s).size) (s.drop k) (by rw [Lib.extract_data, baS_size]; simp [baS, List.take_of_length_le])]
/-- A rest, as a natural number. -/
theorem rest_nat (y : Int) (m : Nat) (h : 0 ≤ y) : ∃ k : Nat, k ≤ m ∧ y.tmod ((m : Int) + 1) = (k : Int) := by
  rw [Int.tmod_eq_emod_of_nonneg h]
  have h1 := Int.emod_nonneg y (show (m : Int) + 1 ≠ 0 by omega)
  have h2 := Int.emod_lt_of_pos y (show 0 < (m : Int) + 1 by omega)
  exact ⟨(y % ((m : Int) + 1)).toNat, by omega, by omega⟩
def digsR : ByteArray := ⟨#[48, 49, 50, 51, 52, 53, 54, 55, 56, 57, 97, 98, 99, 100, 101, 102]⟩
theorem digs16 : ∀ d, (h : d < 16) → digsR[d]'(by show d < 16; omega) = hexC d := by decide
theorem ne_listR {t : Bs} (h : t ≠ []) : (baS t).toList.isEmpty = false := by
  rw [← decide_eq_emptyBytes]
  exact decide_eq_false (fun e => h (by have := congrArg (fun b : ByteArray => b.data.toList) e; simpa [baS] using this))
theorem baS_len (l : Bs) : (baS l).size = l.length := by simp [baS, ByteArray.size]
def sizeS : Value → Nat
  | .string b => b.size
  | _ => 0
theorem byteE (w : World) (k : Nat) (h1 : k < 256) : (convert 32 9 (.slice (some ⟨w.heap.size, 0, none⟩) 1 1)).run Tryd.prog (w.alloc (.cells #[.int .u8 k] 5)) = .ok (.string (baS [UInt8.ofNat k])) (w.alloc (.cells #[.int .u8 k] 5)) := by
  refine run_convert_bytes_back (P := Tryd.prog) _ 32 9 5 ⟨w.heap.size, 0, none⟩ 1 [UInt8.ofNat k] Tryd.underlying32 Tryd.underlying5 Tryd.underlying9 (fun j hj => ?_)
  obtain rfl : j = 0 := by simpa using hj
  simp [go_sem]
  omega
theorem baS_at (l : Bs) (k : Nat) (hk : k < l.length) : ∀ h, (baS l)[k]'h = l[k]'hk := fun _ => rfl
def hexI (c : UInt8) : Int := match hexD c with
  | some d => (d : Int)
  | none => -1
set_option maxHeartbeats 1000000 in
theorem hex1_x (c : UInt8) (w : World) :
    Calls Tryd.prog 19 #[.int .u8 c.toNat] w fun e w' => e = .returned (.int .i64 (hexI c)) ∧ w' = w := by
  have hc256 : c.toNat < 256 := c.toNat_lt
  have H : ∃ z : Int, hexI c = z ∧ ((48 ≤ c.toNat ∧ c.toNat ≤ 57 ∧ z = (c.toNat : Int) - 48) ∨ (97 ≤ c.toNat ∧ c.toNat ≤ 102 ∧ z = (c.toNat : Int) - 87) ∨ (65 ≤ c.toNat ∧ c.toNat ≤ 70 ∧ z = (c.toNat : Int) - 55) ∨ (¬ (48 ≤ c.toNat ∧ c.toNat ≤ 57) ∧ ¬ (97 ≤ c.toNat ∧ c.toNat ≤ 102) ∧ ¬ (65 ≤ c.toNat ∧ c.toNat ≤ 70) ∧ z = -1)) := by
    refine ⟨hexI c, rfl, ?_⟩
    unfold hexI hexD
    by_cases h1 : 48 ≤ c.toNat ∧ c.toNat ≤ 57
    · left; rw [if_pos h1]; exact ⟨h1.1, h1.2, by simp only; omega⟩
    · rw [if_neg h1]
      by_cases h2 : 97 ≤ c.toNat ∧ c.toNat ≤ 102
      · right; left; rw [if_pos h2]; exact ⟨h2.1, h2.2, by simp only; omega⟩
      · rw [if_neg h2]
        by_cases h3 : 65 ≤ c.toNat ∧ c.toNat ≤ 70
        · right; right; left; rw [if_pos h3]; exact ⟨h3.1, h3.2, by simp only; omega⟩
        · right; right; right; rw [if_neg h3]; exact ⟨h1, h2, h3, rfl⟩
  obtain ⟨z, hz, H⟩ := H
  rw [hz]
  clear hz
  generalize c.toNat = n at *
  rcases H with ⟨a, b, rfl⟩ | ⟨a, b, rfl⟩ | ⟨a, b, rfl⟩ | ⟨h1, h2, h3, rfl⟩
  · have a' : (48 : Int) ≤ n := by omega
    have b' : (n : Int) ≤ 57 := by omega
    go_enter Tryd.func19, Tryd.ntmps19
    go_wp2
    go_ret
    exact ⟨rfl, rfl⟩
  · have a' : (97 : Int) ≤ n := by omega
    have b' : (n : Int) ≤ 102 := by omega
    go_enter Tryd.func19, Tryd.ntmps19
    go_wp2
    go_ret
    exact ⟨congrArg (fun z => Ending.returned (.int .i64 z)) (by first | rfl | omega), rfl⟩
  · have a' : (65 : Int) ≤ n := by omega
    have b' : (n : Int) ≤ 70 := by omega
    go_enter Tryd.func19, Tryd.ntmps19
    go_wp2
    go_ret
    exact ⟨congrArg (fun z => Ending.returned (.int .i64 z)) (by first | rfl | omega), rfl⟩
  · rcases (show n < 48 ∨ (57 < n ∧ n < 65) ∨ (70 < n ∧ n < 97) ∨ 102 < n by omega) with h | ⟨h, h'⟩ | ⟨h, h'⟩ | h
    all_goals
      clear h1 h2 h3
      go_enter Tryd.func19, Tryd.ntmps19
      go_wp2
      go_ret
      exact ⟨rfl, rfl⟩
theorem one_new {w : World} {u : Value} {t : TypeId} : ∀ (j : Nat) (x : Value), [u][j]? = some x → (w.alloc (.cells #[u] t)).cell? ((⟨w.heap.size, 0, none⟩ : Addr).add j) = some x := by
  intro j x hj
  match j, hj with
  | 0, hj => simp at hj; subst hj; simp [Addr.add]
theorem two_new {w : World} {u v : Value} {t : TypeId} : ∀ (j : Nat) (x : Value), [u, v][j]? = some x → (w.alloc (.cells #[u, v] t)).cell? ((⟨w.heap.size, 0, none⟩ : Addr).add j) = some x := by
  intro j x hj
  match j, hj with
  | 0, hj => simp at hj; subst hj; simp [Addr.add]
  | 1, hj => simp at hj; subst hj; simp [Addr.add]
def valS (p : Bs) : Value := .string (baS p)
/-- The cells of block g, from its head on, are these texts. -/
def RowS (w : World) (g : Nat) (l : List Bs) : Prop := ∀ (j : Nat) (x : Bs), l[j]? = some x → w.cell? ⟨g, j, none⟩ = some (.string (baS x))
theorem RowS.below {w w' : World} {g : Nat} {l : List Bs} (h : RowS w g l) (hb : Below w.heap.size w w') (hg : g < w.heap.size) : RowS w' g l := fun j x hj => (olds hb g j hg).trans (h j x hj)
theorem rowS_own {w : World} {base g c : Nat} {l : List Bs} (h : w.ownsRow base 9 1 (.slice (some ⟨g, 0, none⟩) l.length c) l.length (l.map valS)) : RowS w g l := fun j x hj => by
  have hlt : j < l.length := (List.getElem?_eq_some_iff.1 hj).1
  rw [h.cellAt j (by omega), List.getElem?_map, hj]
  rfl
theorem infoSt : (Tryd.prog.info? 9).map (fun i => (i.zero, i.size, i.bytes)) = some (some (.string ⟨#[]⟩), 1, 16) := by kernel_rfl
/-- What Split hands back. -/
def SplitR (w : World) (l : List Bs) (e : Ending) (w' : World) : Prop := Below w.heap.size w w' ∧ ∃ g c, e = .returned (.slice (some ⟨g, 0, none⟩) l.length c) ∧ w.heap.size ≤ g ∧ g < w'.heap.size ∧ l.length ≤ c ∧ RowS w' g l
theorem baS_eq (b : ByteArray) (l : Bs) (h : b.data.toList = l) : b = baS l := by subst h; cases b; simp [baS]
theorem sliceMid (s : Bs) (f k : Nat) (h1 : f ≤ k) (h2 : k ≤ s.length) (V : World) : (Instr.slice 9 (.string (baS s)) (some (.int .i64 (f : Int))) (some (.int .i64 (k : Int))) none).run Tryd.prog V = .ok (.string (baS ((s.drop f).take (k - f)))) V := by
  rw [run_slice_string V 9 (baS s) .i64 .i64 (f : Int) (k : Int) Tryd.underlying9 (by omega) (by omega) (by rw [baS_len]; omega)]
  rw [baS_eq ((baS s).extract (f : Int).toNat (k : Int).toNat) ((s.drop f).take (k - f)) (by rw [Lib.extract_data]; simp [baS, List.take_drop])]
/-- In the middle of Split's loop. -/
def MidSp (z : UInt8) (l : Bs) (ps : List Bs) (f k : Nat) : Prop :=
  (k ≤ l.length → f ≤ k ∧ splitV z l = ps ++ splitA z ((l.drop f).take (k - f)) (l.drop k)) ∧ (l.length < k → ps ≠ [] ∧ splitV z l = ps) ∧ ps.length ≤ k
theorem midSp_cut {z : UInt8} {l : Bs} {ps : List Bs} {f k : Nat} (hk : k < l.length) (h : MidSp z l ps f k) (hz : l[k]'hk = z) : MidSp z l (ps ++ [(l.drop f).take (k - f)]) (k + 1) (k + 1) := by
  obtain ⟨h1, h2, h3⟩ := h
  obtain ⟨h1a, h1b⟩ := h1 (by omega)
  refine ⟨fun _ => ⟨Nat.le_refl _, ?_⟩, fun h => by omega, by simp; omega⟩
  rw [h1b, List.drop_eq_getElem_cons hk, hz]
  conv => lhs; unfold splitA
  rw [if_pos rfl]
  simp
theorem midSp_next {z : UInt8} {l : Bs} {ps : List Bs} {f k : Nat} (hk : k < l.length) (h : MidSp z l ps f k) (hz : l[k]'hk ≠ z) : MidSp z l ps f (k + 1) := by
  obtain ⟨h1, h2, h3⟩ := h
  obtain ⟨h1a, h1b⟩ := h1 (by omega)
  refine ⟨fun _ => ⟨by omega, ?_⟩, fun h => by omega, by omega⟩
  rw [h1b, List.drop_eq_getElem_cons hk]
  conv => lhs; unfold splitA
  rw [if_neg hz]
  congr 2
  rw [show k + 1 - f = (k - f) + 1 by omega, List.take_succ_eq_append_getElem (by rw [List.length_drop]; omega)]
  congr 2
  rw [List.getElem_drop]
  congr 1
  omega
theorem midSp_end {z : UInt8} {l : Bs} {ps : List Bs} {f : Nat} (h : MidSp z l ps f l.length) : MidSp z l (ps ++ [(l.drop f).take (l.length - f)]) (l.length + 1) (l.length + 1) := by
  obtain ⟨h1, h2, h3⟩ := h
  obtain ⟨h1a, h1b⟩ := h1 (by omega)
  refine ⟨fun h => by omega, fun _ => ⟨by simp, ?_⟩, by simp; omega⟩
  rw [h1b, List.drop_of_length_le (Nat.le_refl _)]
  rfl
set_option maxHeartbeats 8000000 in
set_option maxRecDepth 100000 in
theorem splitE_x (z : UInt8) (l : Bs) (w : World) (hl : l.length ≤ 100000) :
    Calls Tryd.prog 18 #[.string (baS l), .int .u8 z.toNat] w fun e w' => SplitR w (splitV z l) e w' := by
  obtain ⟨i0, hi, hz0, hz1, hz2⟩ := info_parts infoSt
  have hsz : (baS l).size = l.length := baS_len l
  obtain ⟨N, hN⟩ : ∃ N, l.length = N := ⟨_, rfl⟩
  rw [hN] at hsz hl
  have HN := Lib.hid hN
  go_enter Tryd.func18, Tryd.ntmps18
  go_wp2
  go_loopw [5, 6, 7] (fun v fv iv wr => ∃ (ps : List Bs) (f k : Nat) (p : Option Addr) (c : Nat), v = .slice p ps.length c ∧ fv = .int .i64 f ∧ iv = .int .i64 k ∧ k ≤ N + 1 ∧ f ≤ N + 1 ∧ ps.length ≤ N + 1 ∧ Hid (MidSp z l ps f k) ∧ wr.ownsRow w.heap.size 9 1 (.slice p ps.length c) ps.length (ps.map valS) ∧ Below w.heap.size w wr)
    (fun _ _ iv _ => N + 1 - (intOf iv).toNat)
  case atStart => exact ⟨[], 0, 0, none, 0, rfl, rfl, rfl, by omega, by omega, by simp, ⟨fun _ => ⟨by omega, by simp [splitV]⟩, fun h => by omega, by simp⟩, World.ownsRow_nil _ _ _ _, Below.refl _ _⟩
  case round =>
    obtain ⟨ps, f, k, p, c, rfl, rfl, rfl, hk, hf, hps, hh, hown, hb⟩ := hrel
    have hz := hb.size
    by_cases hkN : k ≤ N
    · have hkN' : (k : Int) ≤ N := by omega
      have hfk : f ≤ k := (hh.out.1 (by omega)).1
      by_cases hke : k = N
      · subst hke
        have hmid := Lib.hid (show MidSp z l (ps ++ [(l.drop f).take (k - f)]) (k + 1) (k + 1) by have h0 := hh.out; rw [← HN.out] at h0 ⊢; exact midSp_end h0)
        have hsl := sliceMid l f k hfk (by omega)
        obtain ⟨q, hq⟩ : ∃ q, (l.drop f).take (k - f) = q := ⟨_, rfl⟩
        rw [hq] at hsl hmid
        clear hq hh
        go_wp2_with (at_builtin; refine wpList_append_lies _ (by rfl) _ _ 34 (by rfl) w.heap.size 9 i0 (.string ⟨#[]⟩) 1 16 Tryd.underlying34 hi hz0 hz1 hz2 rfl (by decide) _ _ _ (by rfl) (hown.alloc _) ⟨wr.heap.size, 0, none⟩ 1 1 [.string (baS q)] (by rfl) (by rfl) one_new (fun x hx => by simp at hx; subst hx; rfl) (by decide) (by unfold maxLen; omega) (by omega) (by simp; omega) (wr.heap.size + 1) (by simp) ?_)
        intro g cap w3 hown3 hgrow hat hlt3
        have B3 : Below w.heap.size w w3 := (hb.alloc hz _).grown hgrow (by simp; omega) (fun k hk => (hown.lt k hk).1)
        clear hgrow hat
        go_wp2
        go_roundw
        case rel => exact ⟨ps ++ [q], k + 1, k + 1, some ⟨g, 0, none⟩, cap, by simp, by go_num, by go_num, by omega, by omega, by have := hmid.out.2.2; simp at this ⊢; omega, hmid.out, by simpa [valS] using hown3, B3⟩
        case measure => simp [intOf]
      · have hkl : k < l.length := by omega
        have hat := baS_at l k hkl
        have hcut := fun e => midSp_cut hkl hh.out e
        have hnext := fun e => midSp_next hkl hh.out e
        generalize l[k]'hkl = b at hat hcut hnext
        have hke' : ((k : Int) == N) = false := by rw [beq_eq_false_iff_ne]; omega
        have hkN1 : (k : Int) < N := by omega
        by_cases hbz : b = z
        · have hmid := Lib.hid (hcut hbz)
          have hsl := sliceMid l f k hfk (by omega)
          obtain ⟨q, hq⟩ : ∃ q, (l.drop f).take (k - f) = q := ⟨_, rfl⟩
          rw [hq] at hsl hmid
          have hbb : ((b.toNat : Int) == z.toNat) = true := by rw [hbz]; simp
          clear hq hh hcut hnext hbz hkl
          go_wp2_with (at_builtin; refine wpList_append_lies _ (by rfl) _ _ 34 (by rfl) w.heap.size 9 i0 (.string ⟨#[]⟩) 1 16 Tryd.underlying34 hi hz0 hz1 hz2 rfl (by decide) _ _ _ (by rfl) (hown.alloc _) ⟨wr.heap.size, 0, none⟩ 1 1 [.string (baS q)] (by rfl) (by rfl) one_new (fun x hx => by simp at hx; subst hx; rfl) (by decide) (by unfold maxLen; omega) (by omega) (by simp; omega) (wr.heap.size + 1) (by simp) ?_)
          intro g cap w3 hown3 hgrow hat hlt3
          have B3 : Below w.heap.size w w3 := (hb.alloc hz _).grown hgrow (by simp; omega) (fun k hk => (hown.lt k hk).1)
          clear hgrow hat
          go_wp2
          go_roundw
          case rel => exact ⟨ps ++ [q], k + 1, k + 1, some ⟨g, 0, none⟩, cap, by simp, by go_num, by go_num, by omega, by omega, by have := hmid.out.2.2; simp at this ⊢; omega, hmid.out, by simpa [valS] using hown3, B3⟩
          case measure => simp [intOf]; omega
        · have hmid := Lib.hid (hnext hbz)
          have hbb : ((b.toNat : Int) == z.toNat) = false := by
            rw [beq_eq_false_iff_ne]; intro e; exact hbz (UInt8.toNat_inj.1 (by simpa using Int.ofNat_inj.1 e))
          clear hh hcut hnext hbz hkl
          go_wp2
          go_roundw
          case rel => exact ⟨ps, f, k + 1, p, c, rfl, rfl, by go_num, by omega, by omega, hps, hmid.out, hown, hb⟩
          case measure => simp [intOf]; omega
    · obtain rfl : k = N + 1 := by omega
      have hkN' : ¬ ((N + 1 : Nat) : Int) ≤ N := by omega
      obtain ⟨hne, hF⟩ := hh.out.2.1 (by omega)
      have HF := Lib.hid hF
      obtain ⟨g, cap, cur, hv, hg1, hg2, hg3⟩ : ∃ g cap cur, Value.slice p ps.length c = .slice (some ⟨g, 0, none⟩) ps.length cap ∧ w.heap.size ≤ g ∧ wr.heap[g]? = some (.cells cur 9 (0, 0)) ∧ ps.length ≤ cap := by
        rcases hown.2 with ⟨_, h⟩ | ⟨g, cap, cur, a, b, c, d, _⟩
        · exact absurd (List.length_eq_zero_iff.1 h) hne
        · exact ⟨g, cap, cur, a, b, c, d⟩
      obtain ⟨rfl, rfl⟩ : p = some ⟨g, 0, none⟩ ∧ c = cap := by injection hv with a _ b; exact ⟨a, b⟩
      have hgl : g < wr.heap.size := by by_cases hx : g < wr.heap.size; exact hx; rw [Array.getElem?_eq_none (by omega)] at hg2; cases hg2
      have HR := Lib.hid (rowS_own hown)
      clear hv hF hne hown hg2 hh
      go_wp2
      go_ret
      refine ⟨hb, ?_⟩
      rw [HF.out]
      exact ⟨g, c, rfl, hg1, hgl, hg3, HR.out⟩
theorem rowS_addr {w : World} {g : Nat} {l : List Bs} (h : RowS w g l) (j : Nat) (hj : j < l.length) : w.cell? ⟨g, j, none⟩ = some (.string (baS (l[j]'hj))) := h j _ (List.getElem?_eq_getElem hj)
/-- A row of bytes lies in memory. -/
def BytesAt (w : World) (p : Option Addr) (l : Bs) : Prop := ∀ (j : Nat) (b : UInt8), l[j]? = some b → ∃ ad, p = some ad ∧ ad.block < w.heap.size ∧ w.cell? (ad.add j) = some (.int .u8 (b.toNat : Int))
theorem BytesAt.below {w w' : World} {p : Option Addr} {l : Bs} (h : BytesAt w p l) (hb : Below w.heap.size w w') : BytesAt w' p l := fun j b hj => by
  obtain ⟨ad, e, hl, hc⟩ := h j b hj
  exact ⟨ad, e, Nat.lt_of_lt_of_le hl hb.size, (hb.cell (p := ad.add j) (by rw [add_block]; exact hl)).trans hc⟩
theorem nums_back (l : Bs) : strOfNums (l.map fun b => (b.toNat : Int)) = baS l := by
  unfold strOfNums baS
  congr 1
  rw [List.map_map]
  have : (fun n : Int => UInt8.ofNat n.toNat) ∘ (fun b : UInt8 => (b.toNat : Int)) = id := by funext b; simp
  rw [this]; simp
theorem conv_bytes {w : World} {p : Option Addr} {l : Bs} (c : Nat) (h : BytesAt w p l) : (convert 32 9 (.slice p l.length c)).run Tryd.prog w = .ok (.string (baS l)) w := by
  cases p with
  | none =>
    have hl : l = [] := by
      cases l with
      | nil => rfl
      | cons a r => obtain ⟨ad, e, _⟩ := h 0 a rfl; cases e
    subst hl
    exact run_convert_bytes_nil w 32 5 Tryd.underlying32 Tryd.underlying5 0 c 9 Tryd.underlying9
  | some ad =>
    have hl : (loadCells ad l.length).run Tryd.prog w = .ok ((l.map fun b => (b.toNat : Int)).map (Value.int .u8)).toArray w := by
      have := run_loadCells_list (P := Tryd.prog) w ad ((l.map fun b => (b.toNat : Int)).map (Value.int .u8)) (fun j v hj => by
        rw [List.getElem?_map, List.getElem?_map] at hj
        cases hx : l[j]? with
        | none => rw [hx] at hj; cases hj
        | some b =>
          rw [hx] at hj
          obtain ⟨ad', e, _, hc⟩ := h j b hx
          cases e
          simp at hj
          rw [hc, ← hj])
      simpa using this
    rw [run_convert_bytes_string w 32 9 5 _ l.length c Tryd.underlying32 Tryd.underlying5 Tryd.underlying9, run_bytesToString w _ l.length c _ hl, foldl_push_bytes, ← nums_back]
    simp [strOfNums, ByteArray.empty, ByteArray.emptyWithCapacity]
    rfl
end Go.Proofs.YtmnemjhkmllniaaDoor
