/- What the library's variables hold, kept over every call that leaves old memory alone; the library's calls in the words that package addr's walks want. -/
import Derived.Test.YtmnemjhkmllniaaGreatDoorChecked
import Derived.Lib.SmallJoins
import Derived.Lib.AtoiErrMem
import Derived.Test.YtmnemjhkmllniaaGreatDoorzShelf
import Derived.Test.YtmnemjhkmllniaaGreatDoorzQw
import Derived.Test.YtmnemjhkmllniaaGreatDoorzAm
namespace Go.Proofs.YtmnemjhkmllniaaGreatDoor
open Go.ChangeShapes Go.WideShapes Go.RowKit Go.Sort

/-- An error variable holds nothing, or a value of some type. -/
def ErrIs (w : World) (g : Nat) : Prop := ∃ ev, w.cell? ⟨g, 0, none⟩ = some ev ∧ (ev = .nilIface ∨ ∃ te pe, ev = .iface te pe)
structure Gl (w : World) : Prop where
  ml : ∃ m : Int, w.cell? ⟨0, 0, none⟩ = some (.int .i64 m)
  es : ErrIs w 3
  er : ErrIs w 4
  p10 : Lib.TabIs Tryz.prog w "internal/strconv.uint64pow10" .u64 Lib.pow10Tab
  tz : TabOk w
theorem gPow : Tryz.prog.globalNamed "internal/strconv.uint64pow10" = some 2 := by kernel_rfl
theorem Gl.below {w w' : World} (h : Gl w) (hb : Below w.heap.size w w') : Gl w' := by
  obtain ⟨⟨m, hm⟩, ⟨ev, h1, h2⟩, ⟨ev', h3, h4⟩, hp, ht⟩ := h
  refine ⟨⟨m, ?_⟩, ⟨ev, ?_, h2⟩, ⟨ev', ?_, h4⟩, Joins.tab_stays gPow hp hb (Nat.le_refl _), ht.below hb ht.pos⟩
  · rw [hb.cell (p := ⟨0, 0, none⟩) (block_lt_of_cell hm)]; exact hm
  · rw [hb.cell (p := ⟨3, 0, none⟩) (block_lt_of_cell h1)]; exact h1
  · rw [hb.cell (p := ⟨4, 0, none⟩) (block_lt_of_cell h3)]; exact h3
theorem Gl.alloc {w : World} (h : Gl w) (o : Obj) : Gl (w.alloc o) := h.below ((Below.refl _ _).alloc (Nat.le_refl _) o)

theorem cut_x (s : ByteArray) (k : UInt8) (w : World) (hg : Gl w) (hs : s.size < 4294967281) :
    Calls Tryz.prog 32 #[.string s, .string ⟨#[k]⟩] w fun e w' => e = .returned (.tuple #[.string ⟨(Lib.cut s.data.toList [k]).1.toArray⟩, .string ⟨(Lib.cut s.data.toList [k]).2.1.toArray⟩, .bool (Lib.cut s.data.toList [k]).2.2]) ∧ Below w.heap.size w w' := by
  obtain ⟨m, hm⟩ := hg.ml
  exact (Tryz.strings_Cut s ⟨#[k]⟩ m w hs hm).mono fun e w' ⟨h1, n, h2⟩ => ⟨h1, h2 ▸ Joins.below_draws _ _ _⟩
theorem cut2_x (s : ByteArray) (w : World) (hg : Gl w) (hs : s.size < 4294967281) :
    Calls Tryz.prog 32 #[.string s, .string ⟨#[58, 58]⟩] w fun e w' => e = .returned (.tuple #[.string ⟨(Lib.cut s.data.toList [58, 58]).1.toArray⟩, .string ⟨(Lib.cut s.data.toList [58, 58]).2.1.toArray⟩, .bool (Lib.cut s.data.toList [58, 58]).2.2]) ∧ Below w.heap.size w w' := by
  obtain ⟨m, hm⟩ := hg.ml
  exact (Tryz.strings_Cut s ⟨#[58, 58]⟩ m w hs hm).mono fun e w' ⟨h1, n, h2⟩ => ⟨h1, h2 ▸ Joins.below_draws _ _ _⟩
theorem has_x (s : ByteArray) (k : UInt8) (w : World) (hg : Gl w) (hs : s.size < 4294967281) :
    Calls Tryz.prog 57 #[.string s, .string ⟨#[k]⟩] w fun e w' => e = .returned (.bool (Lib.contains s.data.toList [k])) ∧ Below w.heap.size w w' := by
  obtain ⟨m, hm⟩ := hg.ml
  exact (Tryz.strings_Contains s ⟨#[k]⟩ m w hs hm).mono fun e w' ⟨h1, h2⟩ => ⟨h1, h2 ▸ Below.refl _ _⟩
theorem has_is (s : ByteArray) (k : UInt8) (w : World) (hg : Gl w) (hs : s.size < 4294967281) (b : Bool) (h : Lib.contains s.data.toList [k] = b) :
    Calls Tryz.prog 57 #[.string s, .string ⟨#[k]⟩] w fun e w' => e = .returned (.bool b) ∧ Below w.heap.size w w' := h ▸ has_x s k w hg hs
/-- What Cut hands back is no longer than what it was given. -/
theorem cut_len (l sep : Bs) : (Lib.cut l sep).1.length ≤ l.length ∧ (Lib.cut l sep).2.1.length ≤ l.length := by
  unfold Lib.cut; split
  · simp; omega
  · simp
theorem ba_size (l : Bs) : (⟨l.toArray⟩ : ByteArray).size = l.length := rfl
theorem ba_list (l : Bs) : (⟨l.toArray⟩ : ByteArray).data.toList = l := rfl
theorem ba_len (s : ByteArray) : s.data.toList.length = s.size := Array.length_toList

/-! ### ParseUint(s, 10, 8) -/
theorem pu10_ok (s : ByteArray) (u : Nat) (w : World) (hs : s.size < 4294967281) (h : Lib.parseUintB 8 s.data.toList = .ok u) :
    Calls Tryz.prog 95 #[.string s, .int .i64 10, .int .i64 8] w fun e w' => e = .returned (.tuple #[.int .u64 u, .nilIface]) ∧ Below w.heap.size w w' :=
  (Tryz.strconv_ParseUint_10_at8_ok s (by omega) u h w).mono fun e w' ⟨h1, h2⟩ => ⟨h1, by rcases h2 with rfl | rfl; exact Below.refl _ _; exact Lib.bytesWorld_below _ _ _⟩
theorem pu10_no (s : ByteArray) (w : World) (hg : Gl w) (hs : s.size < 4294967281) (h : ∀ u, Lib.parseUintB 8 s.data.toList ≠ .ok u) :
    Calls Tryz.prog 95 #[.string s, .int .i64 10, .int .i64 8] w fun e w' => (∃ u N, e = .returned (.tuple #[.int .u64 u, .iface 130 (.pointer (some ⟨N, 0, none⟩))])) ∧ Below w.heap.size w w' := by
  cases hh : Lib.parseUintB 8 s.data.toList with
  | ok u => exact absurd hh (h u)
  | «syntax» =>
    obtain ⟨ev, h1, h2⟩ := hg.es
    exact (Tryz.strconv_ParseUint_10_at8_syntax s (by omega) hh ev w h1 h2).mono fun e w' ⟨N, a, _, _, b⟩ => ⟨⟨_, N, a⟩, b⟩
  | range =>
    obtain ⟨ev, h1, h2⟩ := hg.er
    exact (Tryz.strconv_ParseUint_10_at8_range s (by omega) hh ev w h1 h2).mono fun e w' ⟨N, a, _, _, b⟩ => ⟨⟨_, N, a⟩, b⟩
end Go.Proofs.YtmnemjhkmllniaaGreatDoor
