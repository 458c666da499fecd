/- What the package-level variables hold, kept over every call that leaves old memory alone; the library's ParseUint in the words that package date's walks want. -/
import Derived.Test.YtjoiedomdliadaaDoorKb
namespace Go.Proofs.YtjoiedomdliadaaDoor
open Go.ChangeShapes Go.WideShapes Go.RowKit Go.Sort

/-- An error variable holds nothing, or a value of some type. -/
def ErrIs (w : World) (g : Nat) : Prop := ∃ ev, w.cell? ⟨g, 0, none⟩ = some ev ∧ (ev = .nilIface ∨ ∃ te pe, ev = .iface te pe)
def monTab : List Int := [31, 28, 31, 30, 31, 30, 31, 31, 30, 31, 30, 31]
structure Gl (w : World) : Prop where
  es : ErrIs w 2
  er : ErrIs w 3
  p10 : Lib.TabIs Tryd.prog w "internal/strconv.uint64pow10" .u64 Lib.pow10Tab
  mon : Lib.TabIs Tryd.prog w "glebe/date.monthLengths" .u64 monTab
theorem gPow : Tryd.prog.globalNamed "internal/strconv.uint64pow10" = some 1 := by kernel_rfl
theorem gMon : Tryd.prog.globalNamed "glebe/date.monthLengths" = some 0 := by kernel_rfl
theorem Gl.below {w w' : World} (h : Gl w) (hb : Below w.heap.size w w') : Gl w' := by
  obtain ⟨⟨ev, h1, h2⟩, ⟨ev', h3, h4⟩, hp, hm⟩ := h
  refine ⟨⟨ev, ?_, h2⟩, ⟨ev', ?_, h4⟩, Joins.tab_stays gPow hp hb (Nat.le_refl _), Joins.tab_stays gMon hm hb (Nat.le_refl _)⟩
  · rw [hb.cell (p := ⟨2, 0, none⟩) (block_lt_of_cell h1)]; exact h1
  · rw [hb.cell (p := ⟨3, 0, none⟩) (block_lt_of_cell h3)]; exact h3
theorem Gl.alloc {w : World} (h : Gl w) (o : Obj) : Gl (w.alloc o) := h.below ((Below.refl _ _).alloc (Nat.le_refl _) o)
theorem Gl.month {w : World} (h : Gl w) (m : Nat) (hm : m < 12) : w.cell? ⟨0, m, none⟩ = some (.int .u64 (monTab.getD m 0)) := h.mon.cell gMon m (by simpa [monTab] using hm)

/-! ### ParseUint(s, 10, 64) -/
theorem pu10_ok (s : ByteArray) (u : Nat) (w : World) (hs : s.size < 4294967281) (h : Lib.parseUintB 64 s.data.toList = .ok u) :
    Calls Tryd.prog 23 #[.string s, .int .i64 10, .int .i64 64] w fun e w' => e = .returned (.tuple #[.int .u64 u, .nilIface]) ∧ Below w.heap.size w w' :=
  (Tryd.strconv_ParseUint_10_at64_ok s (by omega) u h w).mono fun e w' ⟨h1, h2⟩ => ⟨h1, by rcases h2 with rfl | rfl; exact Below.refl _ _; exact Lib.bytesWorld_below _ _ _⟩
theorem pu10_no (s : ByteArray) (w : World) (hg : Gl w) (hs : s.size < 4294967281) (h : ∀ u, Lib.parseUintB 64 s.data.toList ≠ .ok u) :
    Calls Tryd.prog 23 #[.string s, .int .i64 10, .int .i64 64] w fun e w' => (∃ u N, e = .returned (.tuple #[.int .u64 u, .iface 68 (.pointer (some ⟨N, 0, none⟩))])) ∧ Below w.heap.size w w' := by
  cases hh : Lib.parseUintB 64 s.data.toList with
  | ok u => exact absurd hh (h u)
  | «syntax» =>
    obtain ⟨ev, h1, h2⟩ := hg.es
    exact (Tryd.strconv_ParseUint_10_at64_syntax s (by omega) hh ev w h1 h2).mono fun e w' ⟨N, a, _, _, b⟩ => ⟨⟨_, N, a⟩, b⟩
  | range =>
    obtain ⟨ev, h1, h2⟩ := hg.er
    exact (Tryd.strconv_ParseUint_10_at64_range s (by omega) hh ev w h1 h2).mono fun e w' ⟨N, a, _, _, b⟩ => ⟨⟨_, N, a⟩, b⟩
end Go.Proofs.YtjoiedomdliadaaDoor
