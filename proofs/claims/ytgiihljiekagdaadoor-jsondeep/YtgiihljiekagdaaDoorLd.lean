/- From a row's list of laid variables, and the world's shape, to what the walks ask of the library's variables. -/
import Derived.Test.YtgiihljiekagdaaDoorLaw
import Derived.Test.YtgiihljiekagdaaDoorKa
import Derived.Stop.LaidErr
import Derived.LaidSub
import Derived.MakeChecks
import Derived.Lay
import Derived.Shelf.Vars
import Derived.Lib.LaidU8T
namespace Go.Proofs.YtgiihljiekagdaaDoor
open Go.ChangeShapes Go.WideShapes Go.ChangeAt Go.RowKit Go.Lib
theorem ld_one {l : List (String × DataW Unit)} {W : World} {n : String} {d : DataW Unit} (e : l.filter (fun x => x.1 == n) = [(n, d)]) (h : laidMetH Tryd.prog l W) : laidMetH Tryd.prog [(n, d)] W := e ▸ laidMetH.filter _ h
theorem gPowT : (Tryd.prog.globals[3]?).map (·.type) = some 122 := by kernel_rfl
theorem cPow : Tryd.prog.cellsOf 122 = 20 := by kernel_rfl
theorem cU64 : Tryd.prog.cellsOf 68 = 1 := by kernel_rfl
theorem pow_of {W : World} (h : laidMetH Tryd.prog [("internal/strconv.uint64pow10", Rows.laid_internal_strconv_uint64pow10)] W) : Lib.TabIs Tryd.prog W "internal/strconv.uint64pow10" .u64 Lib.pow10Tab :=
  Lib.tabIs_of_head (rest := []) gPow gPowT Tryd.underlying122 Tryd.underlying68 cU64 cPow h
theorem gEs : Tryd.prog.globalNamed "strconv.ErrSyntax" = some 1 := by kernel_rfl
theorem gEr : Tryd.prog.globalNamed "strconv.ErrRange" = some 2 := by kernel_rfl
theorem gEsT : (Tryd.prog.globals[1]?).map (·.type) = some 85 := by kernel_rfl
theorem gErT : (Tryd.prog.globals[2]?).map (·.type) = some 85 := by kernel_rfl
theorem cErrS : Tryd.prog.cellsOf 134 = 1 := by kernel_rfl
theorem cStr : Tryd.prog.cellsOf 9 = 1 := by kernel_rfl
theorem starErr : "*" ++ "errors.errorString" = "*errors.errorString" := by decide
theorem rowErr (u : TypeId) (h : Tryd.prog.typeName? 3 u = some "*errors.errorString") : u = 132 :=
  typeName_ptr_named (nm := "errors.errorString") (by rw [starErr]; kernel_rfl) (by kernel_rfl) (by decide) u (by rw [starErr]; exact h)
theorem es_of {W : World} (h : laidMetH Tryd.prog [("strconv.ErrSyntax", Rows.laid_strconv_ErrSyntax)] W) : ErrIs W 1 := by
  obtain ⟨a, s, hv, _⟩ := laid_sentinel (r := []) h gEs gEsT Tryd.underlying85 rowErr Tryd.underlying132 Tryd.underlying134 rfl rfl Tryd.underlying9 cErrS cStr
  exact ⟨_, by have h0 := World.var?_cell gEs hv 0; simpa using h0, Or.inr ⟨_, _, rfl⟩⟩
theorem er_of {W : World} (h : laidMetH Tryd.prog [("strconv.ErrRange", Rows.laid_strconv_ErrRange)] W) : ErrIs W 2 := by
  obtain ⟨a, s, hv, _⟩ := laid_sentinel (r := []) h gEr gErT Tryd.underlying85 rowErr Tryd.underlying132 Tryd.underlying134 rfl rfl Tryd.underlying9 cErrS cStr
  exact ⟨_, by have h0 := World.var?_cell gEr hv 0; simpa using h0, Or.inr ⟨_, _, rfl⟩⟩
def u8_ren : Go.Shelf.Ren := ⟨fun n => n, fun | 5 => 5 | 119 => 127 | 138 => 129 | 139 => 130 | n => n, fun | 3 => 4 | 4 => 5 | n => n⟩
theorem reads_one {W : World} {n : String} {d : DataW Unit} (hd : d.handleName? = none) (h : laidMetH Tryd.prog [(n, d)] W) : VarReads Tryd.prog W n d := by
  rw [MakeChecks.laidMetH_plain _ _ _ (by simp [hd])] at h
  exact Lib.laidMet.reads h (.head _)
theorem utf_of {W : World} (h : laidMetH Tryd.prog [("unicode/utf8.first", Rows.laid_unicode_utf8_first)] W) (k : laidMetH Tryd.prog [("unicode/utf8.acceptRanges", Rows.laid_unicode_utf8_acceptRanges)] W) : Lib.Utf8Tabs 4 5 W := by
  have e1 : Rows.laid_unicode_utf8_first = firstData := by kernel_rfl
  have e2 : (Rows.laid_unicode_utf8_acceptRanges : DataW Unit) = acceptData := by kernel_rfl
  exact utf8Tabs_of_readsT (P := Tryd.prog) (ρ := u8_ren) ⟨by kernel_rfl, by kernel_rfl, by kernel_rfl, by kernel_rfl⟩ ⟨by kernel_rfl, by kernel_rfl, by kernel_rfl, by kernel_rfl, by kernel_rfl, by kernel_rfl, by kernel_rfl⟩ (e1 ▸ reads_one (by kernel_rfl) h) (e2 ▸ reads_one (by kernel_rfl) k)
theorem lt_of {W : World} (h : W.ShapedOpen Tryd.prog) : 8 ≤ W.heap.size := by
  obtain ⟨o, o0, h1, _⟩ := h.2 8 (of_decide_eq_true (by kernel_rfl)) (of_decide_eq_true (by kernel_rfl))
  exact Nat.le_of_lt (Array.getElem?_eq_some_iff.1 h1).1
theorem gl_of {l : List (String × DataW Unit)} {W : World} (h : laidMetH Tryd.prog l W) (hS : W.ShapedOpen Tryd.prog)
    (e1 : l.filter (fun x => x.1 == "unicode/utf8.first") = [("unicode/utf8.first", Rows.laid_unicode_utf8_first)])
    (e2 : l.filter (fun x => x.1 == "internal/strconv.uint64pow10") = [("internal/strconv.uint64pow10", Rows.laid_internal_strconv_uint64pow10)])
    (e3 : l.filter (fun x => x.1 == "strconv.ErrSyntax") = [("strconv.ErrSyntax", Rows.laid_strconv_ErrSyntax)])
    (e4 : l.filter (fun x => x.1 == "strconv.ErrRange") = [("strconv.ErrRange", Rows.laid_strconv_ErrRange)])
    (e5 : l.filter (fun x => x.1 == "unicode/utf8.acceptRanges") = [("unicode/utf8.acceptRanges", Rows.laid_unicode_utf8_acceptRanges)]) : Gl W :=
  ⟨cell_of_shapedOpen_int (zero := #[.int .i64 0]) hS (of_decide_eq_true (by kernel_rfl)) (by kernel_rfl) rfl (by kernel_rfl) (by kernel_rfl) Tryd.underlying3, es_of (ld_one e3 h), er_of (ld_one e4 h), pow_of (ld_one e2 h), utf_of (ld_one e1 h) (ld_one e5 h), lt_of hS⟩
end Go.Proofs.YtgiihljiekagdaaDoor
