/- From a row's list of laid variables, and the world's shape, to what the walks ask of the library's variables. -/
import Derived.Test.YtjoiedomdliadaaDoorLaw
import Derived.Test.YtjoiedomdliadaaDoorGl
import Derived.Stop.LaidErr
import Derived.LaidSub
import Derived.Lay
import Derived.Shelf.Vars
namespace Go.Proofs.YtjoiedomdliadaaDoor
open Go.ChangeShapes Go.WideShapes Go.ChangeAt Go.RowKit

theorem ld_one {l : List (String × DataW Unit)} {W : World} {n : String} {d : DataW Unit} (e : l.filter (fun x => x.1 == n) = [(n, d)]) (h : laidMetH Tryd.prog l W) : laidMetH Tryd.prog [(n, d)] W := e ▸ laidMetH.filter _ h
theorem gMonT : (Tryd.prog.globals[0]?).map (·.type) = some 60 := by kernel_rfl
theorem gPowT : (Tryd.prog.globals[1]?).map (·.type) = some 73 := by kernel_rfl
theorem cMon : Tryd.prog.cellsOf 60 = 12 := by kernel_rfl
theorem cPow : Tryd.prog.cellsOf 73 = 20 := by kernel_rfl
theorem cU64 : Tryd.prog.cellsOf 22 = 1 := by kernel_rfl
theorem mon_of {W : World} (h : laidMetH Tryd.prog [("glebe/date.monthLengths", Rows.laid_glebe_date_monthLengths)] W) : Lib.TabIs Tryd.prog W "glebe/date.monthLengths" .u64 monTab :=
  Lib.tabIs_of_head (rest := []) gMon gMonT Tryd.underlying60 Tryd.underlying22 cU64 cMon h
theorem pow_of {W : World} (h : laidMetH Tryd.prog [("internal/strconv.uint64pow10", Rows.laid_internal_strconv_uint64pow10)] W) : Lib.TabIs Tryd.prog W "internal/strconv.uint64pow10" .u64 Lib.pow10Tab :=
  Lib.tabIs_of_head (rest := []) gPow gPowT Tryd.underlying73 Tryd.underlying22 cU64 cPow h
theorem gEs : Tryd.prog.globalNamed "strconv.ErrSyntax" = some 2 := by kernel_rfl
theorem gEr : Tryd.prog.globalNamed "strconv.ErrRange" = some 3 := by kernel_rfl
theorem gEsT : (Tryd.prog.globals[2]?).map (·.type) = some 45 := by kernel_rfl
theorem gErT : (Tryd.prog.globals[3]?).map (·.type) = some 45 := by kernel_rfl
theorem cErrS : Tryd.prog.cellsOf 85 = 1 := by kernel_rfl
theorem cStr : Tryd.prog.cellsOf 9 = 1 := by kernel_rfl
theorem starErr : "*" ++ "errors.errorString" = "*errors.errorString" := by decide
theorem rowErr (u : TypeId) (h : Tryd.prog.typeName? 3 u = some "*errors.errorString") : u = 83 :=
  typeName_ptr_named (nm := "errors.errorString") (by rw [starErr]; kernel_rfl) (by kernel_rfl) (by decide) u (by rw [starErr]; exact h)
theorem es_of {W : World} (h : laidMetH Tryd.prog [("strconv.ErrSyntax", Rows.laid_strconv_ErrSyntax)] W) : ErrIs W 2 := by
  obtain ⟨a, s, hv, _⟩ := laid_sentinel (r := []) h gEs gEsT Tryd.underlying45 rowErr Tryd.underlying83 Tryd.underlying85 rfl rfl Tryd.underlying9 cErrS cStr
  exact ⟨_, by have h0 := World.var?_cell gEs hv 0; simpa using h0, Or.inr ⟨_, _, rfl⟩⟩
theorem er_of {W : World} (h : laidMetH Tryd.prog [("strconv.ErrRange", Rows.laid_strconv_ErrRange)] W) : ErrIs W 3 := by
  obtain ⟨a, s, hv, _⟩ := laid_sentinel (r := []) h gEr gErT Tryd.underlying45 rowErr Tryd.underlying83 Tryd.underlying85 rfl rfl Tryd.underlying9 cErrS cStr
  exact ⟨_, by have h0 := World.var?_cell gEr hv 0; simpa using h0, Or.inr ⟨_, _, rfl⟩⟩
theorem gl_of {l : List (String × DataW Unit)} {W : World} (h : laidMetH Tryd.prog l W) (_hS : W.ShapedOpen Tryd.prog)
    (e1 : l.filter (fun x => x.1 == "glebe/date.monthLengths") = [("glebe/date.monthLengths", Rows.laid_glebe_date_monthLengths)])
    (e2 : l.filter (fun x => x.1 == "internal/strconv.uint64pow10") = [("internal/strconv.uint64pow10", Rows.laid_internal_strconv_uint64pow10)])
    (e3 : l.filter (fun x => x.1 == "strconv.ErrSyntax") = [("strconv.ErrSyntax", Rows.laid_strconv_ErrSyntax)])
    (e4 : l.filter (fun x => x.1 == "strconv.ErrRange") = [("strconv.ErrRange", Rows.laid_strconv_ErrRange)]) : Gl W :=
  ⟨es_of (ld_one e3 h), er_of (ld_one e4 h), pow_of (ld_one e2 h), mon_of (ld_one e1 h)⟩
end Go.Proofs.YtjoiedomdliadaaDoor
