/- From a row's list of laid variables, and the world's shape, to what the walks ask of the library's variables. -/
import Derived.Stop.LaidErr
import Derived.LaidSub
import Derived.Lay
import Derived.Shelf.Vars
import Derived.Test.YtmnemjhkmllniaaGreatDoorzLaw
import Derived.Test.YtmnemjhkmllniaaGreatDoorzGl
namespace Go.Proofs.YtmnemjhkmllniaaGreatDoor
open Go.ChangeShapes Go.WideShapes Go.ChangeAt Go.RowKit

theorem ld_one {l : List (String × DataW Unit)} {W : World} {n : String} {d : DataW Unit} (e : l.filter (fun x => x.1 == n) = [(n, d)]) (h : laidMetH Tryz.prog l W) : laidMetH Tryz.prog [(n, d)] W := e ▸ laidMetH.filter _ h
theorem gTz : Tryz.prog.globalNamed "math/bits.deBruijn64tab" = some 1 := by kernel_rfl
theorem gTzT : (Tryz.prog.globals[1]?).map (·.type) = some 115 := by kernel_rfl
theorem gPowT : (Tryz.prog.globals[2]?).map (·.type) = some 134 := by kernel_rfl
theorem cTz : Tryz.prog.cellsOf 115 = 64 := by kernel_rfl
theorem cPow : Tryz.prog.cellsOf 134 = 20 := by kernel_rfl
theorem cU8 : Tryz.prog.cellsOf 5 = 1 := by kernel_rfl
theorem cU64 : Tryz.prog.cellsOf 23 = 1 := by kernel_rfl
theorem tz_of {W : World} (h : laidMetH Tryz.prog [("math/bits.deBruijn64tab", Rows.laid_math_bits_deBruijn64tab)] W) : TabOk W := fun k hk => by
  have := (Lib.tabIs_of_head (zs := Lib.deBruijn64tab.map Int.ofNat) (rest := []) gTz gTzT Tryz.underlying115 Tryz.underlying5 cU8 cTz h).cell gTz k (by simpa [Lib.deBruijn64tab] using hk)
  rw [this]
  have e : ∀ k, k < 64 → (Lib.deBruijn64tab.map Int.ofNat).getD k 0 = ((Lib.deBruijn64tab.getD k 0 : Nat) : Int) := by decide +kernel
  rw [e k hk]
theorem pow_of {W : World} (h : laidMetH Tryz.prog [("internal/strconv.uint64pow10", Rows.laid_internal_strconv_uint64pow10)] W) : Lib.TabIs Tryz.prog W "internal/strconv.uint64pow10" .u64 Lib.pow10Tab :=
  Lib.tabIs_of_head (rest := []) gPow gPowT Tryz.underlying134 Tryz.underlying23 cU64 cPow h
theorem gEs : Tryz.prog.globalNamed "strconv.ErrSyntax" = some 3 := by kernel_rfl
theorem gEr : Tryz.prog.globalNamed "strconv.ErrRange" = some 4 := by kernel_rfl
theorem gEsT : (Tryz.prog.globals[3]?).map (·.type) = some 105 := by kernel_rfl
theorem gErT : (Tryz.prog.globals[4]?).map (·.type) = some 105 := by kernel_rfl
theorem cErrS : Tryz.prog.cellsOf 148 = 1 := by kernel_rfl
theorem cStr : Tryz.prog.cellsOf 9 = 1 := by kernel_rfl
theorem starErr : "*" ++ "errors.errorString" = "*errors.errorString" := by decide
theorem rowErr (u : TypeId) (h : Tryz.prog.typeName? 3 u = some "*errors.errorString") : u = 146 :=
  typeName_ptr_named (nm := "errors.errorString") (by rw [starErr]; kernel_rfl) (by kernel_rfl) (by decide) u (by rw [starErr]; exact h)
theorem es_of {W : World} (h : laidMetH Tryz.prog [("strconv.ErrSyntax", Rows.laid_strconv_ErrSyntax)] W) : ErrIs W 3 := by
  obtain ⟨a, s, hv, _⟩ := laid_sentinel (r := []) h gEs gEsT Tryz.underlying105 rowErr Tryz.underlying146 Tryz.underlying148 rfl rfl Tryz.underlying9 cErrS cStr
  exact ⟨_, by have h0 := World.var?_cell gEs hv 0; simpa using h0, Or.inr ⟨_, _, rfl⟩⟩
theorem er_of {W : World} (h : laidMetH Tryz.prog [("strconv.ErrRange", Rows.laid_strconv_ErrRange)] W) : ErrIs W 4 := by
  obtain ⟨a, s, hv, _⟩ := laid_sentinel (r := []) h gEr gErT Tryz.underlying105 rowErr Tryz.underlying146 Tryz.underlying148 rfl rfl Tryz.underlying9 cErrS cStr
  exact ⟨_, by have h0 := World.var?_cell gEr hv 0; simpa using h0, Or.inr ⟨_, _, rfl⟩⟩
theorem ml_of {W : World} (h : W.ShapedOpen Tryz.prog) : ∃ m : Int, W.cell? ⟨0, 0, none⟩ = some (.int .i64 m) :=
  cell_of_shapedOpen_int (zero := #[.int .i64 0]) h (of_decide_eq_true (by kernel_rfl)) (by kernel_rfl) rfl (by kernel_rfl) (by kernel_rfl) Tryz.underlying3
theorem gl_of {l : List (String × DataW Unit)} {W : World} (h : laidMetH Tryz.prog l W) (hS : W.ShapedOpen Tryz.prog)
    (e1 : l.filter (fun x => x.1 == "math/bits.deBruijn64tab") = [("math/bits.deBruijn64tab", Rows.laid_math_bits_deBruijn64tab)])
    (e2 : l.filter (fun x => x.1 == "internal/strconv.uint64pow10") = [("internal/strconv.uint64pow10", Rows.laid_internal_strconv_uint64pow10)])
    (e3 : l.filter (fun x => x.1 == "strconv.ErrSyntax") = [("strconv.ErrSyntax", Rows.laid_strconv_ErrSyntax)])
    (e4 : l.filter (fun x => x.1 == "strconv.ErrRange") = [("strconv.ErrRange", Rows.laid_strconv_ErrRange)]) : Gl W :=
  ⟨ml_of hS, es_of (ld_one e3 h), er_of (ld_one e4 h), pow_of (ld_one e2 h), tz_of (ld_one e1 h)⟩
end Go.Proofs.YtmnemjhkmllniaaGreatDoor
