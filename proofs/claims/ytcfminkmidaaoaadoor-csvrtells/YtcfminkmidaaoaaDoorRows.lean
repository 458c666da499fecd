/-
  NARROWER THAN 'FOR EVERY INPUT', by the rows' own cells (each row's printed sentence says how): CsvrForms: laid · CsvrLong: laid · CsvrEnds: laid · CsvrTells: laid · CsvrBack: laid.
  DERIVED. THE GIVEN ROWS OF THIS SEAT. 5 by the template 'for every input the law returns true; each argument reads behind the call as it read before'; 0 by the template 'total and deterministic' (their statements: YtcfminkmidaaoaaDoorTotals.lean).
  GIVEN WITH THE SEED: the statements are not yours to turn. If you find one false, say at which input.
  Laid BY PROGRAM, IN A SANDBOX (cutbox-rows.mjs): the forced cells as the released guide's own fill.sh prints them over the translation c76486eb16acb324… (all of the seat's roots in one cut). By AI agents, Wed Nov 11 2026. No macro, syntax, notation, axiom, sorry.
-/
import Derived.Test.YtcfminkmidaaoaaDoorChecked
import GoSem.PinnedTables
import GoSem.Claim
import GoSem.ClaimJoined
import GoSem.ClaimMapViews
import Derived.JoinedTies
import Derived.KernelRfl
namespace Go.Proofs.YtcfminkmidaaoaaDoor
/- THE CELL 'sum', in the pinned program and in every row, IS THE sha256 OF THE DUMP (.gsa) THAT YtcfminkmidaaoaaDoorProg.lean LOADS. Nothing in Lean hashes anything: it is a label: what it is worth is what the hold of that sum in a sandbox is worth. -/
noncomputable def Tryd.pinned : Pinned := { name := "ytcfminkmidaaoaadoor", sum := "c76486eb16acb324f215d43a51c396b2eaba0348f05a2ea5d39b2a29fd0bc26e", checked := Tryd.checked }
namespace Rows
def none {H : Type} : Left H := { results := [], args := [] }

/- WHAT THE LISTED PACKAGE-LEVEL VARIABLES READ AS WHEN THE CALL BEGINS. Each datum BY PROGRAM (the guide's laid-datum.mjs) off the statement by which the dump's own 'gosem.cut.vars' lays the variable. In a bare row this is a premise. The card (YtcfminkmidaaoaaDoorCards.lean) ties it to the program's text. -/
def laid_unicode_utf8_acceptRanges {H : Type} : DataW H := .agg [.agg [.lit (.int .u8 128), .lit (.int .u8 191)], .agg [.lit (.int .u8 160), .lit (.int .u8 191)], .agg [.lit (.int .u8 128), .lit (.int .u8 159)], .agg [.lit (.int .u8 144), .lit (.int .u8 191)], .agg [.lit (.int .u8 128), .lit (.int .u8 143)], .agg [.lit (.int .u8 0), .lit (.int .u8 0)], .agg [.lit (.int .u8 0), .lit (.int .u8 0)], .agg [.lit (.int .u8 0), .lit (.int .u8 0)], .agg [.lit (.int .u8 0), .lit (.int .u8 0)], .agg [.lit (.int .u8 0), .lit (.int .u8 0)], .agg [.lit (.int .u8 0), .lit (.int .u8 0)], .agg [.lit (.int .u8 0), .lit (.int .u8 0)], .agg [.lit (.int .u8 0), .lit (.int .u8 0)], .agg [.lit (.int .u8 0), .lit (.int .u8 0)], .agg [.lit (.int .u8 0), .lit (.int .u8 0)], .agg [.lit (.int .u8 0), .lit (.int .u8 0)]]
def laid_bytes_ErrTooLarge {H : Type} : DataW H := .iface "*errors.errorString" (.ptr (.agg [.lit (.string [98, 121, 116, 101, 115, 46, 66, 117, 102, 102, 101, 114, 58, 32, 116, 111, 111, 32, 108, 97, 114, 103, 101])]))
/-- One of Go's own tables, pinned by name: the form's constant. -/
def laid_unicode_utf8_first : DataW Unit := Go.Pinned.utf8First

/-- 'glebelaw9.CsvrForms': WHATEVER THE INPUT: true; the input reads as it did. -/
def csvrFormsSpec : ChangeSpec := { name := "csvrForms", fn := fun _ => fun
  | [d] => { results := [.lit (.bool true)], args := [d] }
  | _ => none }
def csvrFormsRow : OpenClaim := { program := "ytcfminkmidaaoaadoor", sum := "c76486eb16acb324f215d43a51c396b2eaba0348f05a2ea5d39b2a29fd0bc26e", func := "glebe/glebelaw9.CsvrForms", spec := "csvrForms", inPlace := ["internal/bytealg.IndexByteString", "internal/bytealg.IndexString", "internal/bytealg.CountString", "internal/abi.NoEscape", "internal/bytealg.MakeNoZero"], named := ["bytes.ErrTooLarge", "internal/bytealg.MaxLen", "unicode/utf8.first", "unicode/utf8.acceptRanges"], apart := false, laid := [("unicode/utf8.acceptRanges", laid_unicode_utf8_acceptRanges), ("bytes.ErrTooLarge", laid_bytes_ErrTooLarge), ("unicode/utf8.first", laid_unicode_utf8_first)] }
def CsvrFormsSaid : Prop := csvrFormsRow.holds Tryd.pinned (OpenSpec.ofChange csvrFormsSpec)

/-- ITS FALSE NEIGHBOUR: 'it returns false'. Refute it at one input. -/
def csvrFormsWrong : ChangeSpec := { name := "csvrForms", fn := fun _ => fun
  | [d] => { results := [.lit (.bool false)], args := [d] }
  | _ => none }
def CsvrFormsWrongFalsely : Prop := csvrFormsRow.holds Tryd.pinned (OpenSpec.ofChange csvrFormsWrong)

/-- 'glebelaw9.CsvrLong': WHATEVER THE INPUT: true; the input reads as it did. -/
def csvrLongSpec : ChangeSpec := { name := "csvrLong", fn := fun _ => fun
  | [d1, d2] => { results := [.lit (.bool true)], args := [d1, d2] }
  | _ => none }
def csvrLongRow : OpenClaim := { program := "ytcfminkmidaaoaadoor", sum := "c76486eb16acb324f215d43a51c396b2eaba0348f05a2ea5d39b2a29fd0bc26e", func := "glebe/glebelaw9.CsvrLong", spec := "csvrLong", inPlace := ["internal/bytealg.IndexByteString", "internal/bytealg.IndexString", "internal/bytealg.CountString", "internal/abi.NoEscape", "internal/bytealg.MakeNoZero"], named := ["bytes.ErrTooLarge", "internal/bytealg.MaxLen", "unicode/utf8.first", "unicode/utf8.acceptRanges"], apart := false, laid := [("unicode/utf8.acceptRanges", laid_unicode_utf8_acceptRanges), ("bytes.ErrTooLarge", laid_bytes_ErrTooLarge), ("unicode/utf8.first", laid_unicode_utf8_first)] }
def CsvrLongSaid : Prop := csvrLongRow.holds Tryd.pinned (OpenSpec.ofChange csvrLongSpec)

/-- ITS FALSE NEIGHBOUR: 'it returns false'. Refute it at one input. -/
def csvrLongWrong : ChangeSpec := { name := "csvrLong", fn := fun _ => fun
  | [d1, d2] => { results := [.lit (.bool false)], args := [d1, d2] }
  | _ => none }
def CsvrLongWrongFalsely : Prop := csvrLongRow.holds Tryd.pinned (OpenSpec.ofChange csvrLongWrong)

/-- 'glebelaw9.CsvrEnds': WHATEVER THE INPUT: true; the input reads as it did. -/
def csvrEndsSpec : ChangeSpec := { name := "csvrEnds", fn := fun _ => fun
  | [d1, d2, d3] => { results := [.lit (.bool true)], args := [d1, d2, d3] }
  | _ => none }
def csvrEndsRow : OpenClaim := { program := "ytcfminkmidaaoaadoor", sum := "c76486eb16acb324f215d43a51c396b2eaba0348f05a2ea5d39b2a29fd0bc26e", func := "glebe/glebelaw9.CsvrEnds", spec := "csvrEnds", inPlace := ["internal/bytealg.IndexByteString", "internal/bytealg.IndexString", "internal/bytealg.CountString", "internal/abi.NoEscape", "internal/bytealg.MakeNoZero"], named := ["bytes.ErrTooLarge", "internal/bytealg.MaxLen", "unicode/utf8.first", "unicode/utf8.acceptRanges"], apart := false, laid := [("unicode/utf8.acceptRanges", laid_unicode_utf8_acceptRanges), ("bytes.ErrTooLarge", laid_bytes_ErrTooLarge), ("unicode/utf8.first", laid_unicode_utf8_first)] }
def CsvrEndsSaid : Prop := csvrEndsRow.holds Tryd.pinned (OpenSpec.ofChange csvrEndsSpec)

/-- ITS FALSE NEIGHBOUR: 'it returns false'. Refute it at one input. -/
def csvrEndsWrong : ChangeSpec := { name := "csvrEnds", fn := fun _ => fun
  | [d1, d2, d3] => { results := [.lit (.bool false)], args := [d1, d2, d3] }
  | _ => none }
def CsvrEndsWrongFalsely : Prop := csvrEndsRow.holds Tryd.pinned (OpenSpec.ofChange csvrEndsWrong)

/-- 'glebelaw9.CsvrTells': WHATEVER THE INPUT: true; the input reads as it did. -/
def csvrTellsSpec : ChangeSpec := { name := "csvrTells", fn := fun _ => fun
  | [d1, d2, d3, d4] => { results := [.lit (.bool true)], args := [d1, d2, d3, d4] }
  | _ => none }
def csvrTellsRow : OpenClaim := { program := "ytcfminkmidaaoaadoor", sum := "c76486eb16acb324f215d43a51c396b2eaba0348f05a2ea5d39b2a29fd0bc26e", func := "glebe/glebelaw9.CsvrTells", spec := "csvrTells", inPlace := ["internal/bytealg.IndexByteString", "internal/bytealg.IndexString", "internal/bytealg.CountString", "internal/abi.NoEscape", "internal/bytealg.MakeNoZero"], named := ["bytes.ErrTooLarge", "internal/bytealg.MaxLen", "unicode/utf8.first", "unicode/utf8.acceptRanges"], apart := false, laid := [("unicode/utf8.acceptRanges", laid_unicode_utf8_acceptRanges), ("bytes.ErrTooLarge", laid_bytes_ErrTooLarge), ("unicode/utf8.first", laid_unicode_utf8_first)] }
def CsvrTellsSaid : Prop := csvrTellsRow.holds Tryd.pinned (OpenSpec.ofChange csvrTellsSpec)

/-- ITS FALSE NEIGHBOUR: 'it returns false'. Refute it at one input. -/
def csvrTellsWrong : ChangeSpec := { name := "csvrTells", fn := fun _ => fun
  | [d1, d2, d3, d4] => { results := [.lit (.bool false)], args := [d1, d2, d3, d4] }
  | _ => none }
def CsvrTellsWrongFalsely : Prop := csvrTellsRow.holds Tryd.pinned (OpenSpec.ofChange csvrTellsWrong)

/-- 'glebelaw9.CsvrBack': WHATEVER THE INPUT: true; the input reads as it did. -/
def csvrBackSpec : ChangeSpec := { name := "csvrBack", fn := fun _ => fun
  | [d1, d2] => { results := [.lit (.bool true)], args := [d1, d2] }
  | _ => none }
def csvrBackRow : OpenClaim := { program := "ytcfminkmidaaoaadoor", sum := "c76486eb16acb324f215d43a51c396b2eaba0348f05a2ea5d39b2a29fd0bc26e", func := "glebe/glebelaw9.CsvrBack", spec := "csvrBack", inPlace := ["internal/bytealg.IndexByteString", "internal/bytealg.IndexString", "internal/bytealg.CountString", "internal/abi.NoEscape", "internal/bytealg.MakeNoZero"], named := ["bytes.ErrTooLarge", "internal/bytealg.MaxLen", "unicode/utf8.first", "unicode/utf8.acceptRanges"], apart := false, laid := [("unicode/utf8.acceptRanges", laid_unicode_utf8_acceptRanges), ("bytes.ErrTooLarge", laid_bytes_ErrTooLarge), ("unicode/utf8.first", laid_unicode_utf8_first)] }
def CsvrBackSaid : Prop := csvrBackRow.holds Tryd.pinned (OpenSpec.ofChange csvrBackSpec)

/-- ITS FALSE NEIGHBOUR: 'it returns false'. Refute it at one input. -/
def csvrBackWrong : ChangeSpec := { name := "csvrBack", fn := fun _ => fun
  | [d1, d2] => { results := [.lit (.bool false)], args := [d1, d2] }
  | _ => none }
def CsvrBackWrongFalsely : Prop := csvrBackRow.holds Tryd.pinned (OpenSpec.ofChange csvrBackWrong)

/- THE SECOND FORM. 'bulk': how many values and letters a reading holds, each counted each time it is reached (what is shared counts as often as it is met; a slice's spare places count too). A statement '..UptoSaid' is the law's where the arguments, and the package variables that the reading takes, are together of bulk at most 1048576: NARROWER than '..Said'. Prove '..Said' where nothing that the law and all that it calls make is longer than what came in: it says more and counts as full. Else prove '..UptoSaid'. A law counts once. -/
mutual
def uptoBulk {H : Type} : DataW H → Nat
  | .lit (.string bytes) => bytes.length + 1
  | .lit _ => 1
  | .nil => 1
  | .ptr d => uptoBulk d + 1
  | .slice elems spare => uptoBulkAll elems + uptoBulkAll spare + 1
  | .agg parts => uptoBulkAll parts + 1
  | .iface _ d => uptoBulk d + 1
  | .map entries => uptoBulkEntries entries + 1
  | .held _ => 1
def uptoBulkAll {H : Type} : List (DataW H) → Nat
  | [] => 0
  | d :: r => uptoBulk d + uptoBulkAll r
def uptoBulkEntries {H : Type} : List (Lit × DataW H) → Nat
  | [] => 0
  | x :: r => uptoBulkEntry x + uptoBulkEntries r
def uptoBulkEntry {H : Type} : Lit × DataW H → Nat
  | (.string bytes, d) => bytes.length + uptoBulk d + 1
  | (_, d) => uptoBulk d + 1
 end
def uptoSmall : (H : Type) → List (DataW H) → Bool := fun _ ds => decide (uptoBulkAll ds ≤ 1048576)
def OpenSpec.upto (s : _root_.Go.ChangeSpec) : _root_.Go.OpenSpec := { _root_.Go.OpenSpec.ofChange s with cond := some uptoSmall }

/-- 'glebelaw9.CsvrForms', WHERE WHAT IT READS IS OF BULK AT MOST 1048576: true; the input reads as it did. -/
def csvrFormsUptoRow : OpenClaim := { program := "ytcfminkmidaaoaadoor", sum := "c76486eb16acb324f215d43a51c396b2eaba0348f05a2ea5d39b2a29fd0bc26e", func := "glebe/glebelaw9.CsvrForms", spec := "csvrForms", inPlace := ["internal/bytealg.IndexByteString", "internal/bytealg.IndexString", "internal/bytealg.CountString", "internal/abi.NoEscape", "internal/bytealg.MakeNoZero"], named := ["bytes.ErrTooLarge", "internal/bytealg.MaxLen", "unicode/utf8.first", "unicode/utf8.acceptRanges"], apart := false, laid := [("unicode/utf8.acceptRanges", laid_unicode_utf8_acceptRanges), ("bytes.ErrTooLarge", laid_bytes_ErrTooLarge), ("unicode/utf8.first", laid_unicode_utf8_first)], narrowed := true }
def CsvrFormsUptoSaid : Prop := csvrFormsUptoRow.holds Tryd.pinned (OpenSpec.upto csvrFormsSpec)

/-- 'glebelaw9.CsvrLong', WHERE WHAT IT READS IS OF BULK AT MOST 1048576: true; the input reads as it did. -/
def csvrLongUptoRow : OpenClaim := { program := "ytcfminkmidaaoaadoor", sum := "c76486eb16acb324f215d43a51c396b2eaba0348f05a2ea5d39b2a29fd0bc26e", func := "glebe/glebelaw9.CsvrLong", spec := "csvrLong", inPlace := ["internal/bytealg.IndexByteString", "internal/bytealg.IndexString", "internal/bytealg.CountString", "internal/abi.NoEscape", "internal/bytealg.MakeNoZero"], named := ["bytes.ErrTooLarge", "internal/bytealg.MaxLen", "unicode/utf8.first", "unicode/utf8.acceptRanges"], apart := false, laid := [("unicode/utf8.acceptRanges", laid_unicode_utf8_acceptRanges), ("bytes.ErrTooLarge", laid_bytes_ErrTooLarge), ("unicode/utf8.first", laid_unicode_utf8_first)], narrowed := true }
def CsvrLongUptoSaid : Prop := csvrLongUptoRow.holds Tryd.pinned (OpenSpec.upto csvrLongSpec)

/-- 'glebelaw9.CsvrEnds', WHERE WHAT IT READS IS OF BULK AT MOST 1048576: true; the input reads as it did. -/
def csvrEndsUptoRow : OpenClaim := { program := "ytcfminkmidaaoaadoor", sum := "c76486eb16acb324f215d43a51c396b2eaba0348f05a2ea5d39b2a29fd0bc26e", func := "glebe/glebelaw9.CsvrEnds", spec := "csvrEnds", inPlace := ["internal/bytealg.IndexByteString", "internal/bytealg.IndexString", "internal/bytealg.CountString", "internal/abi.NoEscape", "internal/bytealg.MakeNoZero"], named := ["bytes.ErrTooLarge", "internal/bytealg.MaxLen", "unicode/utf8.first", "unicode/utf8.acceptRanges"], apart := false, laid := [("unicode/utf8.acceptRanges", laid_unicode_utf8_acceptRanges), ("bytes.ErrTooLarge", laid_bytes_ErrTooLarge), ("unicode/utf8.first", laid_unicode_utf8_first)], narrowed := true }
def CsvrEndsUptoSaid : Prop := csvrEndsUptoRow.holds Tryd.pinned (OpenSpec.upto csvrEndsSpec)

/-- 'glebelaw9.CsvrTells', WHERE WHAT IT READS IS OF BULK AT MOST 1048576: true; the input reads as it did. -/
def csvrTellsUptoRow : OpenClaim := { program := "ytcfminkmidaaoaadoor", sum := "c76486eb16acb324f215d43a51c396b2eaba0348f05a2ea5d39b2a29fd0bc26e", func := "glebe/glebelaw9.CsvrTells", spec := "csvrTells", inPlace := ["internal/bytealg.IndexByteString", "internal/bytealg.IndexString", "internal/bytealg.CountString", "internal/abi.NoEscape", "internal/bytealg.MakeNoZero"], named := ["bytes.ErrTooLarge", "internal/bytealg.MaxLen", "unicode/utf8.first", "unicode/utf8.acceptRanges"], apart := false, laid := [("unicode/utf8.acceptRanges", laid_unicode_utf8_acceptRanges), ("bytes.ErrTooLarge", laid_bytes_ErrTooLarge), ("unicode/utf8.first", laid_unicode_utf8_first)], narrowed := true }
def CsvrTellsUptoSaid : Prop := csvrTellsUptoRow.holds Tryd.pinned (OpenSpec.upto csvrTellsSpec)

/-- 'glebelaw9.CsvrBack', WHERE WHAT IT READS IS OF BULK AT MOST 1048576: true; the input reads as it did. -/
def csvrBackUptoRow : OpenClaim := { program := "ytcfminkmidaaoaadoor", sum := "c76486eb16acb324f215d43a51c396b2eaba0348f05a2ea5d39b2a29fd0bc26e", func := "glebe/glebelaw9.CsvrBack", spec := "csvrBack", inPlace := ["internal/bytealg.IndexByteString", "internal/bytealg.IndexString", "internal/bytealg.CountString", "internal/abi.NoEscape", "internal/bytealg.MakeNoZero"], named := ["bytes.ErrTooLarge", "internal/bytealg.MaxLen", "unicode/utf8.first", "unicode/utf8.acceptRanges"], apart := false, laid := [("unicode/utf8.acceptRanges", laid_unicode_utf8_acceptRanges), ("bytes.ErrTooLarge", laid_bytes_ErrTooLarge), ("unicode/utf8.first", laid_unicode_utf8_first)], narrowed := true }
def CsvrBackUptoSaid : Prop := csvrBackUptoRow.holds Tryd.pinned (OpenSpec.upto csvrBackSpec)

end Rows
end Go.Proofs.YtcfminkmidaaoaaDoor
