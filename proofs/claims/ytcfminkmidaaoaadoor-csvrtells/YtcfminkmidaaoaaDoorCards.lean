/-
  DERIVED. GIVEN WITH THE SEED: THE CARDS: each row of YtcfminkmidaaoaaDoorRows.lean that lists a variable, with what it lists TIED to the program's text (the seventh form; the later family's looks); each row that meets fmt, with fmt's text TOLD by the authors' own Lean function (tested against real Go, not proved from fmt's source: count such statements apart). THE CARD IS WHAT COUNTS. Prove the row's statement (the work); the ties are given (YtcfminkmidaaoaaDoorTie.lean); close each card by the builder's one call (the guide's Derived/Test/ToyasCard.lean, 'card_holds'). Laid BY PROGRAM, IN A SANDBOX (cutbox-door.mjs). By AI agents, Wed Nov 11 2026. No macro, syntax, notation, axiom, sorry.
-/
import Derived.Test.YtcfminkmidaaoaaDoorRows
import GoSem.ClaimSeven
namespace Go.Proofs.YtcfminkmidaaoaaDoor
namespace Rows

/-- THE TIED CARD OF 'glebelaw9.CsvrForms'. -/
def csvrFormsCard : Claim7 := { stood := { row := csvrFormsRow, standIns := [], harness := (true, "f62a3f52d9658d3812e9fcb14c57d23276240166b93e71c0ae9c3a93f8fdfd62"), looks := false }, kinds := [], alts := [], laidByText := true, laidKinds := [.data, .sentinel, .pinned], laidTests := true, laidLooks := .later }
def CsvrFormsCardSaid : Prop := Claim7.holds Tryd.pinned (.plain (OpenSpec.ofChange csvrFormsSpec)) csvrFormsCard

/-- THE TIED CARD OF 'glebelaw9.CsvrLong'. -/
def csvrLongCard : Claim7 := { stood := { row := csvrLongRow, standIns := [], harness := (true, "f62a3f52d9658d3812e9fcb14c57d23276240166b93e71c0ae9c3a93f8fdfd62"), looks := false }, kinds := [], alts := [], laidByText := true, laidKinds := [.data, .sentinel, .pinned], laidTests := true, laidLooks := .later }
def CsvrLongCardSaid : Prop := Claim7.holds Tryd.pinned (.plain (OpenSpec.ofChange csvrLongSpec)) csvrLongCard

/-- THE TIED CARD OF 'glebelaw9.CsvrEnds'. -/
def csvrEndsCard : Claim7 := { stood := { row := csvrEndsRow, standIns := [], harness := (true, "f62a3f52d9658d3812e9fcb14c57d23276240166b93e71c0ae9c3a93f8fdfd62"), looks := false }, kinds := [], alts := [], laidByText := true, laidKinds := [.data, .sentinel, .pinned], laidTests := true, laidLooks := .later }
def CsvrEndsCardSaid : Prop := Claim7.holds Tryd.pinned (.plain (OpenSpec.ofChange csvrEndsSpec)) csvrEndsCard

/-- THE TIED CARD OF 'glebelaw9.CsvrTells'. -/
def csvrTellsCard : Claim7 := { stood := { row := csvrTellsRow, standIns := [], harness := (true, "f62a3f52d9658d3812e9fcb14c57d23276240166b93e71c0ae9c3a93f8fdfd62"), looks := false }, kinds := [], alts := [], laidByText := true, laidKinds := [.data, .sentinel, .pinned], laidTests := true, laidLooks := .later }
def CsvrTellsCardSaid : Prop := Claim7.holds Tryd.pinned (.plain (OpenSpec.ofChange csvrTellsSpec)) csvrTellsCard

/-- THE TIED CARD OF 'glebelaw9.CsvrBack'. -/
def csvrBackCard : Claim7 := { stood := { row := csvrBackRow, standIns := [], harness := (true, "f62a3f52d9658d3812e9fcb14c57d23276240166b93e71c0ae9c3a93f8fdfd62"), looks := false }, kinds := [], alts := [], laidByText := true, laidKinds := [.data, .sentinel, .pinned], laidTests := true, laidLooks := .later }
def CsvrBackCardSaid : Prop := Claim7.holds Tryd.pinned (.plain (OpenSpec.ofChange csvrBackSpec)) csvrBackCard

/-- THE SECOND FORM's CARD OF 'glebelaw9.CsvrForms'. -/
def csvrFormsUptoCard : Claim7 := { stood := { row := csvrFormsUptoRow, standIns := [], harness := (true, "f62a3f52d9658d3812e9fcb14c57d23276240166b93e71c0ae9c3a93f8fdfd62"), looks := false }, kinds := [], alts := [], laidByText := true, laidKinds := [.data, .sentinel, .pinned], laidTests := true, laidLooks := .later }
def CsvrFormsUptoCardSaid : Prop := Claim7.holds Tryd.pinned (.plain (OpenSpec.upto csvrFormsSpec)) csvrFormsUptoCard

/-- THE SECOND FORM's CARD OF 'glebelaw9.CsvrLong'. -/
def csvrLongUptoCard : Claim7 := { stood := { row := csvrLongUptoRow, standIns := [], harness := (true, "f62a3f52d9658d3812e9fcb14c57d23276240166b93e71c0ae9c3a93f8fdfd62"), looks := false }, kinds := [], alts := [], laidByText := true, laidKinds := [.data, .sentinel, .pinned], laidTests := true, laidLooks := .later }
def CsvrLongUptoCardSaid : Prop := Claim7.holds Tryd.pinned (.plain (OpenSpec.upto csvrLongSpec)) csvrLongUptoCard

/-- THE SECOND FORM's CARD OF 'glebelaw9.CsvrEnds'. -/
def csvrEndsUptoCard : Claim7 := { stood := { row := csvrEndsUptoRow, standIns := [], harness := (true, "f62a3f52d9658d3812e9fcb14c57d23276240166b93e71c0ae9c3a93f8fdfd62"), looks := false }, kinds := [], alts := [], laidByText := true, laidKinds := [.data, .sentinel, .pinned], laidTests := true, laidLooks := .later }
def CsvrEndsUptoCardSaid : Prop := Claim7.holds Tryd.pinned (.plain (OpenSpec.upto csvrEndsSpec)) csvrEndsUptoCard

/-- THE SECOND FORM's CARD OF 'glebelaw9.CsvrTells'. -/
def csvrTellsUptoCard : Claim7 := { stood := { row := csvrTellsUptoRow, standIns := [], harness := (true, "f62a3f52d9658d3812e9fcb14c57d23276240166b93e71c0ae9c3a93f8fdfd62"), looks := false }, kinds := [], alts := [], laidByText := true, laidKinds := [.data, .sentinel, .pinned], laidTests := true, laidLooks := .later }
def CsvrTellsUptoCardSaid : Prop := Claim7.holds Tryd.pinned (.plain (OpenSpec.upto csvrTellsSpec)) csvrTellsUptoCard

/-- THE SECOND FORM's CARD OF 'glebelaw9.CsvrBack'. -/
def csvrBackUptoCard : Claim7 := { stood := { row := csvrBackUptoRow, standIns := [], harness := (true, "f62a3f52d9658d3812e9fcb14c57d23276240166b93e71c0ae9c3a93f8fdfd62"), looks := false }, kinds := [], alts := [], laidByText := true, laidKinds := [.data, .sentinel, .pinned], laidTests := true, laidLooks := .later }
def CsvrBackUptoCardSaid : Prop := Claim7.holds Tryd.pinned (.plain (OpenSpec.upto csvrBackSpec)) csvrBackUptoCard
end Rows
end Go.Proofs.YtcfminkmidaaoaaDoor
