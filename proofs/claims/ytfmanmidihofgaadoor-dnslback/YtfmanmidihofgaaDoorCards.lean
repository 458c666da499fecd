/-
  DERIVED. GIVEN WITH THE SEED: THE CARDS: each row of YtfmanmidihofgaaDoorRows.lean that lists a variable, with what it lists TIED to the program's text (the seventh form; the later family's looks); each row that meets fmt, with fmt's text TOLD by the authors' own Lean function (tested against real Go, not proved from fmt's source: count such statements apart). THE CARD IS WHAT COUNTS. Prove the row's statement (the work); the ties are given (YtfmanmidihofgaaDoorTie.lean); close each card by the builder's one call (the guide's Derived/Test/ToyasCard.lean, 'card_holds'). Laid BY PROGRAM, IN A SANDBOX (cutbox-door.mjs). By AI agents, Wed Nov 11 2026. No macro, syntax, notation, axiom, sorry.
-/
import Derived.Test.YtfmanmidihofgaaDoorRows
import GoSem.ClaimSeven
namespace Go.Proofs.YtfmanmidihofgaaDoor
namespace Rows

/-- THE TIED CARD OF 'glebelaw10.DnslForms'. -/
def dnslFormsCard : Claim7 := { stood := { row := dnslFormsRow, standIns := [], harness := (true, "a4a41742fd9466ae51c9580312669595bbcd93216f041045aca24bd217afa799"), looks := false }, kinds := [], alts := [], laidByText := true, laidKinds := [.data, .sentinel, .pinned], laidTests := true, laidLooks := .later }
def DnslFormsCardSaid : Prop := Claim7.holds Tryd.pinned (.plain (OpenSpec.ofChange dnslFormsSpec)) dnslFormsCard

/-- THE TIED CARD OF 'glebelaw10.DnslLong'. -/
def dnslLongCard : Claim7 := { stood := { row := dnslLongRow, standIns := [], harness := (true, "a4a41742fd9466ae51c9580312669595bbcd93216f041045aca24bd217afa799"), looks := false }, kinds := [], alts := [], laidByText := true, laidKinds := [.data, .sentinel, .pinned], laidTests := true, laidLooks := .later }
def DnslLongCardSaid : Prop := Claim7.holds Tryd.pinned (.plain (OpenSpec.ofChange dnslLongSpec)) dnslLongCard

/-- THE TIED CARD OF 'glebelaw10.DnslTells'. -/
def dnslTellsCard : Claim7 := { stood := { row := dnslTellsRow, standIns := [], harness := (true, "a4a41742fd9466ae51c9580312669595bbcd93216f041045aca24bd217afa799"), looks := false }, kinds := [], alts := [], laidByText := true, laidKinds := [.data, .sentinel, .pinned], laidTests := true, laidLooks := .later }
def DnslTellsCardSaid : Prop := Claim7.holds Tryd.pinned (.plain (OpenSpec.ofChange dnslTellsSpec)) dnslTellsCard

/-- THE TIED CARD OF 'glebelaw10.DnslBack'. -/
def dnslBackCard : Claim7 := { stood := { row := dnslBackRow, standIns := [], harness := (true, "a4a41742fd9466ae51c9580312669595bbcd93216f041045aca24bd217afa799"), looks := false }, kinds := [], alts := [], laidByText := true, laidKinds := [.data, .sentinel, .pinned], laidTests := true, laidLooks := .later }
def DnslBackCardSaid : Prop := Claim7.holds Tryd.pinned (.plain (OpenSpec.ofChange dnslBackSpec)) dnslBackCard

/-- THE SECOND FORM's CARD OF 'glebelaw10.DnslForms'. -/
def dnslFormsUptoCard : Claim7 := { stood := { row := dnslFormsUptoRow, standIns := [], harness := (true, "a4a41742fd9466ae51c9580312669595bbcd93216f041045aca24bd217afa799"), looks := false }, kinds := [], alts := [], laidByText := true, laidKinds := [.data, .sentinel, .pinned], laidTests := true, laidLooks := .later }
def DnslFormsUptoCardSaid : Prop := Claim7.holds Tryd.pinned (.plain (OpenSpec.upto dnslFormsSpec)) dnslFormsUptoCard

/-- THE SECOND FORM's CARD OF 'glebelaw10.DnslLong'. -/
def dnslLongUptoCard : Claim7 := { stood := { row := dnslLongUptoRow, standIns := [], harness := (true, "a4a41742fd9466ae51c9580312669595bbcd93216f041045aca24bd217afa799"), looks := false }, kinds := [], alts := [], laidByText := true, laidKinds := [.data, .sentinel, .pinned], laidTests := true, laidLooks := .later }
def DnslLongUptoCardSaid : Prop := Claim7.holds Tryd.pinned (.plain (OpenSpec.upto dnslLongSpec)) dnslLongUptoCard

/-- THE SECOND FORM's CARD OF 'glebelaw10.DnslTells'. -/
def dnslTellsUptoCard : Claim7 := { stood := { row := dnslTellsUptoRow, standIns := [], harness := (true, "a4a41742fd9466ae51c9580312669595bbcd93216f041045aca24bd217afa799"), looks := false }, kinds := [], alts := [], laidByText := true, laidKinds := [.data, .sentinel, .pinned], laidTests := true, laidLooks := .later }
def DnslTellsUptoCardSaid : Prop := Claim7.holds Tryd.pinned (.plain (OpenSpec.upto dnslTellsSpec)) dnslTellsUptoCard

/-- THE SECOND FORM's CARD OF 'glebelaw10.DnslBack'. -/
def dnslBackUptoCard : Claim7 := { stood := { row := dnslBackUptoRow, standIns := [], harness := (true, "a4a41742fd9466ae51c9580312669595bbcd93216f041045aca24bd217afa799"), looks := false }, kinds := [], alts := [], laidByText := true, laidKinds := [.data, .sentinel, .pinned], laidTests := true, laidLooks := .later }
def DnslBackUptoCardSaid : Prop := Claim7.holds Tryd.pinned (.plain (OpenSpec.upto dnslBackSpec)) dnslBackUptoCard
end Rows
end Go.Proofs.YtfmanmidihofgaaDoor
