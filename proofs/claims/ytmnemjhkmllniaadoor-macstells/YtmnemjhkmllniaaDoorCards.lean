/-
  DERIVED. GIVEN WITH THE SEED: THE CARDS: each row of YtmnemjhkmllniaaDoorRows.lean that lists a variable, with what it lists TIED to the program's text (the seventh form; the later family's looks); each row that meets fmt, with fmt's text TOLD by the authors' own Lean function (tested against real Go, not proved from fmt's source: count such statements apart). THE CARD IS WHAT COUNTS. Prove the row's statement (the work); the ties are given (YtmnemjhkmllniaaDoorTie.lean); close each card by the builder's one call (the guide's Derived/Test/ToyasCard.lean, 'card_holds'). Laid BY PROGRAM, IN A SANDBOX (cutbox-door.mjs). By AI agents, Wed Nov 11 2026. No macro, syntax, notation, axiom, sorry.
-/
import Derived.Test.YtmnemjhkmllniaaDoorRows
import GoSem.ClaimSeven
namespace Go.Proofs.YtmnemjhkmllniaaDoor
namespace Rows

/-- THE TIED CARD OF 'glebelaw5.MacsForms'. -/
def macsFormsCard : Claim7 := { stood := { row := macsFormsRow, standIns := [], harness := (true, "b562c1cf86abaf0adfd24acb822c2741b4a11fbb83a8414be1ec0b27837e5f56"), looks := true }, kinds := [], alts := [], laidByText := true, laidKinds := [.data, .data, .data, .sentinel, .sentinel], laidTests := true, laidLooks := .later }
def MacsFormsCardSaid : Prop := Claim7.holds Tryd.pinned (.plain (OpenSpec.ofChange macsFormsSpec)) macsFormsCard

/-- THE TIED CARD OF 'glebelaw5.MacsOne'. -/
def macsOneCard : Claim7 := { stood := { row := macsOneRow, standIns := [], harness := (true, "b562c1cf86abaf0adfd24acb822c2741b4a11fbb83a8414be1ec0b27837e5f56"), looks := true }, kinds := [], alts := [], laidByText := true, laidKinds := [.data, .data, .data, .sentinel, .sentinel], laidTests := true, laidLooks := .later }
def MacsOneCardSaid : Prop := Claim7.holds Tryd.pinned (.plain (OpenSpec.ofChange macsOneSpec)) macsOneCard

/-- THE TIED CARD OF 'glebelaw5.MacsTells'. -/
def macsTellsCard : Claim7 := { stood := { row := macsTellsRow, standIns := [], harness := (true, "b562c1cf86abaf0adfd24acb822c2741b4a11fbb83a8414be1ec0b27837e5f56"), looks := true }, kinds := [], alts := [], laidByText := true, laidKinds := [.data, .data, .data, .sentinel, .sentinel], laidTests := true, laidLooks := .later }
def MacsTellsCardSaid : Prop := Claim7.holds Tryd.pinned (.plain (OpenSpec.ofChange macsTellsSpec)) macsTellsCard

/-- THE SECOND FORM's CARD OF 'glebelaw5.MacsForms'. -/
def macsFormsUptoCard : Claim7 := { stood := { row := macsFormsUptoRow, standIns := [], harness := (true, "b562c1cf86abaf0adfd24acb822c2741b4a11fbb83a8414be1ec0b27837e5f56"), looks := true }, kinds := [], alts := [], laidByText := true, laidKinds := [.data, .data, .data, .sentinel, .sentinel], laidTests := true, laidLooks := .later }
def MacsFormsUptoCardSaid : Prop := Claim7.holds Tryd.pinned (.plain (OpenSpec.upto macsFormsSpec)) macsFormsUptoCard

/-- THE SECOND FORM's CARD OF 'glebelaw5.MacsOne'. -/
def macsOneUptoCard : Claim7 := { stood := { row := macsOneUptoRow, standIns := [], harness := (true, "b562c1cf86abaf0adfd24acb822c2741b4a11fbb83a8414be1ec0b27837e5f56"), looks := true }, kinds := [], alts := [], laidByText := true, laidKinds := [.data, .data, .data, .sentinel, .sentinel], laidTests := true, laidLooks := .later }
def MacsOneUptoCardSaid : Prop := Claim7.holds Tryd.pinned (.plain (OpenSpec.upto macsOneSpec)) macsOneUptoCard

/-- THE SECOND FORM's CARD OF 'glebelaw5.MacsTells'. -/
def macsTellsUptoCard : Claim7 := { stood := { row := macsTellsUptoRow, standIns := [], harness := (true, "b562c1cf86abaf0adfd24acb822c2741b4a11fbb83a8414be1ec0b27837e5f56"), looks := true }, kinds := [], alts := [], laidByText := true, laidKinds := [.data, .data, .data, .sentinel, .sentinel], laidTests := true, laidLooks := .later }
def MacsTellsUptoCardSaid : Prop := Claim7.holds Tryd.pinned (.plain (OpenSpec.upto macsTellsSpec)) macsTellsUptoCard
end Rows
end Go.Proofs.YtmnemjhkmllniaaDoor
