/-
  DERIVED. GIVEN WITH THE SEED: THE CARDS: each row of YtmnemjhkmllniaaGreatDoorRows.lean that lists a variable, with what it lists TIED to the program's text (the seventh form; the later family's looks); each row that meets fmt, with fmt's text TOLD by the authors' own Lean function (tested against real Go, not proved from fmt's source: count such statements apart). THE CARD IS WHAT COUNTS. Prove the row's statement (the work); the ties are given (YtmnemjhkmllniaaGreatDoorTie.lean); close each card by the builder's one call (the guide's Derived/Test/ToyasCard.lean, 'card_holds'). Laid BY PROGRAM, IN A SANDBOX (cutbox-door.mjs). By AI agents, Wed Nov 11 2026. No macro, syntax, notation, axiom, sorry.
-/
import Derived.Test.YtmnemjhkmllniaaGreatDoorRows
import GoSem.ClaimSeven
namespace Go.Proofs.YtmnemjhkmllniaaGreatDoor
namespace Rows

/-- THE TIED CARD OF 'glebelaw4.RangTells'. -/
def rangTellsCard : Claim7 := { stood := { row := rangTellsRow, standIns := [], harness := (true, "bff878f1b83b33b9e3cfcd290457f5a7c0d3502c97dccdf5312e461d7fe1e0ff"), looks := true }, kinds := [], alts := [], laidByText := true, laidKinds := [.data, .data, .data, .sentinel, .sentinel], laidTests := true, laidLooks := .later }
def RangTellsCardSaid : Prop := Claim7.holds Tryz.pinned (.plain (OpenSpec.ofChange rangTellsSpec)) rangTellsCard

/-- THE SECOND FORM's CARD OF 'glebelaw4.RangTells'. -/
def rangTellsUptoCard : Claim7 := { stood := { row := rangTellsUptoRow, standIns := [], harness := (true, "bff878f1b83b33b9e3cfcd290457f5a7c0d3502c97dccdf5312e461d7fe1e0ff"), looks := true }, kinds := [], alts := [], laidByText := true, laidKinds := [.data, .data, .data, .sentinel, .sentinel], laidTests := true, laidLooks := .later }
def RangTellsUptoCardSaid : Prop := Claim7.holds Tryz.pinned (.plain (OpenSpec.upto rangTellsSpec)) rangTellsUptoCard
end Rows
end Go.Proofs.YtmnemjhkmllniaaGreatDoor
