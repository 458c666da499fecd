/-
  DERIVED. GIVEN WITH THE SEED: THE CARDS: each row of YtehhhjkajabliaaDoorRows.lean that lists a variable, with what it lists TIED to the program's text (the seventh form; the later family's looks); each row that meets fmt, with fmt's text TOLD by the authors' own Lean function (tested against real Go, not proved from fmt's source: count such statements apart). THE CARD IS WHAT COUNTS. Prove the row's statement (the work); the ties are given (YtehhhjkajabliaaDoorTie.lean); close each card by the builder's one call (the guide's Derived/Test/ToyasCard.lean, 'card_holds'). Laid BY PROGRAM, IN A SANDBOX (cutbox-door.mjs). By AI agents, Wed Nov 11 2026. No macro, syntax, notation, axiom, sorry.
-/
import Derived.Test.YtehhhjkajabliaaDoorRows
import GoSem.ClaimSeven
namespace Go.Proofs.YtehhhjkajabliaaDoor
namespace Rows

/-- THE TIED CARD OF 'glebelaw3.PrefForms'. -/
def prefFormsCard : Claim7 := { stood := { row := prefFormsRow, standIns := [], harness := (true, "f25dd8f01d1c86f715df8129da331633d1d45e7315d70ef5f4168cdb31a17f0e"), looks := true }, kinds := [], alts := [], laidByText := true, laidKinds := [.data, .data, .data, .sentinel, .sentinel], laidTests := true, laidLooks := .later }
def PrefFormsCardSaid : Prop := Claim7.holds Tryd.pinned (.plain (OpenSpec.ofChange prefFormsSpec)) prefFormsCard

/-- THE TIED CARD OF 'glebelaw3.PrefMasks'. -/
def prefMasksCard : Claim7 := { stood := { row := prefMasksRow, standIns := [], harness := (true, "f25dd8f01d1c86f715df8129da331633d1d45e7315d70ef5f4168cdb31a17f0e"), looks := true }, kinds := [], alts := [], laidByText := true, laidKinds := [.data, .data, .data, .sentinel, .sentinel], laidTests := true, laidLooks := .later }
def PrefMasksCardSaid : Prop := Claim7.holds Tryd.pinned (.plain (OpenSpec.ofChange prefMasksSpec)) prefMasksCard

/-- THE TIED CARD OF 'glebelaw3.PrefHolds'. -/
def prefHoldsCard : Claim7 := { stood := { row := prefHoldsRow, standIns := [], harness := (true, "f25dd8f01d1c86f715df8129da331633d1d45e7315d70ef5f4168cdb31a17f0e"), looks := true }, kinds := [], alts := [], laidByText := true, laidKinds := [.data, .data, .data, .sentinel, .sentinel], laidTests := true, laidLooks := .later }
def PrefHoldsCardSaid : Prop := Claim7.holds Tryd.pinned (.plain (OpenSpec.ofChange prefHoldsSpec)) prefHoldsCard

/-- THE SECOND FORM's CARD OF 'glebelaw3.PrefForms'. -/
def prefFormsUptoCard : Claim7 := { stood := { row := prefFormsUptoRow, standIns := [], harness := (true, "f25dd8f01d1c86f715df8129da331633d1d45e7315d70ef5f4168cdb31a17f0e"), looks := true }, kinds := [], alts := [], laidByText := true, laidKinds := [.data, .data, .data, .sentinel, .sentinel], laidTests := true, laidLooks := .later }
def PrefFormsUptoCardSaid : Prop := Claim7.holds Tryd.pinned (.plain (OpenSpec.upto prefFormsSpec)) prefFormsUptoCard

/-- THE SECOND FORM's CARD OF 'glebelaw3.PrefMasks'. -/
def prefMasksUptoCard : Claim7 := { stood := { row := prefMasksUptoRow, standIns := [], harness := (true, "f25dd8f01d1c86f715df8129da331633d1d45e7315d70ef5f4168cdb31a17f0e"), looks := true }, kinds := [], alts := [], laidByText := true, laidKinds := [.data, .data, .data, .sentinel, .sentinel], laidTests := true, laidLooks := .later }
def PrefMasksUptoCardSaid : Prop := Claim7.holds Tryd.pinned (.plain (OpenSpec.upto prefMasksSpec)) prefMasksUptoCard

/-- THE SECOND FORM's CARD OF 'glebelaw3.PrefHolds'. -/
def prefHoldsUptoCard : Claim7 := { stood := { row := prefHoldsUptoRow, standIns := [], harness := (true, "f25dd8f01d1c86f715df8129da331633d1d45e7315d70ef5f4168cdb31a17f0e"), looks := true }, kinds := [], alts := [], laidByText := true, laidKinds := [.data, .data, .data, .sentinel, .sentinel], laidTests := true, laidLooks := .later }
def PrefHoldsUptoCardSaid : Prop := Claim7.holds Tryd.pinned (.plain (OpenSpec.upto prefHoldsSpec)) prefHoldsUptoCard
end Rows
end Go.Proofs.YtehhhjkajabliaaDoor
