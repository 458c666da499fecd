/-
  DERIVED. GIVEN WITH THE SEED: THE CARDS: each row of YtmlhlidjgiofkaaDoorRows.lean that lists a variable, with what it lists TIED to the program's text (the seventh form; the later family's looks); each row that meets fmt, with fmt's text TOLD by the authors' own Lean function (tested against real Go, not proved from fmt's source: count such statements apart). THE CARD IS WHAT COUNTS. Prove the row's statement (the work); the ties are given (YtmlhlidjgiofkaaDoorTie.lean); close each card by the builder's one call (the guide's Derived/Test/ToyasCard.lean, 'card_holds'). Laid BY PROGRAM, IN A SANDBOX (cutbox-door.mjs). By AI agents, Wed Nov 11 2026. No macro, syntax, notation, axiom, sorry.
-/
import Derived.Test.YtmlhlidjgiofkaaDoorRows
import GoSem.ClaimSeven
namespace Go.Proofs.YtmlhlidjgiofkaaDoor
namespace Rows

/-- THE TIED CARD OF 'glebelaw2.AddrForms'. -/
def addrFormsCard : Claim7 := { stood := { row := addrFormsRow, standIns := [], harness := (true, "4fd74592b034c998acebfa633985936877501420186192ade44af40fbf5038e8"), looks := true }, kinds := [], alts := [], laidByText := true, laidKinds := [.data, .data, .data, .sentinel, .sentinel], laidTests := true, laidLooks := .later }
def AddrFormsCardSaid : Prop := Claim7.holds Tryd.pinned (.plain (OpenSpec.ofChange addrFormsSpec)) addrFormsCard

/-- THE TIED CARD OF 'glebelaw2.AddrNext'. -/
def addrNextCard : Claim7 := { stood := { row := addrNextRow, standIns := [], harness := (true, "4fd74592b034c998acebfa633985936877501420186192ade44af40fbf5038e8"), looks := true }, kinds := [], alts := [], laidByText := true, laidKinds := [.data, .data, .data, .sentinel, .sentinel], laidTests := true, laidLooks := .later }
def AddrNextCardSaid : Prop := Claim7.holds Tryd.pinned (.plain (OpenSpec.ofChange addrNextSpec)) addrNextCard

/-- THE TIED CARD OF 'glebelaw2.AddrBack'. -/
def addrBackCard : Claim7 := { stood := { row := addrBackRow, standIns := [], harness := (true, "4fd74592b034c998acebfa633985936877501420186192ade44af40fbf5038e8"), looks := true }, kinds := [], alts := [], laidByText := true, laidKinds := [.data, .data, .data, .sentinel, .sentinel], laidTests := true, laidLooks := .later }
def AddrBackCardSaid : Prop := Claim7.holds Tryd.pinned (.plain (OpenSpec.ofChange addrBackSpec)) addrBackCard

/-- THE SECOND FORM's CARD OF 'glebelaw2.AddrForms'. -/
def addrFormsUptoCard : Claim7 := { stood := { row := addrFormsUptoRow, standIns := [], harness := (true, "4fd74592b034c998acebfa633985936877501420186192ade44af40fbf5038e8"), looks := true }, kinds := [], alts := [], laidByText := true, laidKinds := [.data, .data, .data, .sentinel, .sentinel], laidTests := true, laidLooks := .later }
def AddrFormsUptoCardSaid : Prop := Claim7.holds Tryd.pinned (.plain (OpenSpec.upto addrFormsSpec)) addrFormsUptoCard

/-- THE SECOND FORM's CARD OF 'glebelaw2.AddrNext'. -/
def addrNextUptoCard : Claim7 := { stood := { row := addrNextUptoRow, standIns := [], harness := (true, "4fd74592b034c998acebfa633985936877501420186192ade44af40fbf5038e8"), looks := true }, kinds := [], alts := [], laidByText := true, laidKinds := [.data, .data, .data, .sentinel, .sentinel], laidTests := true, laidLooks := .later }
def AddrNextUptoCardSaid : Prop := Claim7.holds Tryd.pinned (.plain (OpenSpec.upto addrNextSpec)) addrNextUptoCard

/-- THE SECOND FORM's CARD OF 'glebelaw2.AddrBack'. -/
def addrBackUptoCard : Claim7 := { stood := { row := addrBackUptoRow, standIns := [], harness := (true, "4fd74592b034c998acebfa633985936877501420186192ade44af40fbf5038e8"), looks := true }, kinds := [], alts := [], laidByText := true, laidKinds := [.data, .data, .data, .sentinel, .sentinel], laidTests := true, laidLooks := .later }
def AddrBackUptoCardSaid : Prop := Claim7.holds Tryd.pinned (.plain (OpenSpec.upto addrBackSpec)) addrBackUptoCard
end Rows
end Go.Proofs.YtmlhlidjgiofkaaDoor
