/-
  DERIVED. GIVEN WITH THE SEED: THE CARDS: each row of YtjmgiepjgkoocaaDoorRows.lean that lists a variable, with what it lists TIED to the program's text (the seventh form; the later family's looks); each row that meets fmt, with fmt's text TOLD by the authors' own Lean function (tested against real Go, not proved from fmt's source: count such statements apart). THE CARD IS WHAT COUNTS. Prove the row's statement (the work); the ties are given (YtjmgiepjgkoocaaDoorTie.lean); close each card by the builder's one call (the guide's Derived/Test/ToyasCard.lean, 'card_holds'). Laid BY PROGRAM, IN A SANDBOX (cutbox-door.mjs). By AI agents, Wed Nov 11 2026. No macro, syntax, notation, axiom, sorry.
-/
import Derived.Test.YtjmgiepjgkoocaaDoorRows
import GoSem.ClaimSeven
namespace Go.Proofs.YtjmgiepjgkoocaaDoor
namespace Rows

/-- THE TIED CARD OF 'glebelaw0.NamesNumbers'. -/
def namesNumbersCard : Claim7 := { stood := { row := namesNumbersRow, standIns := [], harness := (true, "8c452bed71cc576e1fdf3867d7ad55cbb860bded5f8ed3b62fd25180738e98d0"), looks := false }, kinds := [], alts := [], laidByText := true, laidKinds := [.data], laidTests := true, laidLooks := .later }
def NamesNumbersCardSaid : Prop := Claim7.holds Tryd.pinned (.plain (OpenSpec.ofChange namesNumbersSpec)) namesNumbersCard

/-- THE TIED CARD OF 'glebelaw1.QuadForms'. -/
def quadFormsCard : Claim7 := { stood := { row := quadFormsRow, standIns := [], harness := (true, "8c452bed71cc576e1fdf3867d7ad55cbb860bded5f8ed3b62fd25180738e98d0"), looks := false }, kinds := [], alts := [], laidByText := true, laidKinds := [.data], laidTests := true, laidLooks := .later }
def QuadFormsCardSaid : Prop := Claim7.holds Tryd.pinned (.plain (OpenSpec.ofChange quadFormsSpec)) quadFormsCard

/-- THE TIED CARD OF 'glebelaw1.QuadOrder'. -/
def quadOrderCard : Claim7 := { stood := { row := quadOrderRow, standIns := [], harness := (true, "8c452bed71cc576e1fdf3867d7ad55cbb860bded5f8ed3b62fd25180738e98d0"), looks := false }, kinds := [], alts := [], laidByText := true, laidKinds := [.data], laidTests := true, laidLooks := .later }
def QuadOrderCardSaid : Prop := Claim7.holds Tryd.pinned (.plain (OpenSpec.ofChange quadOrderSpec)) quadOrderCard

/-- THE TIED CARD OF 'glebelaw1.QuadMasks'. -/
def quadMasksCard : Claim7 := { stood := { row := quadMasksRow, standIns := [], harness := (true, "8c452bed71cc576e1fdf3867d7ad55cbb860bded5f8ed3b62fd25180738e98d0"), looks := false }, kinds := [], alts := [], laidByText := true, laidKinds := [.data], laidTests := true, laidLooks := .later }
def QuadMasksCardSaid : Prop := Claim7.holds Tryd.pinned (.plain (OpenSpec.ofChange quadMasksSpec)) quadMasksCard

/-- THE TIED CARD OF 'glebelaw1.QuadBack'. -/
def quadBackCard : Claim7 := { stood := { row := quadBackRow, standIns := [], harness := (true, "8c452bed71cc576e1fdf3867d7ad55cbb860bded5f8ed3b62fd25180738e98d0"), looks := false }, kinds := [], alts := [], laidByText := true, laidKinds := [.data], laidTests := true, laidLooks := .later }
def QuadBackCardSaid : Prop := Claim7.holds Tryd.pinned (.plain (OpenSpec.ofChange quadBackSpec)) quadBackCard

/-- THE SECOND FORM's CARD OF 'glebelaw0.NamesNumbers'. -/
def namesNumbersUptoCard : Claim7 := { stood := { row := namesNumbersUptoRow, standIns := [], harness := (true, "8c452bed71cc576e1fdf3867d7ad55cbb860bded5f8ed3b62fd25180738e98d0"), looks := false }, kinds := [], alts := [], laidByText := true, laidKinds := [.data], laidTests := true, laidLooks := .later }
def NamesNumbersUptoCardSaid : Prop := Claim7.holds Tryd.pinned (.plain (OpenSpec.upto namesNumbersSpec)) namesNumbersUptoCard

/-- THE SECOND FORM's CARD OF 'glebelaw1.QuadForms'. -/
def quadFormsUptoCard : Claim7 := { stood := { row := quadFormsUptoRow, standIns := [], harness := (true, "8c452bed71cc576e1fdf3867d7ad55cbb860bded5f8ed3b62fd25180738e98d0"), looks := false }, kinds := [], alts := [], laidByText := true, laidKinds := [.data], laidTests := true, laidLooks := .later }
def QuadFormsUptoCardSaid : Prop := Claim7.holds Tryd.pinned (.plain (OpenSpec.upto quadFormsSpec)) quadFormsUptoCard

/-- THE SECOND FORM's CARD OF 'glebelaw1.QuadOrder'. -/
def quadOrderUptoCard : Claim7 := { stood := { row := quadOrderUptoRow, standIns := [], harness := (true, "8c452bed71cc576e1fdf3867d7ad55cbb860bded5f8ed3b62fd25180738e98d0"), looks := false }, kinds := [], alts := [], laidByText := true, laidKinds := [.data], laidTests := true, laidLooks := .later }
def QuadOrderUptoCardSaid : Prop := Claim7.holds Tryd.pinned (.plain (OpenSpec.upto quadOrderSpec)) quadOrderUptoCard

/-- THE SECOND FORM's CARD OF 'glebelaw1.QuadMasks'. -/
def quadMasksUptoCard : Claim7 := { stood := { row := quadMasksUptoRow, standIns := [], harness := (true, "8c452bed71cc576e1fdf3867d7ad55cbb860bded5f8ed3b62fd25180738e98d0"), looks := false }, kinds := [], alts := [], laidByText := true, laidKinds := [.data], laidTests := true, laidLooks := .later }
def QuadMasksUptoCardSaid : Prop := Claim7.holds Tryd.pinned (.plain (OpenSpec.upto quadMasksSpec)) quadMasksUptoCard

/-- THE SECOND FORM's CARD OF 'glebelaw1.QuadBack'. -/
def quadBackUptoCard : Claim7 := { stood := { row := quadBackUptoRow, standIns := [], harness := (true, "8c452bed71cc576e1fdf3867d7ad55cbb860bded5f8ed3b62fd25180738e98d0"), looks := false }, kinds := [], alts := [], laidByText := true, laidKinds := [.data], laidTests := true, laidLooks := .later }
def QuadBackUptoCardSaid : Prop := Claim7.holds Tryd.pinned (.plain (OpenSpec.upto quadBackSpec)) quadBackUptoCard
end Rows
end Go.Proofs.YtjmgiepjgkoocaaDoor
