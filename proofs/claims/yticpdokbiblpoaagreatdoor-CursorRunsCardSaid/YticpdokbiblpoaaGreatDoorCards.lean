/-
  DERIVED. GIVEN WITH THE SEED: THE CARDS: each row of YticpdokbiblpoaaGreatDoorRows.lean that lists a variable, with what it lists TIED to the program's text (the seventh form; the later family's looks); each row that meets fmt, with fmt's text TOLD by the authors' own Lean function (tested against real Go, not proved from fmt's source: count such statements apart). THE CARD IS WHAT COUNTS. Prove the row's statement (the work); the ties are given (YticpdokbiblpoaaGreatDoorTie.lean); close each card by the builder's one call (the guide's Derived/Test/ToyasCard.lean, 'card_holds'). Laid BY PROGRAM, IN A SANDBOX (cutbox-door.mjs). By AI agents, Wed Nov 11 2026. No macro, syntax, notation, axiom, sorry.
-/
import Derived.Test.YticpdokbiblpoaaGreatDoorRows
import GoSem.ClaimSeven
namespace Go.Proofs.YticpdokbiblpoaaGreatDoor
namespace Rows

/-- THE TIED CARD OF 'calliopelaw20.CursorClean'. -/
def cursorCleanCard : Claim7 := { stood := { row := cursorCleanRow, standIns := [], harness := (true, "3e925cb24d4cd0ce9e7d93e2df92e99f7fa74e27c6b27ac96d865fc020074d64"), looks := false }, kinds := [], alts := [], laidByText := true, laidKinds := [.data, .pinned], laidTests := true, laidLooks := .later }
def CursorCleanCardSaid : Prop := Claim7.holds Tryz.pinned (.plain (OpenSpec.ofChange cursorCleanSpec)) cursorCleanCard

/-- THE TIED CARD OF 'calliopelaw20.CursorLost'. -/
def cursorLostCard : Claim7 := { stood := { row := cursorLostRow, standIns := [], harness := (true, "3e925cb24d4cd0ce9e7d93e2df92e99f7fa74e27c6b27ac96d865fc020074d64"), looks := false }, kinds := [], alts := [], laidByText := true, laidKinds := [.data, .pinned], laidTests := true, laidLooks := .later }
def CursorLostCardSaid : Prop := Claim7.holds Tryz.pinned (.plain (OpenSpec.ofChange cursorLostSpec)) cursorLostCard

/-- THE TIED CARD OF 'calliopelaw20.CursorRuns'. -/
def cursorRunsCard : Claim7 := { stood := { row := cursorRunsRow, standIns := [], harness := (true, "3e925cb24d4cd0ce9e7d93e2df92e99f7fa74e27c6b27ac96d865fc020074d64"), looks := false }, kinds := [], alts := [], laidByText := true, laidKinds := [.data, .pinned], laidTests := true, laidLooks := .later }
def CursorRunsCardSaid : Prop := Claim7.holds Tryz.pinned (.plain (OpenSpec.ofChange cursorRunsSpec)) cursorRunsCard

/-- THE TIED CARD OF 'calliopelaw20.CursorNobody'. -/
def cursorNobodyCard : Claim7 := { stood := { row := cursorNobodyRow, standIns := [], harness := (true, "3e925cb24d4cd0ce9e7d93e2df92e99f7fa74e27c6b27ac96d865fc020074d64"), looks := false }, kinds := [], alts := [], laidByText := true, laidKinds := [.data, .pinned], laidTests := true, laidLooks := .later }
def CursorNobodyCardSaid : Prop := Claim7.holds Tryz.pinned (.plain (OpenSpec.ofChange cursorNobodySpec)) cursorNobodyCard

/-- THE SECOND FORM's CARD OF 'calliopelaw20.CursorClean'. -/
def cursorCleanUptoCard : Claim7 := { stood := { row := cursorCleanUptoRow, standIns := [], harness := (true, "3e925cb24d4cd0ce9e7d93e2df92e99f7fa74e27c6b27ac96d865fc020074d64"), looks := false }, kinds := [], alts := [], laidByText := true, laidKinds := [.data, .pinned], laidTests := true, laidLooks := .later }
def CursorCleanUptoCardSaid : Prop := Claim7.holds Tryz.pinned (.plain (OpenSpec.upto cursorCleanSpec)) cursorCleanUptoCard

/-- THE SECOND FORM's CARD OF 'calliopelaw20.CursorLost'. -/
def cursorLostUptoCard : Claim7 := { stood := { row := cursorLostUptoRow, standIns := [], harness := (true, "3e925cb24d4cd0ce9e7d93e2df92e99f7fa74e27c6b27ac96d865fc020074d64"), looks := false }, kinds := [], alts := [], laidByText := true, laidKinds := [.data, .pinned], laidTests := true, laidLooks := .later }
def CursorLostUptoCardSaid : Prop := Claim7.holds Tryz.pinned (.plain (OpenSpec.upto cursorLostSpec)) cursorLostUptoCard

/-- THE SECOND FORM's CARD OF 'calliopelaw20.CursorRuns'. -/
def cursorRunsUptoCard : Claim7 := { stood := { row := cursorRunsUptoRow, standIns := [], harness := (true, "3e925cb24d4cd0ce9e7d93e2df92e99f7fa74e27c6b27ac96d865fc020074d64"), looks := false }, kinds := [], alts := [], laidByText := true, laidKinds := [.data, .pinned], laidTests := true, laidLooks := .later }
def CursorRunsUptoCardSaid : Prop := Claim7.holds Tryz.pinned (.plain (OpenSpec.upto cursorRunsSpec)) cursorRunsUptoCard

/-- THE SECOND FORM's CARD OF 'calliopelaw20.CursorNobody'. -/
def cursorNobodyUptoCard : Claim7 := { stood := { row := cursorNobodyUptoRow, standIns := [], harness := (true, "3e925cb24d4cd0ce9e7d93e2df92e99f7fa74e27c6b27ac96d865fc020074d64"), looks := false }, kinds := [], alts := [], laidByText := true, laidKinds := [.data, .pinned], laidTests := true, laidLooks := .later }
def CursorNobodyUptoCardSaid : Prop := Claim7.holds Tryz.pinned (.plain (OpenSpec.upto cursorNobodySpec)) cursorNobodyUptoCard
end Rows
end Go.Proofs.YticpdokbiblpoaaGreatDoor
