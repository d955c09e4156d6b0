/-
  DERIVED. GIVEN WITH THE SEED: THE CARDS: each row of YtfgmfbafiailoaaDoorRows.lean that lists a variable, with what it lists TIED to the program's text (the seventh form; the later family's looks); each row that meets fmt, with fmt's text TOLD by the authors' own Lean function (tested against real Go, not proved from fmt's source: count such statements apart). THE CARD IS WHAT COUNTS. Prove the row's statement (the work); the ties are given (YtfgmfbafiailoaaDoorTie.lean); close each card by the builder's one call (the guide's Derived/Test/ToyasCard.lean, 'card_holds'). Laid BY PROGRAM, IN A SANDBOX (cutbox-door.mjs). By AI agents, Wed Nov 11 2026. No macro, syntax, notation, axiom, sorry.
-/
import Derived.Test.YtfgmfbafiailoaaDoorRows
import GoSem.ClaimSeven
namespace Go.Proofs.YtfgmfbafiailoaaDoor
namespace Rows

/-- THE TIED CARD OF 'calliopelaw04.TableNotes'. -/
def tableNotesCard : Claim7 := { stood := { row := tableNotesRow, standIns := [], harness := (true, "892f75f6410dfcb8d3d5333984fdc3ebcc479bd371c48cec88ba33beb952bf9a"), looks := false }, kinds := [], alts := [], laidByText := true, laidKinds := [.data], laidTests := true, laidLooks := .later }
def TableNotesCardSaid : Prop := Claim7.holds Tryd.pinned (.plain (OpenSpec.ofChange tableNotesSpec)) tableNotesCard

/-- THE SECOND FORM's CARD OF 'calliopelaw04.TableNotes'. -/
def tableNotesUptoCard : Claim7 := { stood := { row := tableNotesUptoRow, standIns := [], harness := (true, "892f75f6410dfcb8d3d5333984fdc3ebcc479bd371c48cec88ba33beb952bf9a"), looks := false }, kinds := [], alts := [], laidByText := true, laidKinds := [.data], laidTests := true, laidLooks := .later }
def TableNotesUptoCardSaid : Prop := Claim7.holds Tryd.pinned (.plain (OpenSpec.upto tableNotesSpec)) tableNotesUptoCard
end Rows
end Go.Proofs.YtfgmfbafiailoaaDoor
