/-
  DERIVED. GIVEN WITH THE SEED: THE CARDS: each row of YtdikaomebbpmhabDoorRows.lean that lists a variable, with what it lists TIED to the program's text (the seventh form; the later family's looks); each row that meets fmt, with fmt's text TOLD by the authors' own Lean function (tested against real Go, not proved from fmt's source: count such statements apart). THE CARD IS WHAT COUNTS. Prove the row's statement (the work); the ties are given (YtdikaomebbpmhabDoorTie.lean); close each card by the builder's one call (the guide's Derived/Test/ToyasCard.lean, 'card_holds'). Laid BY PROGRAM, IN A SANDBOX (cutbox-door.mjs). By AI agents, Wed Nov 11 2026. No macro, syntax, notation, axiom, sorry.
-/
import Derived.Test.YtdikaomebbpmhabDoorRows
import GoSem.ClaimSeven
namespace Go.Proofs.YtdikaomebbpmhabDoor
namespace Rows

/-- THE TIED CARD OF 'hypercubelaw05.FaceTruth'. -/
def faceTruthCard : Claim7 := { stood := { row := faceTruthRow, standIns := [], harness := (true, "b14ec906db2c6ff0dcd50a82a9fd012db36c78511cda7c1c0ff5c4240e38a101"), looks := false }, kinds := [], alts := [], laidByText := true, laidKinds := [.data, .data, .data], laidTests := true, laidLooks := .later }
def FaceTruthCardSaid : Prop := Claim7.holds Tryd.pinned (.plain (OpenSpec.ofChange faceTruthSpec)) faceTruthCard

/-- THE SECOND FORM's CARD OF 'hypercubelaw05.FaceTruth'. -/
def faceTruthUptoCard : Claim7 := { stood := { row := faceTruthUptoRow, standIns := [], harness := (true, "b14ec906db2c6ff0dcd50a82a9fd012db36c78511cda7c1c0ff5c4240e38a101"), looks := false }, kinds := [], alts := [], laidByText := true, laidKinds := [.data, .data, .data], laidTests := true, laidLooks := .later }
def FaceTruthUptoCardSaid : Prop := Claim7.holds Tryd.pinned (.plain (OpenSpec.upto faceTruthSpec)) faceTruthUptoCard
end Rows
end Go.Proofs.YtdikaomebbpmhabDoor
