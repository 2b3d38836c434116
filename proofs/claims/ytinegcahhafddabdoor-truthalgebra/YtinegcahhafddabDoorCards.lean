/-
  DERIVED. GIVEN WITH THE SEED: THE CARDS: each row of YtinegcahhafddabDoorRows.lean that lists a variable, with what it lists TIED to the program's text (the seventh form; the later family's looks); each row that meets fmt, with fmt's text TOLD by the authors' own Lean function (tested against real Go, not proved from fmt's source: count such statements apart). THE CARD IS WHAT COUNTS. Prove the row's statement (the work); the ties are given (YtinegcahhafddabDoorTie.lean); close each card by the builder's one call (the guide's Derived/Test/ToyasCard.lean, 'card_holds'). Laid BY PROGRAM, IN A SANDBOX (cutbox-door.mjs). By AI agents, Wed Nov 11 2026. No macro, syntax, notation, axiom, sorry.
-/
import Derived.Test.YtinegcahhafddabDoorRows
import GoSem.ClaimSeven
namespace Go.Proofs.YtinegcahhafddabDoor
namespace Rows

/-- THE TIED CARD OF 'hypercubelaw04.TruthAlgebra'. -/
def truthAlgebraCard : Claim7 := { stood := { row := truthAlgebraRow, standIns := [], harness := (true, "ea15c637f6fb85f2836368dd01613406e0901a3652e929dec3272a0d177524d3"), looks := false }, kinds := [], alts := [], laidByText := true, laidKinds := [.data, .data, .data], laidTests := true, laidLooks := .later }
def TruthAlgebraCardSaid : Prop := Claim7.holds Tryd.pinned (.plain (OpenSpec.ofChange truthAlgebraSpec)) truthAlgebraCard

/-- THE SECOND FORM's CARD OF 'hypercubelaw04.TruthAlgebra'. -/
def truthAlgebraUptoCard : Claim7 := { stood := { row := truthAlgebraUptoRow, standIns := [], harness := (true, "ea15c637f6fb85f2836368dd01613406e0901a3652e929dec3272a0d177524d3"), looks := false }, kinds := [], alts := [], laidByText := true, laidKinds := [.data, .data, .data], laidTests := true, laidLooks := .later }
def TruthAlgebraUptoCardSaid : Prop := Claim7.holds Tryd.pinned (.plain (OpenSpec.upto truthAlgebraSpec)) truthAlgebraUptoCard
end Rows
end Go.Proofs.YtinegcahhafddabDoor
