/-
  DERIVED. GIVEN WITH THE SEED: THE CARDS: each row of YtinegcahhafddaaDoorRows.lean that lists a variable, with what it lists TIED to the program's text (the seventh form; the later family's looks); each row that meets fmt, with fmt's text TOLD by the authors' own Lean function (tested against real Go, not proved from fmt's source: count such statements apart). THE CARD IS WHAT COUNTS. Prove the row's statement (the work); the ties are given (YtinegcahhafddaaDoorTie.lean); close each card by the builder's one call (the guide's Derived/Test/ToyasCard.lean, 'card_holds'). Laid BY PROGRAM, IN A SANDBOX (cutbox-door.mjs). By AI agents, Wed Nov 11 2026. No macro, syntax, notation, axiom, sorry.
-/
import Derived.Test.YtinegcahhafddaaDoorRows
import GoSem.ClaimSeven
namespace Go.Proofs.YtinegcahhafddaaDoor
namespace Rows

/-- THE TIED CARD OF 'hypercubelaw04.TruthValues'. -/
def truthValuesCard : Claim7 := { stood := { row := truthValuesRow, standIns := [], harness := (true, "b97ded1b46767347cfe469dfec2684ca2a20fb5d786a10a831117003f67ea075"), looks := false }, kinds := [], alts := [], laidByText := true, laidKinds := [.data, .data, .data], laidTests := true, laidLooks := .later }
def TruthValuesCardSaid : Prop := Claim7.holds Tryd.pinned (.plain (OpenSpec.ofChange truthValuesSpec)) truthValuesCard

/-- THE TIED CARD OF 'hypercubelaw04.TruthEvals'. -/
def truthEvalsCard : Claim7 := { stood := { row := truthEvalsRow, standIns := [], harness := (true, "b97ded1b46767347cfe469dfec2684ca2a20fb5d786a10a831117003f67ea075"), looks := false }, kinds := [], alts := [], laidByText := true, laidKinds := [.data, .data, .data], laidTests := true, laidLooks := .later }
def TruthEvalsCardSaid : Prop := Claim7.holds Tryd.pinned (.plain (OpenSpec.ofChange truthEvalsSpec)) truthEvalsCard

/-- THE TIED CARD OF 'hypercubelaw04.TruthTells'. -/
def truthTellsCard : Claim7 := { stood := { row := truthTellsRow, standIns := [], harness := (true, "b97ded1b46767347cfe469dfec2684ca2a20fb5d786a10a831117003f67ea075"), looks := false }, kinds := [], alts := [], laidByText := true, laidKinds := [.data, .data, .data], laidTests := true, laidLooks := .later }
def TruthTellsCardSaid : Prop := Claim7.holds Tryd.pinned (.plain (OpenSpec.ofChange truthTellsSpec)) truthTellsCard

/-- THE TIED CARD OF 'hypercubelaw04.TruthDecides'. -/
def truthDecidesCard : Claim7 := { stood := { row := truthDecidesRow, standIns := [], harness := (true, "b97ded1b46767347cfe469dfec2684ca2a20fb5d786a10a831117003f67ea075"), looks := false }, kinds := [], alts := [], laidByText := true, laidKinds := [.data, .data, .data], laidTests := true, laidLooks := .later }
def TruthDecidesCardSaid : Prop := Claim7.holds Tryd.pinned (.plain (OpenSpec.ofChange truthDecidesSpec)) truthDecidesCard

/-- THE TIED CARD OF 'hypercubelaw04.TruthMakes'. -/
def truthMakesCard : Claim7 := { stood := { row := truthMakesRow, standIns := [], harness := (true, "b97ded1b46767347cfe469dfec2684ca2a20fb5d786a10a831117003f67ea075"), looks := false }, kinds := [], alts := [], laidByText := true, laidKinds := [.data, .data, .data], laidTests := true, laidLooks := .later }
def TruthMakesCardSaid : Prop := Claim7.holds Tryd.pinned (.plain (OpenSpec.ofChange truthMakesSpec)) truthMakesCard

/-- THE TIED CARD OF 'hypercubelaw04.TruthPuts'. -/
def truthPutsCard : Claim7 := { stood := { row := truthPutsRow, standIns := [], harness := (true, "b97ded1b46767347cfe469dfec2684ca2a20fb5d786a10a831117003f67ea075"), looks := false }, kinds := [], alts := [], laidByText := true, laidKinds := [.data, .data, .data], laidTests := true, laidLooks := .later }
def TruthPutsCardSaid : Prop := Claim7.holds Tryd.pinned (.plain (OpenSpec.ofChange truthPutsSpec)) truthPutsCard

/-- THE SECOND FORM's CARD OF 'hypercubelaw04.TruthValues'. -/
def truthValuesUptoCard : Claim7 := { stood := { row := truthValuesUptoRow, standIns := [], harness := (true, "b97ded1b46767347cfe469dfec2684ca2a20fb5d786a10a831117003f67ea075"), looks := false }, kinds := [], alts := [], laidByText := true, laidKinds := [.data, .data, .data], laidTests := true, laidLooks := .later }
def TruthValuesUptoCardSaid : Prop := Claim7.holds Tryd.pinned (.plain (OpenSpec.upto truthValuesSpec)) truthValuesUptoCard

/-- THE SECOND FORM's CARD OF 'hypercubelaw04.TruthEvals'. -/
def truthEvalsUptoCard : Claim7 := { stood := { row := truthEvalsUptoRow, standIns := [], harness := (true, "b97ded1b46767347cfe469dfec2684ca2a20fb5d786a10a831117003f67ea075"), looks := false }, kinds := [], alts := [], laidByText := true, laidKinds := [.data, .data, .data], laidTests := true, laidLooks := .later }
def TruthEvalsUptoCardSaid : Prop := Claim7.holds Tryd.pinned (.plain (OpenSpec.upto truthEvalsSpec)) truthEvalsUptoCard

/-- THE SECOND FORM's CARD OF 'hypercubelaw04.TruthTells'. -/
def truthTellsUptoCard : Claim7 := { stood := { row := truthTellsUptoRow, standIns := [], harness := (true, "b97ded1b46767347cfe469dfec2684ca2a20fb5d786a10a831117003f67ea075"), looks := false }, kinds := [], alts := [], laidByText := true, laidKinds := [.data, .data, .data], laidTests := true, laidLooks := .later }
def TruthTellsUptoCardSaid : Prop := Claim7.holds Tryd.pinned (.plain (OpenSpec.upto truthTellsSpec)) truthTellsUptoCard

/-- THE SECOND FORM's CARD OF 'hypercubelaw04.TruthDecides'. -/
def truthDecidesUptoCard : Claim7 := { stood := { row := truthDecidesUptoRow, standIns := [], harness := (true, "b97ded1b46767347cfe469dfec2684ca2a20fb5d786a10a831117003f67ea075"), looks := false }, kinds := [], alts := [], laidByText := true, laidKinds := [.data, .data, .data], laidTests := true, laidLooks := .later }
def TruthDecidesUptoCardSaid : Prop := Claim7.holds Tryd.pinned (.plain (OpenSpec.upto truthDecidesSpec)) truthDecidesUptoCard

/-- THE SECOND FORM's CARD OF 'hypercubelaw04.TruthMakes'. -/
def truthMakesUptoCard : Claim7 := { stood := { row := truthMakesUptoRow, standIns := [], harness := (true, "b97ded1b46767347cfe469dfec2684ca2a20fb5d786a10a831117003f67ea075"), looks := false }, kinds := [], alts := [], laidByText := true, laidKinds := [.data, .data, .data], laidTests := true, laidLooks := .later }
def TruthMakesUptoCardSaid : Prop := Claim7.holds Tryd.pinned (.plain (OpenSpec.upto truthMakesSpec)) truthMakesUptoCard

/-- THE SECOND FORM's CARD OF 'hypercubelaw04.TruthPuts'. -/
def truthPutsUptoCard : Claim7 := { stood := { row := truthPutsUptoRow, standIns := [], harness := (true, "b97ded1b46767347cfe469dfec2684ca2a20fb5d786a10a831117003f67ea075"), looks := false }, kinds := [], alts := [], laidByText := true, laidKinds := [.data, .data, .data], laidTests := true, laidLooks := .later }
def TruthPutsUptoCardSaid : Prop := Claim7.holds Tryd.pinned (.plain (OpenSpec.upto truthPutsSpec)) truthPutsUptoCard
end Rows
end Go.Proofs.YtinegcahhafddaaDoor
