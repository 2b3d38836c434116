/-
  DERIVED. GIVEN WITH THE SEED: THE CARDS: each row of YtahnbigkdfmpbaaGreatDoorRows.lean that lists a variable, with what it lists TIED to the program's text (the seventh form; the later family's looks); each row that meets fmt, with fmt's text TOLD by the authors' own Lean function (tested against real Go, not proved from fmt's source: count such statements apart). THE CARD IS WHAT COUNTS. Prove the row's statement (the work); the ties are given (YtahnbigkdfmpbaaGreatDoorTie.lean); close each card by the builder's one call (the guide's Derived/Test/ToyasCard.lean, 'card_holds'). Laid BY PROGRAM, IN A SANDBOX (cutbox-door.mjs). By AI agents, Wed Nov 11 2026. No macro, syntax, notation, axiom, sorry.
-/
import Derived.Test.YtahnbigkdfmpbaaGreatDoorRows
import GoSem.ClaimSeven
namespace Go.Proofs.YtahnbigkdfmpbaaGreatDoor
namespace Rows

/-- THE TIED CARD OF 'hypercubelaw09.ScopeNames'. -/
def scopeNamesCard : Claim7 := { stood := { row := scopeNamesRow, standIns := [], harness := (true, "4b753b5745732179d59a5fe6b06e36a469de723e80d0fd56daae4880748e15b1"), looks := true }, kinds := [], alts := [], laidByText := true, laidKinds := [.data, .data, .pinned], laidTests := true, laidLooks := .later }
def ScopeNamesCardSaid : Prop := Claim7.holds Tryz.pinned (.plain (OpenSpec.ofChange scopeNamesSpec)) scopeNamesCard

/-- THE TIED CARD OF 'hypercubelaw09.ScopeInner'. -/
def scopeInnerCard : Claim7 := { stood := { row := scopeInnerRow, standIns := [], harness := (true, "4b753b5745732179d59a5fe6b06e36a469de723e80d0fd56daae4880748e15b1"), looks := true }, kinds := [], alts := [], laidByText := true, laidKinds := [.data, .data, .pinned], laidTests := true, laidLooks := .later }
def ScopeInnerCardSaid : Prop := Claim7.holds Tryz.pinned (.plain (OpenSpec.ofChange scopeInnerSpec)) scopeInnerCard

/-- THE TIED CARD OF 'hypercubelaw09.ScopeArgs'. -/
def scopeArgsCard : Claim7 := { stood := { row := scopeArgsRow, standIns := [], harness := (true, "4b753b5745732179d59a5fe6b06e36a469de723e80d0fd56daae4880748e15b1"), looks := true }, kinds := [], alts := [], laidByText := true, laidKinds := [.data, .data, .pinned], laidTests := true, laidLooks := .later }
def ScopeArgsCardSaid : Prop := Claim7.holds Tryz.pinned (.plain (OpenSpec.ofChange scopeArgsSpec)) scopeArgsCard

/-- THE SECOND FORM's CARD OF 'hypercubelaw09.ScopeNames'. -/
def scopeNamesUptoCard : Claim7 := { stood := { row := scopeNamesUptoRow, standIns := [], harness := (true, "4b753b5745732179d59a5fe6b06e36a469de723e80d0fd56daae4880748e15b1"), looks := true }, kinds := [], alts := [], laidByText := true, laidKinds := [.data, .data, .pinned], laidTests := true, laidLooks := .later }
def ScopeNamesUptoCardSaid : Prop := Claim7.holds Tryz.pinned (.plain (OpenSpec.upto scopeNamesSpec)) scopeNamesUptoCard

/-- THE SECOND FORM's CARD OF 'hypercubelaw09.ScopeInner'. -/
def scopeInnerUptoCard : Claim7 := { stood := { row := scopeInnerUptoRow, standIns := [], harness := (true, "4b753b5745732179d59a5fe6b06e36a469de723e80d0fd56daae4880748e15b1"), looks := true }, kinds := [], alts := [], laidByText := true, laidKinds := [.data, .data, .pinned], laidTests := true, laidLooks := .later }
def ScopeInnerUptoCardSaid : Prop := Claim7.holds Tryz.pinned (.plain (OpenSpec.upto scopeInnerSpec)) scopeInnerUptoCard

/-- THE SECOND FORM's CARD OF 'hypercubelaw09.ScopeArgs'. -/
def scopeArgsUptoCard : Claim7 := { stood := { row := scopeArgsUptoRow, standIns := [], harness := (true, "4b753b5745732179d59a5fe6b06e36a469de723e80d0fd56daae4880748e15b1"), looks := true }, kinds := [], alts := [], laidByText := true, laidKinds := [.data, .data, .pinned], laidTests := true, laidLooks := .later }
def ScopeArgsUptoCardSaid : Prop := Claim7.holds Tryz.pinned (.plain (OpenSpec.upto scopeArgsSpec)) scopeArgsUptoCard
end Rows
end Go.Proofs.YtahnbigkdfmpbaaGreatDoor
