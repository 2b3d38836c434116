/-
  NARROWER THAN 'FOR EVERY INPUT', by the rows' own cells (each row's printed sentence says how): ShowTerms: loops · ShowFiles: loops.
  DERIVED. THE GIVEN ROWS OF THIS SEAT. 2 by the template 'for every input the law returns true; each argument reads behind the call as it read before'; 0 by the template 'total and deterministic' (their statements: YtpfnjeefhddikaaTotals.lean).
  GIVEN WITH THE SEED: the statements are not yours to turn. If you find one false, say at which input.
  Laid BY PROGRAM, IN A SANDBOX (cutbox-rows.mjs): the forced cells as the released guide's own fill.sh prints them over the translation 88fd5fd72728254e… (all of the seat's roots in one cut). By AI agents, Wed Nov 11 2026. No macro, syntax, notation, axiom, sorry.
-/
import Derived.Test.YtpfnjeefhddikaaChecked
import GoSem.Claim
import GoSem.ClaimJoined
import GoSem.ClaimMapViews
import Derived.JoinedTies
import Derived.KernelRfl
namespace Go.Proofs.Ytpfnjeefhddikaa
/- THE CELL 'sum', in the pinned program and in every row, IS THE sha256 OF THE DUMP (.gsa) THAT YtpfnjeefhddikaaProg.lean LOADS. Nothing in Lean hashes anything: it is a label: what it is worth is what the hold of that sum in a sandbox is worth. -/
noncomputable def Try.pinned : Pinned := { name := "ytpfnjeefhddikaa", sum := "88fd5fd72728254e808a09bf8fcbc6505291f04bbaf3a9aea19faf0c87c5e6aa", checked := Try.checked }
namespace Rows
def none {H : Type} : Left H := { results := [], args := [] }

/-- 'hypercubelaw08.ShowTerms': WHATEVER THE INPUT: true; the input reads as it did. -/
def showTermsSpec : ChangeSpec := { name := "showTerms", fn := fun _ => fun
  | [d] => { results := [.lit (.bool true)], args := [d] }
  | _ => none }
def showTermsRow : OpenClaim := { program := "ytpfnjeefhddikaa", sum := "88fd5fd72728254e808a09bf8fcbc6505291f04bbaf3a9aea19faf0c87c5e6aa", func := "hypercube/hypercubelaw08.ShowTerms", spec := "showTerms", inPlace := ["internal/abi.NoEscape"], unfollowed := true, recurses := true, loops := true, apart := false }
def ShowTermsSaid : Prop := showTermsRow.holds Try.pinned (OpenSpec.ofChange showTermsSpec)

/-- ITS FALSE NEIGHBOUR: 'it returns false'. Refute it at one input. -/
def showTermsWrong : ChangeSpec := { name := "showTerms", fn := fun _ => fun
  | [d] => { results := [.lit (.bool false)], args := [d] }
  | _ => none }
def ShowTermsWrongFalsely : Prop := showTermsRow.holds Try.pinned (OpenSpec.ofChange showTermsWrong)

/-- 'hypercubelaw08.ShowFiles': WHATEVER THE INPUT: true; the input reads as it did. -/
def showFilesSpec : ChangeSpec := { name := "showFiles", fn := fun _ => fun
  | [d] => { results := [.lit (.bool true)], args := [d] }
  | _ => none }
def showFilesRow : OpenClaim := { program := "ytpfnjeefhddikaa", sum := "88fd5fd72728254e808a09bf8fcbc6505291f04bbaf3a9aea19faf0c87c5e6aa", func := "hypercube/hypercubelaw08.ShowFiles", spec := "showFiles", inPlace := ["internal/abi.NoEscape"], unfollowed := true, recurses := true, loops := true, apart := false }
def ShowFilesSaid : Prop := showFilesRow.holds Try.pinned (OpenSpec.ofChange showFilesSpec)

/-- ITS FALSE NEIGHBOUR: 'it returns false'. Refute it at one input. -/
def showFilesWrong : ChangeSpec := { name := "showFiles", fn := fun _ => fun
  | [d] => { results := [.lit (.bool false)], args := [d] }
  | _ => none }
def ShowFilesWrongFalsely : Prop := showFilesRow.holds Try.pinned (OpenSpec.ofChange showFilesWrong)

/- THE SECOND FORM. 'bulk': how many values and letters a reading holds, each counted each time it is reached (what is shared counts as often as it is met; a slice's spare places count too). A statement '..UptoSaid' is the law's where the arguments, and the package variables that the reading takes, are together of bulk at most 1048576: NARROWER than '..Said'. Prove '..Said' where nothing that the law and all that it calls make is longer than what came in: it says more and counts as full. Else prove '..UptoSaid'. A law counts once. -/
mutual
def uptoBulk {H : Type} : DataW H → Nat
  | .lit (.string bytes) => bytes.length + 1
  | .lit _ => 1
  | .nil => 1
  | .ptr d => uptoBulk d + 1
  | .slice elems spare => uptoBulkAll elems + uptoBulkAll spare + 1
  | .agg parts => uptoBulkAll parts + 1
  | .iface _ d => uptoBulk d + 1
  | .map entries => uptoBulkEntries entries + 1
  | .held _ => 1
def uptoBulkAll {H : Type} : List (DataW H) → Nat
  | [] => 0
  | d :: r => uptoBulk d + uptoBulkAll r
def uptoBulkEntries {H : Type} : List (Lit × DataW H) → Nat
  | [] => 0
  | x :: r => uptoBulkEntry x + uptoBulkEntries r
def uptoBulkEntry {H : Type} : Lit × DataW H → Nat
  | (.string bytes, d) => bytes.length + uptoBulk d + 1
  | (_, d) => uptoBulk d + 1
 end
def uptoSmall : (H : Type) → List (DataW H) → Bool := fun _ ds => decide (uptoBulkAll ds ≤ 1048576)
def OpenSpec.upto (s : _root_.Go.ChangeSpec) : _root_.Go.OpenSpec := { _root_.Go.OpenSpec.ofChange s with cond := some uptoSmall }

/-- 'hypercubelaw08.ShowTerms', WHERE WHAT IT READS IS OF BULK AT MOST 1048576: true; the input reads as it did. -/
def showTermsUptoRow : OpenClaim := { program := "ytpfnjeefhddikaa", sum := "88fd5fd72728254e808a09bf8fcbc6505291f04bbaf3a9aea19faf0c87c5e6aa", func := "hypercube/hypercubelaw08.ShowTerms", spec := "showTerms", inPlace := ["internal/abi.NoEscape"], unfollowed := true, recurses := true, loops := true, apart := false, narrowed := true }
def ShowTermsUptoSaid : Prop := showTermsUptoRow.holds Try.pinned (OpenSpec.upto showTermsSpec)

/-- 'hypercubelaw08.ShowFiles', WHERE WHAT IT READS IS OF BULK AT MOST 1048576: true; the input reads as it did. -/
def showFilesUptoRow : OpenClaim := { program := "ytpfnjeefhddikaa", sum := "88fd5fd72728254e808a09bf8fcbc6505291f04bbaf3a9aea19faf0c87c5e6aa", func := "hypercube/hypercubelaw08.ShowFiles", spec := "showFiles", inPlace := ["internal/abi.NoEscape"], unfollowed := true, recurses := true, loops := true, apart := false, narrowed := true }
def ShowFilesUptoSaid : Prop := showFilesUptoRow.holds Try.pinned (OpenSpec.upto showFilesSpec)

end Rows
end Go.Proofs.Ytpfnjeefhddikaa
