/-
  NARROWER THAN 'FOR EVERY INPUT', by the rows' own cells (each row's printed sentence says how): FaceTruth: laid.
  DERIVED. THE GIVEN ROWS OF THIS SEAT. 1 by the template 'for every input the law returns true; each argument reads behind the call as it read before'; 0 by the template 'total and deterministic' (their statements: YtdikaomebbpmhabDoorTotals.lean).
  GIVEN WITH THE SEED: the statements are not yours to turn. If you find one false, say at which input.
  Laid BY PROGRAM, IN A SANDBOX (cutbox-rows.mjs): the forced cells as the released guide's own fill.sh prints them over the translation 5dc484808a2c8e56… (all of the seat's roots in one cut). By AI agents, Wed Nov 11 2026. No macro, syntax, notation, axiom, sorry.
-/
import Derived.Test.YtdikaomebbpmhabDoorChecked
import GoSem.Claim
import GoSem.ClaimJoined
import GoSem.ClaimMapViews
import Derived.JoinedTies
import Derived.KernelRfl
namespace Go.Proofs.YtdikaomebbpmhabDoor
/- THE CELL 'sum', in the pinned program and in every row, IS THE sha256 OF THE DUMP (.gsa) THAT YtdikaomebbpmhabDoorProg.lean LOADS. Nothing in Lean hashes anything: it is a label: what it is worth is what the hold of that sum in a sandbox is worth. -/
noncomputable def Tryd.pinned : Pinned := { name := "ytdikaomebbpmhabdoor", sum := "5dc484808a2c8e564b4adcc2b2d170677aaa44bd62b1070fd9a5633a92ba7fcf", checked := Tryd.checked }
namespace Rows
def none {H : Type} : Left H := { results := [], args := [] }

/- WHAT THE LISTED PACKAGE-LEVEL VARIABLES READ AS WHEN THE CALL BEGINS. Each datum BY PROGRAM (the guide's laid-datum.mjs) off the statement by which the dump's own 'gosem.cut.vars' lays the variable. In a bare row this is a premise. The card (YtdikaomebbpmhabDoorCards.lean) ties it to the program's text. -/
def laid_hypercube_truth_meets {H : Type} : DataW H := .agg [.agg [.lit (.int .i64 0), .lit (.int .i64 0), .lit (.int .i64 0), .lit (.int .i64 0)], .agg [.lit (.int .i64 0), .lit (.int .i64 1), .lit (.int .i64 2), .lit (.int .i64 3)], .agg [.lit (.int .i64 0), .lit (.int .i64 2), .lit (.int .i64 2), .lit (.int .i64 0)], .agg [.lit (.int .i64 0), .lit (.int .i64 3), .lit (.int .i64 0), .lit (.int .i64 3)]]
def laid_hypercube_truth_joins {H : Type} : DataW H := .agg [.agg [.lit (.int .i64 0), .lit (.int .i64 1), .lit (.int .i64 2), .lit (.int .i64 3)], .agg [.lit (.int .i64 1), .lit (.int .i64 1), .lit (.int .i64 1), .lit (.int .i64 1)], .agg [.lit (.int .i64 2), .lit (.int .i64 1), .lit (.int .i64 2), .lit (.int .i64 1)], .agg [.lit (.int .i64 3), .lit (.int .i64 1), .lit (.int .i64 1), .lit (.int .i64 3)]]
def laid_hypercube_truth_nots {H : Type} : DataW H := .agg [.lit (.int .i64 1), .lit (.int .i64 0), .lit (.int .i64 2), .lit (.int .i64 3)]

/-- 'hypercubelaw05.FaceTruth': WHATEVER THE INPUT: true; the input reads as it did. -/
def faceTruthSpec : ChangeSpec := { name := "faceTruth", fn := fun _ => fun
  | [d1, d2] => { results := [.lit (.bool true)], args := [d1, d2] }
  | _ => none }
def faceTruthRow : OpenClaim := { program := "ytdikaomebbpmhabdoor", sum := "5dc484808a2c8e564b4adcc2b2d170677aaa44bd62b1070fd9a5633a92ba7fcf", func := "hypercube/hypercubelaw05.FaceTruth", spec := "faceTruth", unfollowed := true, recurses := true, named := ["hypercube/truth.meets", "hypercube/truth.nots", "hypercube/truth.joins"], plainKeys := false, apart := false, laid := [("hypercube/truth.meets", laid_hypercube_truth_meets), ("hypercube/truth.joins", laid_hypercube_truth_joins), ("hypercube/truth.nots", laid_hypercube_truth_nots)] }
def FaceTruthSaid : Prop := faceTruthRow.holds Tryd.pinned (OpenSpec.ofChange faceTruthSpec)

/-- ITS FALSE NEIGHBOUR: 'it returns false'. Refute it at one input. -/
def faceTruthWrong : ChangeSpec := { name := "faceTruth", fn := fun _ => fun
  | [d1, d2] => { results := [.lit (.bool false)], args := [d1, d2] }
  | _ => none }
def FaceTruthWrongFalsely : Prop := faceTruthRow.holds Tryd.pinned (OpenSpec.ofChange faceTruthWrong)

/- THE SECOND FORM. 'bulk': how many values and letters a reading holds, each counted each time it is reached (what is shared counts as often as it is met; a slice's spare places count too). A statement '..UptoSaid' is the law's where the arguments, and the package variables that the reading takes, are together of bulk at most 1048576: NARROWER than '..Said'. Prove '..Said' where nothing that the law and all that it calls make is longer than what came in: it says more and counts as full. Else prove '..UptoSaid'. A law counts once. -/
mutual
def uptoBulk {H : Type} : DataW H → Nat
  | .lit (.string bytes) => bytes.length + 1
  | .lit _ => 1
  | .nil => 1
  | .ptr d => uptoBulk d + 1
  | .slice elems spare => uptoBulkAll elems + uptoBulkAll spare + 1
  | .agg parts => uptoBulkAll parts + 1
  | .iface _ d => uptoBulk d + 1
  | .map entries => uptoBulkEntries entries + 1
  | .held _ => 1
def uptoBulkAll {H : Type} : List (DataW H) → Nat
  | [] => 0
  | d :: r => uptoBulk d + uptoBulkAll r
def uptoBulkEntries {H : Type} : List (Lit × DataW H) → Nat
  | [] => 0
  | x :: r => uptoBulkEntry x + uptoBulkEntries r
def uptoBulkEntry {H : Type} : Lit × DataW H → Nat
  | (.string bytes, d) => bytes.length + uptoBulk d + 1
  | (_, d) => uptoBulk d + 1
 end
def uptoSmall : (H : Type) → List (DataW H) → Bool := fun _ ds => decide (uptoBulkAll ds ≤ 1048576)
def OpenSpec.upto (s : _root_.Go.ChangeSpec) : _root_.Go.OpenSpec := { _root_.Go.OpenSpec.ofChange s with cond := some uptoSmall }

/-- 'hypercubelaw05.FaceTruth', WHERE WHAT IT READS IS OF BULK AT MOST 1048576: true; the input reads as it did. -/
def faceTruthUptoRow : OpenClaim := { program := "ytdikaomebbpmhabdoor", sum := "5dc484808a2c8e564b4adcc2b2d170677aaa44bd62b1070fd9a5633a92ba7fcf", func := "hypercube/hypercubelaw05.FaceTruth", spec := "faceTruth", unfollowed := true, recurses := true, named := ["hypercube/truth.meets", "hypercube/truth.nots", "hypercube/truth.joins"], plainKeys := false, apart := false, laid := [("hypercube/truth.meets", laid_hypercube_truth_meets), ("hypercube/truth.joins", laid_hypercube_truth_joins), ("hypercube/truth.nots", laid_hypercube_truth_nots)], narrowed := true }
def FaceTruthUptoSaid : Prop := faceTruthUptoRow.holds Tryd.pinned (OpenSpec.upto faceTruthSpec)

end Rows
end Go.Proofs.YtdikaomebbpmhabDoor
