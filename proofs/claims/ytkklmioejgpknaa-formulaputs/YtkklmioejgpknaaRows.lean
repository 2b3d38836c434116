/-
  No cell of these rows narrows 'for every input' (looked for: loops, veiled, ifaces, maps, wideKeys, modest, calm, conditions, laid).
  DERIVED. THE GIVEN ROWS OF THIS SEAT. 6 by the template 'for every input the law returns true; each argument reads behind the call as it read before'; 0 by the template 'total and deterministic' (their statements: YtkklmioejgpknaaTotals.lean).
  GIVEN WITH THE SEED: the statements are not yours to turn. If you find one false, say at which input.
  Laid BY PROGRAM, IN A SANDBOX (cutbox-rows.mjs): the forced cells as the released guide's own fill.sh prints them over the translation 5b3e1edaa83a819a… (all of the seat's roots in one cut). By AI agents, Wed Nov 11 2026. No macro, syntax, notation, axiom, sorry.
-/
import Derived.Test.YtkklmioejgpknaaChecked
import GoSem.Claim
import GoSem.ClaimJoined
import GoSem.ClaimMapViews
import Derived.JoinedTies
import Derived.KernelRfl
namespace Go.Proofs.Ytkklmioejgpknaa
/- THE CELL 'sum', in the pinned program and in every row, IS THE sha256 OF THE DUMP (.gsa) THAT YtkklmioejgpknaaProg.lean LOADS. Nothing in Lean hashes anything: it is a label: what it is worth is what the hold of that sum in a sandbox is worth. -/
noncomputable def Try.pinned : Pinned := { name := "ytkklmioejgpknaa", sum := "5b3e1edaa83a819aa781e83038e49f6ec2ea406ac00b28791e5d056def4033d3", checked := Try.checked }
namespace Rows
def none {H : Type} : Left H := { results := [], args := [] }

/-- 'hypercubelaw03.FormulaJoins': WHATEVER THE INPUT: true; the input reads as it did. -/
def formulaJoinsSpec : ChangeSpec := { name := "formulaJoins", fn := fun _ => fun
  | [d1, d2, d3] => { results := [.lit (.bool true)], args := [d1, d2, d3] }
  | _ => none }
def formulaJoinsRow : OpenClaim := { program := "ytkklmioejgpknaa", sum := "5b3e1edaa83a819aa781e83038e49f6ec2ea406ac00b28791e5d056def4033d3", func := "hypercube/hypercubelaw03.FormulaJoins", spec := "formulaJoins", unfollowed := true, recurses := true, plainKeys := false, apart := false }
def FormulaJoinsSaid : Prop := formulaJoinsRow.holds Try.pinned (OpenSpec.ofChange formulaJoinsSpec)

/-- ITS FALSE NEIGHBOUR: 'it returns false'. Refute it at one input. -/
def formulaJoinsWrong : ChangeSpec := { name := "formulaJoins", fn := fun _ => fun
  | [d1, d2, d3] => { results := [.lit (.bool false)], args := [d1, d2, d3] }
  | _ => none }
def FormulaJoinsWrongFalsely : Prop := formulaJoinsRow.holds Try.pinned (OpenSpec.ofChange formulaJoinsWrong)

/-- 'hypercubelaw03.FormulaNots': WHATEVER THE INPUT: true; the input reads as it did. -/
def formulaNotsSpec : ChangeSpec := { name := "formulaNots", fn := fun _ => fun
  | [d] => { results := [.lit (.bool true)], args := [d] }
  | _ => none }
def formulaNotsRow : OpenClaim := { program := "ytkklmioejgpknaa", sum := "5b3e1edaa83a819aa781e83038e49f6ec2ea406ac00b28791e5d056def4033d3", func := "hypercube/hypercubelaw03.FormulaNots", spec := "formulaNots", unfollowed := true, recurses := true, plainKeys := false, apart := false }
def FormulaNotsSaid : Prop := formulaNotsRow.holds Try.pinned (OpenSpec.ofChange formulaNotsSpec)

/-- ITS FALSE NEIGHBOUR: 'it returns false'. Refute it at one input. -/
def formulaNotsWrong : ChangeSpec := { name := "formulaNots", fn := fun _ => fun
  | [d] => { results := [.lit (.bool false)], args := [d] }
  | _ => none }
def FormulaNotsWrongFalsely : Prop := formulaNotsRow.holds Try.pinned (OpenSpec.ofChange formulaNotsWrong)

/-- 'hypercubelaw03.FormulaPuts': WHATEVER THE INPUT: true; the input reads as it did. -/
def formulaPutsSpec : ChangeSpec := { name := "formulaPuts", fn := fun _ => fun
  | [d1, d2, d3, d4, d5] => { results := [.lit (.bool true)], args := [d1, d2, d3, d4, d5] }
  | _ => none }
def formulaPutsRow : OpenClaim := { program := "ytkklmioejgpknaa", sum := "5b3e1edaa83a819aa781e83038e49f6ec2ea406ac00b28791e5d056def4033d3", func := "hypercube/hypercubelaw03.FormulaPuts", spec := "formulaPuts", unfollowed := true, recurses := true, plainKeys := false, apart := false }
def FormulaPutsSaid : Prop := formulaPutsRow.holds Try.pinned (OpenSpec.ofChange formulaPutsSpec)

/-- ITS FALSE NEIGHBOUR: 'it returns false'. Refute it at one input. -/
def formulaPutsWrong : ChangeSpec := { name := "formulaPuts", fn := fun _ => fun
  | [d1, d2, d3, d4, d5] => { results := [.lit (.bool false)], args := [d1, d2, d3, d4, d5] }
  | _ => none }
def FormulaPutsWrongFalsely : Prop := formulaPutsRow.holds Try.pinned (OpenSpec.ofChange formulaPutsWrong)

/-- 'hypercubelaw03.FormulaLattice': WHATEVER THE INPUT: true; the input reads as it did. -/
def formulaLatticeSpec : ChangeSpec := { name := "formulaLattice", fn := fun _ => fun
  | [d1, d2, d3] => { results := [.lit (.bool true)], args := [d1, d2, d3] }
  | _ => none }
def formulaLatticeRow : OpenClaim := { program := "ytkklmioejgpknaa", sum := "5b3e1edaa83a819aa781e83038e49f6ec2ea406ac00b28791e5d056def4033d3", func := "hypercube/hypercubelaw03.FormulaLattice", spec := "formulaLattice", unfollowed := true, recurses := true, plainKeys := false, apart := false }
def FormulaLatticeSaid : Prop := formulaLatticeRow.holds Try.pinned (OpenSpec.ofChange formulaLatticeSpec)

/-- ITS FALSE NEIGHBOUR: 'it returns false'. Refute it at one input. -/
def formulaLatticeWrong : ChangeSpec := { name := "formulaLattice", fn := fun _ => fun
  | [d1, d2, d3] => { results := [.lit (.bool false)], args := [d1, d2, d3] }
  | _ => none }
def FormulaLatticeWrongFalsely : Prop := formulaLatticeRow.holds Try.pinned (OpenSpec.ofChange formulaLatticeWrong)

/-- 'hypercubelaw03.FormulaMorgan': WHATEVER THE INPUT: true; the input reads as it did. -/
def formulaMorganSpec : ChangeSpec := { name := "formulaMorgan", fn := fun _ => fun
  | [d1, d2] => { results := [.lit (.bool true)], args := [d1, d2] }
  | _ => none }
def formulaMorganRow : OpenClaim := { program := "ytkklmioejgpknaa", sum := "5b3e1edaa83a819aa781e83038e49f6ec2ea406ac00b28791e5d056def4033d3", func := "hypercube/hypercubelaw03.FormulaMorgan", spec := "formulaMorgan", unfollowed := true, recurses := true, plainKeys := false, apart := false }
def FormulaMorganSaid : Prop := formulaMorganRow.holds Try.pinned (OpenSpec.ofChange formulaMorganSpec)

/-- ITS FALSE NEIGHBOUR: 'it returns false'. Refute it at one input. -/
def formulaMorganWrong : ChangeSpec := { name := "formulaMorgan", fn := fun _ => fun
  | [d1, d2] => { results := [.lit (.bool false)], args := [d1, d2] }
  | _ => none }
def FormulaMorganWrongFalsely : Prop := formulaMorganRow.holds Try.pinned (OpenSpec.ofChange formulaMorganWrong)

/-- 'hypercubelaw03.FormulaSelf': WHATEVER THE INPUT: true; the input reads as it did. -/
def formulaSelfSpec : ChangeSpec := { name := "formulaSelf", fn := fun _ => fun
  | [d1, d2, d3] => { results := [.lit (.bool true)], args := [d1, d2, d3] }
  | _ => none }
def formulaSelfRow : OpenClaim := { program := "ytkklmioejgpknaa", sum := "5b3e1edaa83a819aa781e83038e49f6ec2ea406ac00b28791e5d056def4033d3", func := "hypercube/hypercubelaw03.FormulaSelf", spec := "formulaSelf", unfollowed := true, recurses := true, plainKeys := false, apart := false }
def FormulaSelfSaid : Prop := formulaSelfRow.holds Try.pinned (OpenSpec.ofChange formulaSelfSpec)

/-- ITS FALSE NEIGHBOUR: 'it returns false'. Refute it at one input. -/
def formulaSelfWrong : ChangeSpec := { name := "formulaSelf", fn := fun _ => fun
  | [d1, d2, d3] => { results := [.lit (.bool false)], args := [d1, d2, d3] }
  | _ => none }
def FormulaSelfWrongFalsely : Prop := formulaSelfRow.holds Try.pinned (OpenSpec.ofChange formulaSelfWrong)

/- THE SECOND FORM. 'bulk': how many values and letters a reading holds, each counted each time it is reached (what is shared counts as often as it is met; a slice's spare places count too). A statement '..UptoSaid' is the law's where the arguments, and the package variables that the reading takes, are together of bulk at most 1048576: NARROWER than '..Said'. Prove '..Said' where nothing that the law and all that it calls make is longer than what came in: it says more and counts as full. Else prove '..UptoSaid'. A law counts once. -/
mutual
def uptoBulk {H : Type} : DataW H → Nat
  | .lit (.string bytes) => bytes.length + 1
  | .lit _ => 1
  | .nil => 1
  | .ptr d => uptoBulk d + 1
  | .slice elems spare => uptoBulkAll elems + uptoBulkAll spare + 1
  | .agg parts => uptoBulkAll parts + 1
  | .iface _ d => uptoBulk d + 1
  | .map entries => uptoBulkEntries entries + 1
  | .held _ => 1
def uptoBulkAll {H : Type} : List (DataW H) → Nat
  | [] => 0
  | d :: r => uptoBulk d + uptoBulkAll r
def uptoBulkEntries {H : Type} : List (Lit × DataW H) → Nat
  | [] => 0
  | x :: r => uptoBulkEntry x + uptoBulkEntries r
def uptoBulkEntry {H : Type} : Lit × DataW H → Nat
  | (.string bytes, d) => bytes.length + uptoBulk d + 1
  | (_, d) => uptoBulk d + 1
 end
def uptoSmall : (H : Type) → List (DataW H) → Bool := fun _ ds => decide (uptoBulkAll ds ≤ 1048576)
def OpenSpec.upto (s : _root_.Go.ChangeSpec) : _root_.Go.OpenSpec := { _root_.Go.OpenSpec.ofChange s with cond := some uptoSmall }

/-- 'hypercubelaw03.FormulaJoins', WHERE WHAT IT READS IS OF BULK AT MOST 1048576: true; the input reads as it did. -/
def formulaJoinsUptoRow : OpenClaim := { program := "ytkklmioejgpknaa", sum := "5b3e1edaa83a819aa781e83038e49f6ec2ea406ac00b28791e5d056def4033d3", func := "hypercube/hypercubelaw03.FormulaJoins", spec := "formulaJoins", unfollowed := true, recurses := true, plainKeys := false, apart := false, narrowed := true }
def FormulaJoinsUptoSaid : Prop := formulaJoinsUptoRow.holds Try.pinned (OpenSpec.upto formulaJoinsSpec)

/-- 'hypercubelaw03.FormulaNots', WHERE WHAT IT READS IS OF BULK AT MOST 1048576: true; the input reads as it did. -/
def formulaNotsUptoRow : OpenClaim := { program := "ytkklmioejgpknaa", sum := "5b3e1edaa83a819aa781e83038e49f6ec2ea406ac00b28791e5d056def4033d3", func := "hypercube/hypercubelaw03.FormulaNots", spec := "formulaNots", unfollowed := true, recurses := true, plainKeys := false, apart := false, narrowed := true }
def FormulaNotsUptoSaid : Prop := formulaNotsUptoRow.holds Try.pinned (OpenSpec.upto formulaNotsSpec)

/-- 'hypercubelaw03.FormulaPuts', WHERE WHAT IT READS IS OF BULK AT MOST 1048576: true; the input reads as it did. -/
def formulaPutsUptoRow : OpenClaim := { program := "ytkklmioejgpknaa", sum := "5b3e1edaa83a819aa781e83038e49f6ec2ea406ac00b28791e5d056def4033d3", func := "hypercube/hypercubelaw03.FormulaPuts", spec := "formulaPuts", unfollowed := true, recurses := true, plainKeys := false, apart := false, narrowed := true }
def FormulaPutsUptoSaid : Prop := formulaPutsUptoRow.holds Try.pinned (OpenSpec.upto formulaPutsSpec)

/-- 'hypercubelaw03.FormulaLattice', WHERE WHAT IT READS IS OF BULK AT MOST 1048576: true; the input reads as it did. -/
def formulaLatticeUptoRow : OpenClaim := { program := "ytkklmioejgpknaa", sum := "5b3e1edaa83a819aa781e83038e49f6ec2ea406ac00b28791e5d056def4033d3", func := "hypercube/hypercubelaw03.FormulaLattice", spec := "formulaLattice", unfollowed := true, recurses := true, plainKeys := false, apart := false, narrowed := true }
def FormulaLatticeUptoSaid : Prop := formulaLatticeUptoRow.holds Try.pinned (OpenSpec.upto formulaLatticeSpec)

/-- 'hypercubelaw03.FormulaMorgan', WHERE WHAT IT READS IS OF BULK AT MOST 1048576: true; the input reads as it did. -/
def formulaMorganUptoRow : OpenClaim := { program := "ytkklmioejgpknaa", sum := "5b3e1edaa83a819aa781e83038e49f6ec2ea406ac00b28791e5d056def4033d3", func := "hypercube/hypercubelaw03.FormulaMorgan", spec := "formulaMorgan", unfollowed := true, recurses := true, plainKeys := false, apart := false, narrowed := true }
def FormulaMorganUptoSaid : Prop := formulaMorganUptoRow.holds Try.pinned (OpenSpec.upto formulaMorganSpec)

/-- 'hypercubelaw03.FormulaSelf', WHERE WHAT IT READS IS OF BULK AT MOST 1048576: true; the input reads as it did. -/
def formulaSelfUptoRow : OpenClaim := { program := "ytkklmioejgpknaa", sum := "5b3e1edaa83a819aa781e83038e49f6ec2ea406ac00b28791e5d056def4033d3", func := "hypercube/hypercubelaw03.FormulaSelf", spec := "formulaSelf", unfollowed := true, recurses := true, plainKeys := false, apart := false, narrowed := true }
def FormulaSelfUptoSaid : Prop := formulaSelfUptoRow.holds Try.pinned (OpenSpec.upto formulaSelfSpec)

end Rows
end Go.Proofs.Ytkklmioejgpknaa
