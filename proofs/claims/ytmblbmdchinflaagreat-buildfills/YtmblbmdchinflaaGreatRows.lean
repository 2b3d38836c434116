/-
  NARROWER THAN 'FOR EVERY INPUT', by the rows' own cells (each row's printed sentence says how): BuildFills: loops · BuildEnds: loops · BetaPlugs: loops.
  DERIVED. THE GIVEN ROWS OF THIS SEAT. 3 by the template 'for every input the law returns true; each argument reads behind the call as it read before'; 0 by the template 'total and deterministic' (their statements: YtmblbmdchinflaaGreatTotals.lean).
  GIVEN WITH THE SEED: the statements are not yours to turn. If you find one false, say at which input.
  Laid BY PROGRAM, IN A SANDBOX (cutbox-rows.mjs): the forced cells as the released guide's own fill.sh prints them over the translation 13bf5c1ac01a66a1… (all of the seat's roots in one cut). By AI agents, Wed Nov 11 2026. No macro, syntax, notation, axiom, sorry.
-/
import Derived.Test.YtmblbmdchinflaaGreatChecked
import GoSem.Claim
import GoSem.ClaimJoined
import GoSem.ClaimMapViews
import Derived.JoinedTies
import Derived.KernelRfl
namespace Go.Proofs.YtmblbmdchinflaaGreat
/- THE CELL 'sum', in the pinned program and in every row, IS THE sha256 OF THE DUMP (.gsa) THAT YtmblbmdchinflaaGreatProg.lean LOADS. Nothing in Lean hashes anything: it is a label: what it is worth is what the hold of that sum in a sandbox is worth. -/
noncomputable def Tryz.pinned : Pinned := { name := "ytmblbmdchinflaagreat", sum := "13bf5c1ac01a66a124c8822eb975e42ce56e7242f252a8389f886cd22e4b115f", checked := Tryz.checked }
namespace Rows
def none {H : Type} : Left H := { results := [], args := [] }

/-- 'hypercubelaw15.BuildFills': WHATEVER THE INPUT: true; the input reads as it did. -/
def buildFillsSpec : ChangeSpec := { name := "buildFills", fn := fun _ => fun
  | [d1, d2, d3] => { results := [.lit (.bool true)], args := [d1, d2, d3] }
  | _ => none }
def buildFillsRow : OpenClaim := { program := "ytmblbmdchinflaagreat", sum := "13bf5c1ac01a66a124c8822eb975e42ce56e7242f252a8389f886cd22e4b115f", func := "hypercube/hypercubelaw15.BuildFills", spec := "buildFills", unfollowed := true, recurses := true, loops := true, plainKeys := false, apart := false }
def BuildFillsSaid : Prop := buildFillsRow.holds Tryz.pinned (OpenSpec.ofChange buildFillsSpec)

/-- ITS FALSE NEIGHBOUR: 'it returns false'. Refute it at one input. -/
def buildFillsWrong : ChangeSpec := { name := "buildFills", fn := fun _ => fun
  | [d1, d2, d3] => { results := [.lit (.bool false)], args := [d1, d2, d3] }
  | _ => none }
def BuildFillsWrongFalsely : Prop := buildFillsRow.holds Tryz.pinned (OpenSpec.ofChange buildFillsWrong)

/-- 'hypercubelaw15.BuildEnds': WHATEVER THE INPUT: true; the input reads as it did. -/
def buildEndsSpec : ChangeSpec := { name := "buildEnds", fn := fun _ => fun
  | [d1, d2, d3] => { results := [.lit (.bool true)], args := [d1, d2, d3] }
  | _ => none }
def buildEndsRow : OpenClaim := { program := "ytmblbmdchinflaagreat", sum := "13bf5c1ac01a66a124c8822eb975e42ce56e7242f252a8389f886cd22e4b115f", func := "hypercube/hypercubelaw15.BuildEnds", spec := "buildEnds", unfollowed := true, recurses := true, loops := true, plainKeys := false, apart := false }
def BuildEndsSaid : Prop := buildEndsRow.holds Tryz.pinned (OpenSpec.ofChange buildEndsSpec)

/-- ITS FALSE NEIGHBOUR: 'it returns false'. Refute it at one input. -/
def buildEndsWrong : ChangeSpec := { name := "buildEnds", fn := fun _ => fun
  | [d1, d2, d3] => { results := [.lit (.bool false)], args := [d1, d2, d3] }
  | _ => none }
def BuildEndsWrongFalsely : Prop := buildEndsRow.holds Tryz.pinned (OpenSpec.ofChange buildEndsWrong)

/-- 'hypercubelaw16.BetaPlugs': WHATEVER THE INPUT: true; the input reads as it did. -/
def betaPlugsSpec : ChangeSpec := { name := "betaPlugs", fn := fun _ => fun
  | [d1, d2] => { results := [.lit (.bool true)], args := [d1, d2] }
  | _ => none }
def betaPlugsRow : OpenClaim := { program := "ytmblbmdchinflaagreat", sum := "13bf5c1ac01a66a124c8822eb975e42ce56e7242f252a8389f886cd22e4b115f", func := "hypercube/hypercubelaw16.BetaPlugs", spec := "betaPlugs", unfollowed := true, recurses := true, loops := true, plainKeys := false, apart := false }
def BetaPlugsSaid : Prop := betaPlugsRow.holds Tryz.pinned (OpenSpec.ofChange betaPlugsSpec)

/-- ITS FALSE NEIGHBOUR: 'it returns false'. Refute it at one input. -/
def betaPlugsWrong : ChangeSpec := { name := "betaPlugs", fn := fun _ => fun
  | [d1, d2] => { results := [.lit (.bool false)], args := [d1, d2] }
  | _ => none }
def BetaPlugsWrongFalsely : Prop := betaPlugsRow.holds Tryz.pinned (OpenSpec.ofChange betaPlugsWrong)

/- THE SECOND FORM. 'bulk': how many values and letters a reading holds, each counted each time it is reached (what is shared counts as often as it is met; a slice's spare places count too). A statement '..UptoSaid' is the law's where the arguments, and the package variables that the reading takes, are together of bulk at most 1048576: NARROWER than '..Said'. Prove '..Said' where nothing that the law and all that it calls make is longer than what came in: it says more and counts as full. Else prove '..UptoSaid'. A law counts once. -/
mutual
def uptoBulk {H : Type} : DataW H → Nat
  | .lit (.string bytes) => bytes.length + 1
  | .lit _ => 1
  | .nil => 1
  | .ptr d => uptoBulk d + 1
  | .slice elems spare => uptoBulkAll elems + uptoBulkAll spare + 1
  | .agg parts => uptoBulkAll parts + 1
  | .iface _ d => uptoBulk d + 1
  | .map entries => uptoBulkEntries entries + 1
  | .held _ => 1
def uptoBulkAll {H : Type} : List (DataW H) → Nat
  | [] => 0
  | d :: r => uptoBulk d + uptoBulkAll r
def uptoBulkEntries {H : Type} : List (Lit × DataW H) → Nat
  | [] => 0
  | x :: r => uptoBulkEntry x + uptoBulkEntries r
def uptoBulkEntry {H : Type} : Lit × DataW H → Nat
  | (.string bytes, d) => bytes.length + uptoBulk d + 1
  | (_, d) => uptoBulk d + 1
 end
def uptoSmall : (H : Type) → List (DataW H) → Bool := fun _ ds => decide (uptoBulkAll ds ≤ 1048576)
def OpenSpec.upto (s : _root_.Go.ChangeSpec) : _root_.Go.OpenSpec := { _root_.Go.OpenSpec.ofChange s with cond := some uptoSmall }

/-- 'hypercubelaw15.BuildFills', WHERE WHAT IT READS IS OF BULK AT MOST 1048576: true; the input reads as it did. -/
def buildFillsUptoRow : OpenClaim := { program := "ytmblbmdchinflaagreat", sum := "13bf5c1ac01a66a124c8822eb975e42ce56e7242f252a8389f886cd22e4b115f", func := "hypercube/hypercubelaw15.BuildFills", spec := "buildFills", unfollowed := true, recurses := true, loops := true, plainKeys := false, apart := false, narrowed := true }
def BuildFillsUptoSaid : Prop := buildFillsUptoRow.holds Tryz.pinned (OpenSpec.upto buildFillsSpec)

/-- 'hypercubelaw15.BuildEnds', WHERE WHAT IT READS IS OF BULK AT MOST 1048576: true; the input reads as it did. -/
def buildEndsUptoRow : OpenClaim := { program := "ytmblbmdchinflaagreat", sum := "13bf5c1ac01a66a124c8822eb975e42ce56e7242f252a8389f886cd22e4b115f", func := "hypercube/hypercubelaw15.BuildEnds", spec := "buildEnds", unfollowed := true, recurses := true, loops := true, plainKeys := false, apart := false, narrowed := true }
def BuildEndsUptoSaid : Prop := buildEndsUptoRow.holds Tryz.pinned (OpenSpec.upto buildEndsSpec)

/-- 'hypercubelaw16.BetaPlugs', WHERE WHAT IT READS IS OF BULK AT MOST 1048576: true; the input reads as it did. -/
def betaPlugsUptoRow : OpenClaim := { program := "ytmblbmdchinflaagreat", sum := "13bf5c1ac01a66a124c8822eb975e42ce56e7242f252a8389f886cd22e4b115f", func := "hypercube/hypercubelaw16.BetaPlugs", spec := "betaPlugs", unfollowed := true, recurses := true, loops := true, plainKeys := false, apart := false, narrowed := true }
def BetaPlugsUptoSaid : Prop := betaPlugsUptoRow.holds Tryz.pinned (OpenSpec.upto betaPlugsSpec)

end Rows
end Go.Proofs.YtmblbmdchinflaaGreat
