/-
  NARROWER THAN 'FOR EVERY INPUT', by the rows' own cells (each row's printed sentence says how): PlugLifts: loops · PlugLemma: loops · BuildEnds: loops.
  DERIVED. THE GIVEN ROWS OF THIS SEAT. 3 by the template 'for every input the law returns true; each argument reads behind the call as it read before'; 0 by the template 'total and deterministic' (their statements: YtocfamcclfhkcaaGreatTotals.lean).
  GIVEN WITH THE SEED: the statements are not yours to turn. If you find one false, say at which input.
  Laid BY PROGRAM, IN A SANDBOX (cutbox-rows.mjs): the forced cells as the released guide's own fill.sh prints them over the translation 92e421e7ff2977ca… (all of the seat's roots in one cut). By AI agents, Wed Nov 11 2026. No macro, syntax, notation, axiom, sorry.
-/
import Derived.Test.YtocfamcclfhkcaaGreatChecked
import GoSem.Claim
import GoSem.ClaimJoined
import GoSem.ClaimMapViews
import Derived.JoinedTies
import Derived.KernelRfl
namespace Go.Proofs.YtocfamcclfhkcaaGreat
/- THE CELL 'sum', in the pinned program and in every row, IS THE sha256 OF THE DUMP (.gsa) THAT YtocfamcclfhkcaaGreatProg.lean LOADS. Nothing in Lean hashes anything: it is a label: what it is worth is what the hold of that sum in a sandbox is worth. -/
noncomputable def Tryz.pinned : Pinned := { name := "ytocfamcclfhkcaagreat", sum := "92e421e7ff2977ca355b3108f2ddf2debfb3618dee31dd9c296f1c9267048661", checked := Tryz.checked }
namespace Rows
def none {H : Type} : Left H := { results := [], args := [] }

/-- 'hypercubelaw12.PlugLifts': WHATEVER THE INPUT: true; the input reads as it did. -/
def plugLiftsSpec : ChangeSpec := { name := "plugLifts", fn := fun _ => fun
  | [d1, d2, d3] => { results := [.lit (.bool true)], args := [d1, d2, d3] }
  | _ => none }
def plugLiftsRow : OpenClaim := { program := "ytocfamcclfhkcaagreat", sum := "92e421e7ff2977ca355b3108f2ddf2debfb3618dee31dd9c296f1c9267048661", func := "hypercube/hypercubelaw12.PlugLifts", spec := "plugLifts", unfollowed := true, recurses := true, loops := true, plainKeys := false, apart := false }
def PlugLiftsSaid : Prop := plugLiftsRow.holds Tryz.pinned (OpenSpec.ofChange plugLiftsSpec)

/-- ITS FALSE NEIGHBOUR: 'it returns false'. Refute it at one input. -/
def plugLiftsWrong : ChangeSpec := { name := "plugLifts", fn := fun _ => fun
  | [d1, d2, d3] => { results := [.lit (.bool false)], args := [d1, d2, d3] }
  | _ => none }
def PlugLiftsWrongFalsely : Prop := plugLiftsRow.holds Tryz.pinned (OpenSpec.ofChange plugLiftsWrong)

/-- 'hypercubelaw12.PlugLemma': WHATEVER THE INPUT: true; the input reads as it did. -/
def plugLemmaSpec : ChangeSpec := { name := "plugLemma", fn := fun _ => fun
  | [d1, d2, d3, d4] => { results := [.lit (.bool true)], args := [d1, d2, d3, d4] }
  | _ => none }
def plugLemmaRow : OpenClaim := { program := "ytocfamcclfhkcaagreat", sum := "92e421e7ff2977ca355b3108f2ddf2debfb3618dee31dd9c296f1c9267048661", func := "hypercube/hypercubelaw12.PlugLemma", spec := "plugLemma", unfollowed := true, recurses := true, loops := true, plainKeys := false, apart := false }
def PlugLemmaSaid : Prop := plugLemmaRow.holds Tryz.pinned (OpenSpec.ofChange plugLemmaSpec)

/-- ITS FALSE NEIGHBOUR: 'it returns false'. Refute it at one input. -/
def plugLemmaWrong : ChangeSpec := { name := "plugLemma", fn := fun _ => fun
  | [d1, d2, d3, d4] => { results := [.lit (.bool false)], args := [d1, d2, d3, d4] }
  | _ => none }
def PlugLemmaWrongFalsely : Prop := plugLemmaRow.holds Tryz.pinned (OpenSpec.ofChange plugLemmaWrong)

/-- 'hypercubelaw15.BuildEnds': WHATEVER THE INPUT: true; the input reads as it did. -/
def buildEndsSpec : ChangeSpec := { name := "buildEnds", fn := fun _ => fun
  | [d1, d2, d3] => { results := [.lit (.bool true)], args := [d1, d2, d3] }
  | _ => none }
def buildEndsRow : OpenClaim := { program := "ytocfamcclfhkcaagreat", sum := "92e421e7ff2977ca355b3108f2ddf2debfb3618dee31dd9c296f1c9267048661", func := "hypercube/hypercubelaw15.BuildEnds", spec := "buildEnds", unfollowed := true, recurses := true, loops := true, plainKeys := false, apart := false }
def BuildEndsSaid : Prop := buildEndsRow.holds Tryz.pinned (OpenSpec.ofChange buildEndsSpec)

/-- ITS FALSE NEIGHBOUR: 'it returns false'. Refute it at one input. -/
def buildEndsWrong : ChangeSpec := { name := "buildEnds", fn := fun _ => fun
  | [d1, d2, d3] => { results := [.lit (.bool false)], args := [d1, d2, d3] }
  | _ => none }
def BuildEndsWrongFalsely : Prop := buildEndsRow.holds Tryz.pinned (OpenSpec.ofChange buildEndsWrong)

/- THE SECOND FORM. 'bulk': how many values and letters a reading holds, each counted each time it is reached (what is shared counts as often as it is met; a slice's spare places count too). A statement '..UptoSaid' is the law's where the arguments, and the package variables that the reading takes, are together of bulk at most 1048576: NARROWER than '..Said'. Prove '..Said' where nothing that the law and all that it calls make is longer than what came in: it says more and counts as full. Else prove '..UptoSaid'. A law counts once. -/
mutual
def uptoBulk {H : Type} : DataW H → Nat
  | .lit (.string bytes) => bytes.length + 1
  | .lit _ => 1
  | .nil => 1
  | .ptr d => uptoBulk d + 1
  | .slice elems spare => uptoBulkAll elems + uptoBulkAll spare + 1
  | .agg parts => uptoBulkAll parts + 1
  | .iface _ d => uptoBulk d + 1
  | .map entries => uptoBulkEntries entries + 1
  | .held _ => 1
def uptoBulkAll {H : Type} : List (DataW H) → Nat
  | [] => 0
  | d :: r => uptoBulk d + uptoBulkAll r
def uptoBulkEntries {H : Type} : List (Lit × DataW H) → Nat
  | [] => 0
  | x :: r => uptoBulkEntry x + uptoBulkEntries r
def uptoBulkEntry {H : Type} : Lit × DataW H → Nat
  | (.string bytes, d) => bytes.length + uptoBulk d + 1
  | (_, d) => uptoBulk d + 1
 end
def uptoSmall : (H : Type) → List (DataW H) → Bool := fun _ ds => decide (uptoBulkAll ds ≤ 1048576)
def OpenSpec.upto (s : _root_.Go.ChangeSpec) : _root_.Go.OpenSpec := { _root_.Go.OpenSpec.ofChange s with cond := some uptoSmall }

/-- 'hypercubelaw12.PlugLifts', WHERE WHAT IT READS IS OF BULK AT MOST 1048576: true; the input reads as it did. -/
def plugLiftsUptoRow : OpenClaim := { program := "ytocfamcclfhkcaagreat", sum := "92e421e7ff2977ca355b3108f2ddf2debfb3618dee31dd9c296f1c9267048661", func := "hypercube/hypercubelaw12.PlugLifts", spec := "plugLifts", unfollowed := true, recurses := true, loops := true, plainKeys := false, apart := false, narrowed := true }
def PlugLiftsUptoSaid : Prop := plugLiftsUptoRow.holds Tryz.pinned (OpenSpec.upto plugLiftsSpec)

/-- 'hypercubelaw12.PlugLemma', WHERE WHAT IT READS IS OF BULK AT MOST 1048576: true; the input reads as it did. -/
def plugLemmaUptoRow : OpenClaim := { program := "ytocfamcclfhkcaagreat", sum := "92e421e7ff2977ca355b3108f2ddf2debfb3618dee31dd9c296f1c9267048661", func := "hypercube/hypercubelaw12.PlugLemma", spec := "plugLemma", unfollowed := true, recurses := true, loops := true, plainKeys := false, apart := false, narrowed := true }
def PlugLemmaUptoSaid : Prop := plugLemmaUptoRow.holds Tryz.pinned (OpenSpec.upto plugLemmaSpec)

/-- 'hypercubelaw15.BuildEnds', WHERE WHAT IT READS IS OF BULK AT MOST 1048576: true; the input reads as it did. -/
def buildEndsUptoRow : OpenClaim := { program := "ytocfamcclfhkcaagreat", sum := "92e421e7ff2977ca355b3108f2ddf2debfb3618dee31dd9c296f1c9267048661", func := "hypercube/hypercubelaw15.BuildEnds", spec := "buildEnds", unfollowed := true, recurses := true, loops := true, plainKeys := false, apart := false, narrowed := true }
def BuildEndsUptoSaid : Prop := buildEndsUptoRow.holds Tryz.pinned (OpenSpec.upto buildEndsSpec)

end Rows
end Go.Proofs.YtocfamcclfhkcaaGreat
