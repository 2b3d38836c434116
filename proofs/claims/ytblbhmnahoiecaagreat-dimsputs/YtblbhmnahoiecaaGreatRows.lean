/-
  NARROWER THAN 'FOR EVERY INPUT', by the rows' own cells (each row's printed sentence says how): DimsPuts: loops · DimsPlugs: loops · BuildTypes: loops · BuildMay: loops.
  DERIVED. THE GIVEN ROWS OF THIS SEAT. 4 by the template 'for every input the law returns true; each argument reads behind the call as it read before'; 0 by the template 'total and deterministic' (their statements: YtblbhmnahoiecaaGreatTotals.lean).
  GIVEN WITH THE SEED: the statements are not yours to turn. If you find one false, say at which input.
  Laid BY PROGRAM, IN A SANDBOX (cutbox-rows.mjs): the forced cells as the released guide's own fill.sh prints them over the translation 905a1540ed5d6c87… (all of the seat's roots in one cut). By AI agents, Wed Nov 11 2026. No macro, syntax, notation, axiom, sorry.
-/
import Derived.Test.YtblbhmnahoiecaaGreatChecked
import GoSem.Claim
import GoSem.ClaimJoined
import GoSem.ClaimMapViews
import Derived.JoinedTies
import Derived.KernelRfl
namespace Go.Proofs.YtblbhmnahoiecaaGreat
/- THE CELL 'sum', in the pinned program and in every row, IS THE sha256 OF THE DUMP (.gsa) THAT YtblbhmnahoiecaaGreatProg.lean LOADS. Nothing in Lean hashes anything: it is a label: what it is worth is what the hold of that sum in a sandbox is worth. -/
noncomputable def Tryz.pinned : Pinned := { name := "ytblbhmnahoiecaagreat", sum := "905a1540ed5d6c87f4cb7300165a754f15a17649bb541c03e20d71e5fbbe3c6e", checked := Tryz.checked }
namespace Rows
def none {H : Type} : Left H := { results := [], args := [] }

/-- 'hypercubelaw13.DimsPuts': WHATEVER THE INPUT: true; the input reads as it did. -/
def dimsPutsSpec : ChangeSpec := { name := "dimsPuts", fn := fun _ => fun
  | [d1, d2, d3] => { results := [.lit (.bool true)], args := [d1, d2, d3] }
  | _ => none }
def dimsPutsRow : OpenClaim := { program := "ytblbhmnahoiecaagreat", sum := "905a1540ed5d6c87f4cb7300165a754f15a17649bb541c03e20d71e5fbbe3c6e", func := "hypercube/hypercubelaw13.DimsPuts", spec := "dimsPuts", unfollowed := true, recurses := true, loops := true, plainKeys := false, apart := false }
def DimsPutsSaid : Prop := dimsPutsRow.holds Tryz.pinned (OpenSpec.ofChange dimsPutsSpec)

/-- ITS FALSE NEIGHBOUR: 'it returns false'. Refute it at one input. -/
def dimsPutsWrong : ChangeSpec := { name := "dimsPuts", fn := fun _ => fun
  | [d1, d2, d3] => { results := [.lit (.bool false)], args := [d1, d2, d3] }
  | _ => none }
def DimsPutsWrongFalsely : Prop := dimsPutsRow.holds Tryz.pinned (OpenSpec.ofChange dimsPutsWrong)

/-- 'hypercubelaw13.DimsPlugs': WHATEVER THE INPUT: true; the input reads as it did. -/
def dimsPlugsSpec : ChangeSpec := { name := "dimsPlugs", fn := fun _ => fun
  | [d1, d2, d3, d4, d5] => { results := [.lit (.bool true)], args := [d1, d2, d3, d4, d5] }
  | _ => none }
def dimsPlugsRow : OpenClaim := { program := "ytblbhmnahoiecaagreat", sum := "905a1540ed5d6c87f4cb7300165a754f15a17649bb541c03e20d71e5fbbe3c6e", func := "hypercube/hypercubelaw13.DimsPlugs", spec := "dimsPlugs", unfollowed := true, recurses := true, loops := true, plainKeys := false, apart := false }
def DimsPlugsSaid : Prop := dimsPlugsRow.holds Tryz.pinned (OpenSpec.ofChange dimsPlugsSpec)

/-- ITS FALSE NEIGHBOUR: 'it returns false'. Refute it at one input. -/
def dimsPlugsWrong : ChangeSpec := { name := "dimsPlugs", fn := fun _ => fun
  | [d1, d2, d3, d4, d5] => { results := [.lit (.bool false)], args := [d1, d2, d3, d4, d5] }
  | _ => none }
def DimsPlugsWrongFalsely : Prop := dimsPlugsRow.holds Tryz.pinned (OpenSpec.ofChange dimsPlugsWrong)

/-- 'hypercubelaw15.BuildTypes': WHATEVER THE INPUT: true; the input reads as it did. -/
def buildTypesSpec : ChangeSpec := { name := "buildTypes", fn := fun _ => fun
  | [d1, d2, d3, d4] => { results := [.lit (.bool true)], args := [d1, d2, d3, d4] }
  | _ => none }
def buildTypesRow : OpenClaim := { program := "ytblbhmnahoiecaagreat", sum := "905a1540ed5d6c87f4cb7300165a754f15a17649bb541c03e20d71e5fbbe3c6e", func := "hypercube/hypercubelaw15.BuildTypes", spec := "buildTypes", unfollowed := true, recurses := true, loops := true, plainKeys := false, apart := false }
def BuildTypesSaid : Prop := buildTypesRow.holds Tryz.pinned (OpenSpec.ofChange buildTypesSpec)

/-- ITS FALSE NEIGHBOUR: 'it returns false'. Refute it at one input. -/
def buildTypesWrong : ChangeSpec := { name := "buildTypes", fn := fun _ => fun
  | [d1, d2, d3, d4] => { results := [.lit (.bool false)], args := [d1, d2, d3, d4] }
  | _ => none }
def BuildTypesWrongFalsely : Prop := buildTypesRow.holds Tryz.pinned (OpenSpec.ofChange buildTypesWrong)

/-- 'hypercubelaw15.BuildMay': WHATEVER THE INPUT: true; the input reads as it did. -/
def buildMaySpec : ChangeSpec := { name := "buildMay", fn := fun _ => fun
  | [d1, d2, d3, d4, d5, d6] => { results := [.lit (.bool true)], args := [d1, d2, d3, d4, d5, d6] }
  | _ => none }
def buildMayRow : OpenClaim := { program := "ytblbhmnahoiecaagreat", sum := "905a1540ed5d6c87f4cb7300165a754f15a17649bb541c03e20d71e5fbbe3c6e", func := "hypercube/hypercubelaw15.BuildMay", spec := "buildMay", unfollowed := true, recurses := true, loops := true, plainKeys := false, apart := false }
def BuildMaySaid : Prop := buildMayRow.holds Tryz.pinned (OpenSpec.ofChange buildMaySpec)

/-- ITS FALSE NEIGHBOUR: 'it returns false'. Refute it at one input. -/
def buildMayWrong : ChangeSpec := { name := "buildMay", fn := fun _ => fun
  | [d1, d2, d3, d4, d5, d6] => { results := [.lit (.bool false)], args := [d1, d2, d3, d4, d5, d6] }
  | _ => none }
def BuildMayWrongFalsely : Prop := buildMayRow.holds Tryz.pinned (OpenSpec.ofChange buildMayWrong)

/- THE SECOND FORM. 'bulk': how many values and letters a reading holds, each counted each time it is reached (what is shared counts as often as it is met; a slice's spare places count too). A statement '..UptoSaid' is the law's where the arguments, and the package variables that the reading takes, are together of bulk at most 1048576: NARROWER than '..Said'. Prove '..Said' where nothing that the law and all that it calls make is longer than what came in: it says more and counts as full. Else prove '..UptoSaid'. A law counts once. -/
mutual
def uptoBulk {H : Type} : DataW H → Nat
  | .lit (.string bytes) => bytes.length + 1
  | .lit _ => 1
  | .nil => 1
  | .ptr d => uptoBulk d + 1
  | .slice elems spare => uptoBulkAll elems + uptoBulkAll spare + 1
  | .agg parts => uptoBulkAll parts + 1
  | .iface _ d => uptoBulk d + 1
  | .map entries => uptoBulkEntries entries + 1
  | .held _ => 1
def uptoBulkAll {H : Type} : List (DataW H) → Nat
  | [] => 0
  | d :: r => uptoBulk d + uptoBulkAll r
def uptoBulkEntries {H : Type} : List (Lit × DataW H) → Nat
  | [] => 0
  | x :: r => uptoBulkEntry x + uptoBulkEntries r
def uptoBulkEntry {H : Type} : Lit × DataW H → Nat
  | (.string bytes, d) => bytes.length + uptoBulk d + 1
  | (_, d) => uptoBulk d + 1
 end
def uptoSmall : (H : Type) → List (DataW H) → Bool := fun _ ds => decide (uptoBulkAll ds ≤ 1048576)
def OpenSpec.upto (s : _root_.Go.ChangeSpec) : _root_.Go.OpenSpec := { _root_.Go.OpenSpec.ofChange s with cond := some uptoSmall }

/-- 'hypercubelaw13.DimsPuts', WHERE WHAT IT READS IS OF BULK AT MOST 1048576: true; the input reads as it did. -/
def dimsPutsUptoRow : OpenClaim := { program := "ytblbhmnahoiecaagreat", sum := "905a1540ed5d6c87f4cb7300165a754f15a17649bb541c03e20d71e5fbbe3c6e", func := "hypercube/hypercubelaw13.DimsPuts", spec := "dimsPuts", unfollowed := true, recurses := true, loops := true, plainKeys := false, apart := false, narrowed := true }
def DimsPutsUptoSaid : Prop := dimsPutsUptoRow.holds Tryz.pinned (OpenSpec.upto dimsPutsSpec)

/-- 'hypercubelaw13.DimsPlugs', WHERE WHAT IT READS IS OF BULK AT MOST 1048576: true; the input reads as it did. -/
def dimsPlugsUptoRow : OpenClaim := { program := "ytblbhmnahoiecaagreat", sum := "905a1540ed5d6c87f4cb7300165a754f15a17649bb541c03e20d71e5fbbe3c6e", func := "hypercube/hypercubelaw13.DimsPlugs", spec := "dimsPlugs", unfollowed := true, recurses := true, loops := true, plainKeys := false, apart := false, narrowed := true }
def DimsPlugsUptoSaid : Prop := dimsPlugsUptoRow.holds Tryz.pinned (OpenSpec.upto dimsPlugsSpec)

/-- 'hypercubelaw15.BuildTypes', WHERE WHAT IT READS IS OF BULK AT MOST 1048576: true; the input reads as it did. -/
def buildTypesUptoRow : OpenClaim := { program := "ytblbhmnahoiecaagreat", sum := "905a1540ed5d6c87f4cb7300165a754f15a17649bb541c03e20d71e5fbbe3c6e", func := "hypercube/hypercubelaw15.BuildTypes", spec := "buildTypes", unfollowed := true, recurses := true, loops := true, plainKeys := false, apart := false, narrowed := true }
def BuildTypesUptoSaid : Prop := buildTypesUptoRow.holds Tryz.pinned (OpenSpec.upto buildTypesSpec)

/-- 'hypercubelaw15.BuildMay', WHERE WHAT IT READS IS OF BULK AT MOST 1048576: true; the input reads as it did. -/
def buildMayUptoRow : OpenClaim := { program := "ytblbhmnahoiecaagreat", sum := "905a1540ed5d6c87f4cb7300165a754f15a17649bb541c03e20d71e5fbbe3c6e", func := "hypercube/hypercubelaw15.BuildMay", spec := "buildMay", unfollowed := true, recurses := true, loops := true, plainKeys := false, apart := false, narrowed := true }
def BuildMayUptoSaid : Prop := buildMayUptoRow.holds Tryz.pinned (OpenSpec.upto buildMaySpec)

end Rows
end Go.Proofs.YtblbhmnahoiecaaGreat
