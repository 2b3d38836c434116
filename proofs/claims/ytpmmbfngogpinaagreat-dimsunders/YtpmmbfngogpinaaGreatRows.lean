/-
  NARROWER THAN 'FOR EVERY INPUT', by the rows' own cells (each row's printed sentence says how): DimsPuts: loops · DimsUnders: loops · SystemFaces: loops · SystemRestricts: loops.
  DERIVED. THE GIVEN ROWS OF THIS SEAT. 5 by the template 'for every input the law returns true; each argument reads behind the call as it read before'; 0 by the template 'total and deterministic' (their statements: YtpmmbfngogpinaaGreatTotals.lean).
  GIVEN WITH THE SEED: the statements are not yours to turn. If you find one false, say at which input.
  Laid BY PROGRAM, IN A SANDBOX (cutbox-rows.mjs): the forced cells as the released guide's own fill.sh prints them over the translation 2e711d728b88b3db… (all of the seat's roots in one cut). By AI agents, Wed Nov 11 2026. No macro, syntax, notation, axiom, sorry.
-/
import Derived.Test.YtpmmbfngogpinaaGreatChecked
import GoSem.Claim
import GoSem.ClaimJoined
import GoSem.ClaimMapViews
import Derived.JoinedTies
import Derived.KernelRfl
namespace Go.Proofs.YtpmmbfngogpinaaGreat
/- THE CELL 'sum', in the pinned program and in every row, IS THE sha256 OF THE DUMP (.gsa) THAT YtpmmbfngogpinaaGreatProg.lean LOADS. Nothing in Lean hashes anything: it is a label: what it is worth is what the hold of that sum in a sandbox is worth. -/
noncomputable def Tryz.pinned : Pinned := { name := "ytpmmbfngogpinaagreat", sum := "2e711d728b88b3dbfc709bcb2edbcb84470d2643f099ffd8a6213ac0cdf27f72", checked := Tryz.checked }
namespace Rows
def none {H : Type} : Left H := { results := [], args := [] }

/-- 'hypercubelaw13.DimsPuts': WHATEVER THE INPUT: true; the input reads as it did. -/
def dimsPutsSpec : ChangeSpec := { name := "dimsPuts", fn := fun _ => fun
  | [d1, d2, d3] => { results := [.lit (.bool true)], args := [d1, d2, d3] }
  | _ => none }
def dimsPutsRow : OpenClaim := { program := "ytpmmbfngogpinaagreat", sum := "2e711d728b88b3dbfc709bcb2edbcb84470d2643f099ffd8a6213ac0cdf27f72", func := "hypercube/hypercubelaw13.DimsPuts", spec := "dimsPuts", unfollowed := true, recurses := true, loops := true, plainKeys := false, apart := false }
def DimsPutsSaid : Prop := dimsPutsRow.holds Tryz.pinned (OpenSpec.ofChange dimsPutsSpec)

/-- ITS FALSE NEIGHBOUR: 'it returns false'. Refute it at one input. -/
def dimsPutsWrong : ChangeSpec := { name := "dimsPuts", fn := fun _ => fun
  | [d1, d2, d3] => { results := [.lit (.bool false)], args := [d1, d2, d3] }
  | _ => none }
def DimsPutsWrongFalsely : Prop := dimsPutsRow.holds Tryz.pinned (OpenSpec.ofChange dimsPutsWrong)

/-- 'hypercubelaw13.DimsUnders': WHATEVER THE INPUT: true; the input reads as it did. -/
def dimsUndersSpec : ChangeSpec := { name := "dimsUnders", fn := fun _ => fun
  | [d1, d2] => { results := [.lit (.bool true)], args := [d1, d2] }
  | _ => none }
def dimsUndersRow : OpenClaim := { program := "ytpmmbfngogpinaagreat", sum := "2e711d728b88b3dbfc709bcb2edbcb84470d2643f099ffd8a6213ac0cdf27f72", func := "hypercube/hypercubelaw13.DimsUnders", spec := "dimsUnders", unfollowed := true, recurses := true, loops := true, plainKeys := false, apart := false }
def DimsUndersSaid : Prop := dimsUndersRow.holds Tryz.pinned (OpenSpec.ofChange dimsUndersSpec)

/-- ITS FALSE NEIGHBOUR: 'it returns false'. Refute it at one input. -/
def dimsUndersWrong : ChangeSpec := { name := "dimsUnders", fn := fun _ => fun
  | [d1, d2] => { results := [.lit (.bool false)], args := [d1, d2] }
  | _ => none }
def DimsUndersWrongFalsely : Prop := dimsUndersRow.holds Tryz.pinned (OpenSpec.ofChange dimsUndersWrong)

/-- 'hypercubelaw14.SystemFaces': WHATEVER THE INPUT: true; the input reads as it did. -/
def systemFacesSpec : ChangeSpec := { name := "systemFaces", fn := fun _ => fun
  | [d] => { results := [.lit (.bool true)], args := [d] }
  | _ => none }
def systemFacesRow : OpenClaim := { program := "ytpmmbfngogpinaagreat", sum := "2e711d728b88b3dbfc709bcb2edbcb84470d2643f099ffd8a6213ac0cdf27f72", func := "hypercube/hypercubelaw14.SystemFaces", spec := "systemFaces", unfollowed := true, recurses := true, loops := true, plainKeys := false, apart := false }
def SystemFacesSaid : Prop := systemFacesRow.holds Tryz.pinned (OpenSpec.ofChange systemFacesSpec)

/-- ITS FALSE NEIGHBOUR: 'it returns false'. Refute it at one input. -/
def systemFacesWrong : ChangeSpec := { name := "systemFaces", fn := fun _ => fun
  | [d] => { results := [.lit (.bool false)], args := [d] }
  | _ => none }
def SystemFacesWrongFalsely : Prop := systemFacesRow.holds Tryz.pinned (OpenSpec.ofChange systemFacesWrong)

/-- 'hypercubelaw14.SystemRestricts': WHATEVER THE INPUT: true; the input reads as it did. -/
def systemRestrictsSpec : ChangeSpec := { name := "systemRestricts", fn := fun _ => fun
  | [d1, d2] => { results := [.lit (.bool true)], args := [d1, d2] }
  | _ => none }
def systemRestrictsRow : OpenClaim := { program := "ytpmmbfngogpinaagreat", sum := "2e711d728b88b3dbfc709bcb2edbcb84470d2643f099ffd8a6213ac0cdf27f72", func := "hypercube/hypercubelaw14.SystemRestricts", spec := "systemRestricts", unfollowed := true, recurses := true, loops := true, plainKeys := false, apart := false }
def SystemRestrictsSaid : Prop := systemRestrictsRow.holds Tryz.pinned (OpenSpec.ofChange systemRestrictsSpec)

/-- ITS FALSE NEIGHBOUR: 'it returns false'. Refute it at one input. -/
def systemRestrictsWrong : ChangeSpec := { name := "systemRestricts", fn := fun _ => fun
  | [d1, d2] => { results := [.lit (.bool false)], args := [d1, d2] }
  | _ => none }
def SystemRestrictsWrongFalsely : Prop := systemRestrictsRow.holds Tryz.pinned (OpenSpec.ofChange systemRestrictsWrong)

/-- 'hypercubelaw14.SystemNone': WHATEVER THE INPUT: true; the input reads as it did. -/
def systemNoneSpec : ChangeSpec := { name := "systemNone", fn := fun _ => fun
  | [d1, d2, d3, d4] => { results := [.lit (.bool true)], args := [d1, d2, d3, d4] }
  | _ => none }
def systemNoneRow : OpenClaim := { program := "ytpmmbfngogpinaagreat", sum := "2e711d728b88b3dbfc709bcb2edbcb84470d2643f099ffd8a6213ac0cdf27f72", func := "hypercube/hypercubelaw14.SystemNone", spec := "systemNone", unfollowed := true, recurses := true, plainKeys := false, apart := false }
def SystemNoneSaid : Prop := systemNoneRow.holds Tryz.pinned (OpenSpec.ofChange systemNoneSpec)

/-- ITS FALSE NEIGHBOUR: 'it returns false'. Refute it at one input. -/
def systemNoneWrong : ChangeSpec := { name := "systemNone", fn := fun _ => fun
  | [d1, d2, d3, d4] => { results := [.lit (.bool false)], args := [d1, d2, d3, d4] }
  | _ => none }
def SystemNoneWrongFalsely : Prop := systemNoneRow.holds Tryz.pinned (OpenSpec.ofChange systemNoneWrong)

/- THE SECOND FORM. 'bulk': how many values and letters a reading holds, each counted each time it is reached (what is shared counts as often as it is met; a slice's spare places count too). A statement '..UptoSaid' is the law's where the arguments, and the package variables that the reading takes, are together of bulk at most 1048576: NARROWER than '..Said'. Prove '..Said' where nothing that the law and all that it calls make is longer than what came in: it says more and counts as full. Else prove '..UptoSaid'. A law counts once. -/
mutual
def uptoBulk {H : Type} : DataW H → Nat
  | .lit (.string bytes) => bytes.length + 1
  | .lit _ => 1
  | .nil => 1
  | .ptr d => uptoBulk d + 1
  | .slice elems spare => uptoBulkAll elems + uptoBulkAll spare + 1
  | .agg parts => uptoBulkAll parts + 1
  | .iface _ d => uptoBulk d + 1
  | .map entries => uptoBulkEntries entries + 1
  | .held _ => 1
def uptoBulkAll {H : Type} : List (DataW H) → Nat
  | [] => 0
  | d :: r => uptoBulk d + uptoBulkAll r
def uptoBulkEntries {H : Type} : List (Lit × DataW H) → Nat
  | [] => 0
  | x :: r => uptoBulkEntry x + uptoBulkEntries r
def uptoBulkEntry {H : Type} : Lit × DataW H → Nat
  | (.string bytes, d) => bytes.length + uptoBulk d + 1
  | (_, d) => uptoBulk d + 1
 end
def uptoSmall : (H : Type) → List (DataW H) → Bool := fun _ ds => decide (uptoBulkAll ds ≤ 1048576)
def OpenSpec.upto (s : _root_.Go.ChangeSpec) : _root_.Go.OpenSpec := { _root_.Go.OpenSpec.ofChange s with cond := some uptoSmall }

/-- 'hypercubelaw13.DimsPuts', WHERE WHAT IT READS IS OF BULK AT MOST 1048576: true; the input reads as it did. -/
def dimsPutsUptoRow : OpenClaim := { program := "ytpmmbfngogpinaagreat", sum := "2e711d728b88b3dbfc709bcb2edbcb84470d2643f099ffd8a6213ac0cdf27f72", func := "hypercube/hypercubelaw13.DimsPuts", spec := "dimsPuts", unfollowed := true, recurses := true, loops := true, plainKeys := false, apart := false, narrowed := true }
def DimsPutsUptoSaid : Prop := dimsPutsUptoRow.holds Tryz.pinned (OpenSpec.upto dimsPutsSpec)

/-- 'hypercubelaw13.DimsUnders', WHERE WHAT IT READS IS OF BULK AT MOST 1048576: true; the input reads as it did. -/
def dimsUndersUptoRow : OpenClaim := { program := "ytpmmbfngogpinaagreat", sum := "2e711d728b88b3dbfc709bcb2edbcb84470d2643f099ffd8a6213ac0cdf27f72", func := "hypercube/hypercubelaw13.DimsUnders", spec := "dimsUnders", unfollowed := true, recurses := true, loops := true, plainKeys := false, apart := false, narrowed := true }
def DimsUndersUptoSaid : Prop := dimsUndersUptoRow.holds Tryz.pinned (OpenSpec.upto dimsUndersSpec)

/-- 'hypercubelaw14.SystemFaces', WHERE WHAT IT READS IS OF BULK AT MOST 1048576: true; the input reads as it did. -/
def systemFacesUptoRow : OpenClaim := { program := "ytpmmbfngogpinaagreat", sum := "2e711d728b88b3dbfc709bcb2edbcb84470d2643f099ffd8a6213ac0cdf27f72", func := "hypercube/hypercubelaw14.SystemFaces", spec := "systemFaces", unfollowed := true, recurses := true, loops := true, plainKeys := false, apart := false, narrowed := true }
def SystemFacesUptoSaid : Prop := systemFacesUptoRow.holds Tryz.pinned (OpenSpec.upto systemFacesSpec)

/-- 'hypercubelaw14.SystemRestricts', WHERE WHAT IT READS IS OF BULK AT MOST 1048576: true; the input reads as it did. -/
def systemRestrictsUptoRow : OpenClaim := { program := "ytpmmbfngogpinaagreat", sum := "2e711d728b88b3dbfc709bcb2edbcb84470d2643f099ffd8a6213ac0cdf27f72", func := "hypercube/hypercubelaw14.SystemRestricts", spec := "systemRestricts", unfollowed := true, recurses := true, loops := true, plainKeys := false, apart := false, narrowed := true }
def SystemRestrictsUptoSaid : Prop := systemRestrictsUptoRow.holds Tryz.pinned (OpenSpec.upto systemRestrictsSpec)

/-- 'hypercubelaw14.SystemNone', WHERE WHAT IT READS IS OF BULK AT MOST 1048576: true; the input reads as it did. -/
def systemNoneUptoRow : OpenClaim := { program := "ytpmmbfngogpinaagreat", sum := "2e711d728b88b3dbfc709bcb2edbcb84470d2643f099ffd8a6213ac0cdf27f72", func := "hypercube/hypercubelaw14.SystemNone", spec := "systemNone", unfollowed := true, recurses := true, plainKeys := false, apart := false, narrowed := true }
def SystemNoneUptoSaid : Prop := systemNoneUptoRow.holds Tryz.pinned (OpenSpec.upto systemNoneSpec)

end Rows
end Go.Proofs.YtpmmbfngogpinaaGreat
