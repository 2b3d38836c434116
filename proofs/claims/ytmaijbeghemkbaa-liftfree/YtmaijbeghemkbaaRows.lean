/-
  NARROWER THAN 'FOR EVERY INPUT', by the rows' own cells (each row's printed sentence says how): TermSizes: loops · LiftAdds: loops · LiftFree: loops.
  DERIVED. THE GIVEN ROWS OF THIS SEAT. 3 by the template 'for every input the law returns true; each argument reads behind the call as it read before'; 0 by the template 'total and deterministic' (their statements: YtmaijbeghemkbaaTotals.lean).
  GIVEN WITH THE SEED: the statements are not yours to turn. If you find one false, say at which input.
  Laid BY PROGRAM, IN A SANDBOX (cutbox-rows.mjs): the forced cells as the released guide's own fill.sh prints them over the translation 9ab90ef2501be2fc… (all of the seat's roots in one cut). By AI agents, Wed Nov 11 2026. No macro, syntax, notation, axiom, sorry.
-/
import Derived.Test.YtmaijbeghemkbaaChecked
import GoSem.Claim
import GoSem.ClaimJoined
import GoSem.ClaimMapViews
import Derived.JoinedTies
import Derived.KernelRfl
namespace Go.Proofs.Ytmaijbeghemkbaa
/- THE CELL 'sum', in the pinned program and in every row, IS THE sha256 OF THE DUMP (.gsa) THAT YtmaijbeghemkbaaProg.lean LOADS. Nothing in Lean hashes anything: it is a label: what it is worth is what the hold of that sum in a sandbox is worth. -/
noncomputable def Try.pinned : Pinned := { name := "ytmaijbeghemkbaa", sum := "9ab90ef2501be2fccf0d16778aaef0138fa172b265f9ededf41ccb3f6a784bd4", checked := Try.checked }
namespace Rows
def none {H : Type} : Left H := { results := [], args := [] }

/-- 'hypercubelaw10.TermSizes': WHATEVER THE INPUT: true; the input reads as it did. -/
def termSizesSpec : ChangeSpec := { name := "termSizes", fn := fun _ => fun
  | [d1, d2] => { results := [.lit (.bool true)], args := [d1, d2] }
  | _ => none }
def termSizesRow : OpenClaim := { program := "ytmaijbeghemkbaa", sum := "9ab90ef2501be2fccf0d16778aaef0138fa172b265f9ededf41ccb3f6a784bd4", func := "hypercube/hypercubelaw10.TermSizes", spec := "termSizes", unfollowed := true, recurses := true, loops := true, plainKeys := false, apart := false }
def TermSizesSaid : Prop := termSizesRow.holds Try.pinned (OpenSpec.ofChange termSizesSpec)

/-- ITS FALSE NEIGHBOUR: 'it returns false'. Refute it at one input. -/
def termSizesWrong : ChangeSpec := { name := "termSizes", fn := fun _ => fun
  | [d1, d2] => { results := [.lit (.bool false)], args := [d1, d2] }
  | _ => none }
def TermSizesWrongFalsely : Prop := termSizesRow.holds Try.pinned (OpenSpec.ofChange termSizesWrong)

/-- 'hypercubelaw11.LiftAdds': WHATEVER THE INPUT: true; the input reads as it did. -/
def liftAddsSpec : ChangeSpec := { name := "liftAdds", fn := fun _ => fun
  | [d1, d2, d3, d4] => { results := [.lit (.bool true)], args := [d1, d2, d3, d4] }
  | _ => none }
def liftAddsRow : OpenClaim := { program := "ytmaijbeghemkbaa", sum := "9ab90ef2501be2fccf0d16778aaef0138fa172b265f9ededf41ccb3f6a784bd4", func := "hypercube/hypercubelaw11.LiftAdds", spec := "liftAdds", unfollowed := true, recurses := true, loops := true, plainKeys := false, apart := false }
def LiftAddsSaid : Prop := liftAddsRow.holds Try.pinned (OpenSpec.ofChange liftAddsSpec)

/-- ITS FALSE NEIGHBOUR: 'it returns false'. Refute it at one input. -/
def liftAddsWrong : ChangeSpec := { name := "liftAdds", fn := fun _ => fun
  | [d1, d2, d3, d4] => { results := [.lit (.bool false)], args := [d1, d2, d3, d4] }
  | _ => none }
def LiftAddsWrongFalsely : Prop := liftAddsRow.holds Try.pinned (OpenSpec.ofChange liftAddsWrong)

/-- 'hypercubelaw11.LiftFree': WHATEVER THE INPUT: true; the input reads as it did. -/
def liftFreeSpec : ChangeSpec := { name := "liftFree", fn := fun _ => fun
  | [d1, d2, d3, d4] => { results := [.lit (.bool true)], args := [d1, d2, d3, d4] }
  | _ => none }
def liftFreeRow : OpenClaim := { program := "ytmaijbeghemkbaa", sum := "9ab90ef2501be2fccf0d16778aaef0138fa172b265f9ededf41ccb3f6a784bd4", func := "hypercube/hypercubelaw11.LiftFree", spec := "liftFree", unfollowed := true, recurses := true, loops := true, plainKeys := false, apart := false }
def LiftFreeSaid : Prop := liftFreeRow.holds Try.pinned (OpenSpec.ofChange liftFreeSpec)

/-- ITS FALSE NEIGHBOUR: 'it returns false'. Refute it at one input. -/
def liftFreeWrong : ChangeSpec := { name := "liftFree", fn := fun _ => fun
  | [d1, d2, d3, d4] => { results := [.lit (.bool false)], args := [d1, d2, d3, d4] }
  | _ => none }
def LiftFreeWrongFalsely : Prop := liftFreeRow.holds Try.pinned (OpenSpec.ofChange liftFreeWrong)

/- THE SECOND FORM. 'bulk': how many values and letters a reading holds, each counted each time it is reached (what is shared counts as often as it is met; a slice's spare places count too). A statement '..UptoSaid' is the law's where the arguments, and the package variables that the reading takes, are together of bulk at most 1048576: NARROWER than '..Said'. Prove '..Said' where nothing that the law and all that it calls make is longer than what came in: it says more and counts as full. Else prove '..UptoSaid'. A law counts once. -/
mutual
def uptoBulk {H : Type} : DataW H → Nat
  | .lit (.string bytes) => bytes.length + 1
  | .lit _ => 1
  | .nil => 1
  | .ptr d => uptoBulk d + 1
  | .slice elems spare => uptoBulkAll elems + uptoBulkAll spare + 1
  | .agg parts => uptoBulkAll parts + 1
  | .iface _ d => uptoBulk d + 1
  | .map entries => uptoBulkEntries entries + 1
  | .held _ => 1
def uptoBulkAll {H : Type} : List (DataW H) → Nat
  | [] => 0
  | d :: r => uptoBulk d + uptoBulkAll r
def uptoBulkEntries {H : Type} : List (Lit × DataW H) → Nat
  | [] => 0
  | x :: r => uptoBulkEntry x + uptoBulkEntries r
def uptoBulkEntry {H : Type} : Lit × DataW H → Nat
  | (.string bytes, d) => bytes.length + uptoBulk d + 1
  | (_, d) => uptoBulk d + 1
 end
def uptoSmall : (H : Type) → List (DataW H) → Bool := fun _ ds => decide (uptoBulkAll ds ≤ 1048576)
def OpenSpec.upto (s : _root_.Go.ChangeSpec) : _root_.Go.OpenSpec := { _root_.Go.OpenSpec.ofChange s with cond := some uptoSmall }

/-- 'hypercubelaw10.TermSizes', WHERE WHAT IT READS IS OF BULK AT MOST 1048576: true; the input reads as it did. -/
def termSizesUptoRow : OpenClaim := { program := "ytmaijbeghemkbaa", sum := "9ab90ef2501be2fccf0d16778aaef0138fa172b265f9ededf41ccb3f6a784bd4", func := "hypercube/hypercubelaw10.TermSizes", spec := "termSizes", unfollowed := true, recurses := true, loops := true, plainKeys := false, apart := false, narrowed := true }
def TermSizesUptoSaid : Prop := termSizesUptoRow.holds Try.pinned (OpenSpec.upto termSizesSpec)

/-- 'hypercubelaw11.LiftAdds', WHERE WHAT IT READS IS OF BULK AT MOST 1048576: true; the input reads as it did. -/
def liftAddsUptoRow : OpenClaim := { program := "ytmaijbeghemkbaa", sum := "9ab90ef2501be2fccf0d16778aaef0138fa172b265f9ededf41ccb3f6a784bd4", func := "hypercube/hypercubelaw11.LiftAdds", spec := "liftAdds", unfollowed := true, recurses := true, loops := true, plainKeys := false, apart := false, narrowed := true }
def LiftAddsUptoSaid : Prop := liftAddsUptoRow.holds Try.pinned (OpenSpec.upto liftAddsSpec)

/-- 'hypercubelaw11.LiftFree', WHERE WHAT IT READS IS OF BULK AT MOST 1048576: true; the input reads as it did. -/
def liftFreeUptoRow : OpenClaim := { program := "ytmaijbeghemkbaa", sum := "9ab90ef2501be2fccf0d16778aaef0138fa172b265f9ededf41ccb3f6a784bd4", func := "hypercube/hypercubelaw11.LiftFree", spec := "liftFree", unfollowed := true, recurses := true, loops := true, plainKeys := false, apart := false, narrowed := true }
def LiftFreeUptoSaid : Prop := liftFreeUptoRow.holds Try.pinned (OpenSpec.upto liftFreeSpec)

end Rows
end Go.Proofs.Ytmaijbeghemkbaa
