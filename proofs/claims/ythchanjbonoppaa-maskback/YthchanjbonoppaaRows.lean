/-
  No cell of these rows narrows 'for every input' (looked for: loops, veiled, ifaces, maps, wideKeys, modest, calm, conditions, laid).
  DERIVED. THE GIVEN ROWS OF THIS SEAT. 6 by the template 'for every input the law returns true; each argument reads behind the call as it read before'; 0 by the template 'total and deterministic' (their statements: YthchanjbonoppaaTotals.lean).
  GIVEN WITH THE SEED: the statements are not yours to turn. If you find one false, say at which input.
  Laid BY PROGRAM, IN A SANDBOX (cutbox-rows.mjs): the forced cells as the released guide's own fill.sh prints them over the translation 987e3324aee3a711… (all of the seat's roots in one cut). By AI agents, Wed Nov 11 2026. No macro, syntax, notation, axiom, sorry.
-/
import Derived.Test.YthchanjbonoppaaChecked
import GoSem.Claim
import GoSem.ClaimJoined
import GoSem.ClaimMapViews
import Derived.JoinedTies
import Derived.KernelRfl
namespace Go.Proofs.Ythchanjbonoppaa
/- THE CELL 'sum', in the pinned program and in every row, IS THE sha256 OF THE DUMP (.gsa) THAT YthchanjbonoppaaProg.lean LOADS. Nothing in Lean hashes anything: it is a label: what it is worth is what the hold of that sum in a sandbox is worth. -/
noncomputable def Try.pinned : Pinned := { name := "ythchanjbonoppaa", sum := "987e3324aee3a711b6716b0374f47ef48c2ac5cfdb0209f23b5a5a01b5a3fc28", checked := Try.checked }
namespace Rows
def none {H : Type} : Left H := { results := [], args := [] }

/-- 'hypercubelaw01.MaskAsks': WHATEVER THE INPUT: true; the input reads as it did. -/
def maskAsksSpec : ChangeSpec := { name := "maskAsks", fn := fun _ => fun
  | [d1, d2] => { results := [.lit (.bool true)], args := [d1, d2] }
  | _ => none }
def maskAsksRow : OpenClaim := { program := "ythchanjbonoppaa", sum := "987e3324aee3a711b6716b0374f47ef48c2ac5cfdb0209f23b5a5a01b5a3fc28", func := "hypercube/hypercubelaw01.MaskAsks", spec := "maskAsks", unfollowed := true, recurses := true, apart := false }
def MaskAsksSaid : Prop := maskAsksRow.holds Try.pinned (OpenSpec.ofChange maskAsksSpec)

/-- ITS FALSE NEIGHBOUR: 'it returns false'. Refute it at one input. -/
def maskAsksWrong : ChangeSpec := { name := "maskAsks", fn := fun _ => fun
  | [d1, d2] => { results := [.lit (.bool false)], args := [d1, d2] }
  | _ => none }
def MaskAsksWrongFalsely : Prop := maskAsksRow.holds Try.pinned (OpenSpec.ofChange maskAsksWrong)

/-- 'hypercubelaw01.MaskLists': WHATEVER THE INPUT: true; the input reads as it did. -/
def maskListsSpec : ChangeSpec := { name := "maskLists", fn := fun _ => fun
  | [d] => { results := [.lit (.bool true)], args := [d] }
  | _ => none }
def maskListsRow : OpenClaim := { program := "ythchanjbonoppaa", sum := "987e3324aee3a711b6716b0374f47ef48c2ac5cfdb0209f23b5a5a01b5a3fc28", func := "hypercube/hypercubelaw01.MaskLists", spec := "maskLists", unfollowed := true, recurses := true, apart := false }
def MaskListsSaid : Prop := maskListsRow.holds Try.pinned (OpenSpec.ofChange maskListsSpec)

/-- ITS FALSE NEIGHBOUR: 'it returns false'. Refute it at one input. -/
def maskListsWrong : ChangeSpec := { name := "maskLists", fn := fun _ => fun
  | [d] => { results := [.lit (.bool false)], args := [d] }
  | _ => none }
def MaskListsWrongFalsely : Prop := maskListsRow.holds Try.pinned (OpenSpec.ofChange maskListsWrong)

/-- 'hypercubelaw01.MaskLifts': WHATEVER THE INPUT: true; the input reads as it did. -/
def maskLiftsSpec : ChangeSpec := { name := "maskLifts", fn := fun _ => fun
  | [d1, d2, d3] => { results := [.lit (.bool true)], args := [d1, d2, d3] }
  | _ => none }
def maskLiftsRow : OpenClaim := { program := "ythchanjbonoppaa", sum := "987e3324aee3a711b6716b0374f47ef48c2ac5cfdb0209f23b5a5a01b5a3fc28", func := "hypercube/hypercubelaw01.MaskLifts", spec := "maskLifts", unfollowed := true, recurses := true, apart := false }
def MaskLiftsSaid : Prop := maskLiftsRow.holds Try.pinned (OpenSpec.ofChange maskLiftsSpec)

/-- ITS FALSE NEIGHBOUR: 'it returns false'. Refute it at one input. -/
def maskLiftsWrong : ChangeSpec := { name := "maskLifts", fn := fun _ => fun
  | [d1, d2, d3] => { results := [.lit (.bool false)], args := [d1, d2, d3] }
  | _ => none }
def MaskLiftsWrongFalsely : Prop := maskLiftsRow.holds Try.pinned (OpenSpec.ofChange maskLiftsWrong)

/-- 'hypercubelaw01.MaskDrops': WHATEVER THE INPUT: true; the input reads as it did. -/
def maskDropsSpec : ChangeSpec := { name := "maskDrops", fn := fun _ => fun
  | [d1, d2] => { results := [.lit (.bool true)], args := [d1, d2] }
  | _ => none }
def maskDropsRow : OpenClaim := { program := "ythchanjbonoppaa", sum := "987e3324aee3a711b6716b0374f47ef48c2ac5cfdb0209f23b5a5a01b5a3fc28", func := "hypercube/hypercubelaw01.MaskDrops", spec := "maskDrops", unfollowed := true, recurses := true, apart := false }
def MaskDropsSaid : Prop := maskDropsRow.holds Try.pinned (OpenSpec.ofChange maskDropsSpec)

/-- ITS FALSE NEIGHBOUR: 'it returns false'. Refute it at one input. -/
def maskDropsWrong : ChangeSpec := { name := "maskDrops", fn := fun _ => fun
  | [d1, d2] => { results := [.lit (.bool false)], args := [d1, d2] }
  | _ => none }
def MaskDropsWrongFalsely : Prop := maskDropsRow.holds Try.pinned (OpenSpec.ofChange maskDropsWrong)

/-- 'hypercubelaw01.MaskBack': WHATEVER THE INPUT: true; the input reads as it did. -/
def maskBackSpec : ChangeSpec := { name := "maskBack", fn := fun _ => fun
  | [d1, d2] => { results := [.lit (.bool true)], args := [d1, d2] }
  | _ => none }
def maskBackRow : OpenClaim := { program := "ythchanjbonoppaa", sum := "987e3324aee3a711b6716b0374f47ef48c2ac5cfdb0209f23b5a5a01b5a3fc28", func := "hypercube/hypercubelaw01.MaskBack", spec := "maskBack", unfollowed := true, recurses := true, apart := false }
def MaskBackSaid : Prop := maskBackRow.holds Try.pinned (OpenSpec.ofChange maskBackSpec)

/-- ITS FALSE NEIGHBOUR: 'it returns false'. Refute it at one input. -/
def maskBackWrong : ChangeSpec := { name := "maskBack", fn := fun _ => fun
  | [d1, d2] => { results := [.lit (.bool false)], args := [d1, d2] }
  | _ => none }
def MaskBackWrongFalsely : Prop := maskBackRow.holds Try.pinned (OpenSpec.ofChange maskBackWrong)

/-- 'hypercubelaw01.MaskAdds': WHATEVER THE INPUT: true; the input reads as it did. -/
def maskAddsSpec : ChangeSpec := { name := "maskAdds", fn := fun _ => fun
  | [d1, d2, d3, d4] => { results := [.lit (.bool true)], args := [d1, d2, d3, d4] }
  | _ => none }
def maskAddsRow : OpenClaim := { program := "ythchanjbonoppaa", sum := "987e3324aee3a711b6716b0374f47ef48c2ac5cfdb0209f23b5a5a01b5a3fc28", func := "hypercube/hypercubelaw01.MaskAdds", spec := "maskAdds", unfollowed := true, recurses := true, apart := false }
def MaskAddsSaid : Prop := maskAddsRow.holds Try.pinned (OpenSpec.ofChange maskAddsSpec)

/-- ITS FALSE NEIGHBOUR: 'it returns false'. Refute it at one input. -/
def maskAddsWrong : ChangeSpec := { name := "maskAdds", fn := fun _ => fun
  | [d1, d2, d3, d4] => { results := [.lit (.bool false)], args := [d1, d2, d3, d4] }
  | _ => none }
def MaskAddsWrongFalsely : Prop := maskAddsRow.holds Try.pinned (OpenSpec.ofChange maskAddsWrong)

/- THE SECOND FORM. 'bulk': how many values and letters a reading holds, each counted each time it is reached (what is shared counts as often as it is met; a slice's spare places count too). A statement '..UptoSaid' is the law's where the arguments, and the package variables that the reading takes, are together of bulk at most 1048576: NARROWER than '..Said'. Prove '..Said' where nothing that the law and all that it calls make is longer than what came in: it says more and counts as full. Else prove '..UptoSaid'. A law counts once. -/
mutual
def uptoBulk {H : Type} : DataW H → Nat
  | .lit (.string bytes) => bytes.length + 1
  | .lit _ => 1
  | .nil => 1
  | .ptr d => uptoBulk d + 1
  | .slice elems spare => uptoBulkAll elems + uptoBulkAll spare + 1
  | .agg parts => uptoBulkAll parts + 1
  | .iface _ d => uptoBulk d + 1
  | .map entries => uptoBulkEntries entries + 1
  | .held _ => 1
def uptoBulkAll {H : Type} : List (DataW H) → Nat
  | [] => 0
  | d :: r => uptoBulk d + uptoBulkAll r
def uptoBulkEntries {H : Type} : List (Lit × DataW H) → Nat
  | [] => 0
  | x :: r => uptoBulkEntry x + uptoBulkEntries r
def uptoBulkEntry {H : Type} : Lit × DataW H → Nat
  | (.string bytes, d) => bytes.length + uptoBulk d + 1
  | (_, d) => uptoBulk d + 1
 end
def uptoSmall : (H : Type) → List (DataW H) → Bool := fun _ ds => decide (uptoBulkAll ds ≤ 1048576)
def OpenSpec.upto (s : _root_.Go.ChangeSpec) : _root_.Go.OpenSpec := { _root_.Go.OpenSpec.ofChange s with cond := some uptoSmall }

/-- 'hypercubelaw01.MaskAsks', WHERE WHAT IT READS IS OF BULK AT MOST 1048576: true; the input reads as it did. -/
def maskAsksUptoRow : OpenClaim := { program := "ythchanjbonoppaa", sum := "987e3324aee3a711b6716b0374f47ef48c2ac5cfdb0209f23b5a5a01b5a3fc28", func := "hypercube/hypercubelaw01.MaskAsks", spec := "maskAsks", unfollowed := true, recurses := true, apart := false, narrowed := true }
def MaskAsksUptoSaid : Prop := maskAsksUptoRow.holds Try.pinned (OpenSpec.upto maskAsksSpec)

/-- 'hypercubelaw01.MaskLists', WHERE WHAT IT READS IS OF BULK AT MOST 1048576: true; the input reads as it did. -/
def maskListsUptoRow : OpenClaim := { program := "ythchanjbonoppaa", sum := "987e3324aee3a711b6716b0374f47ef48c2ac5cfdb0209f23b5a5a01b5a3fc28", func := "hypercube/hypercubelaw01.MaskLists", spec := "maskLists", unfollowed := true, recurses := true, apart := false, narrowed := true }
def MaskListsUptoSaid : Prop := maskListsUptoRow.holds Try.pinned (OpenSpec.upto maskListsSpec)

/-- 'hypercubelaw01.MaskLifts', WHERE WHAT IT READS IS OF BULK AT MOST 1048576: true; the input reads as it did. -/
def maskLiftsUptoRow : OpenClaim := { program := "ythchanjbonoppaa", sum := "987e3324aee3a711b6716b0374f47ef48c2ac5cfdb0209f23b5a5a01b5a3fc28", func := "hypercube/hypercubelaw01.MaskLifts", spec := "maskLifts", unfollowed := true, recurses := true, apart := false, narrowed := true }
def MaskLiftsUptoSaid : Prop := maskLiftsUptoRow.holds Try.pinned (OpenSpec.upto maskLiftsSpec)

/-- 'hypercubelaw01.MaskDrops', WHERE WHAT IT READS IS OF BULK AT MOST 1048576: true; the input reads as it did. -/
def maskDropsUptoRow : OpenClaim := { program := "ythchanjbonoppaa", sum := "987e3324aee3a711b6716b0374f47ef48c2ac5cfdb0209f23b5a5a01b5a3fc28", func := "hypercube/hypercubelaw01.MaskDrops", spec := "maskDrops", unfollowed := true, recurses := true, apart := false, narrowed := true }
def MaskDropsUptoSaid : Prop := maskDropsUptoRow.holds Try.pinned (OpenSpec.upto maskDropsSpec)

/-- 'hypercubelaw01.MaskBack', WHERE WHAT IT READS IS OF BULK AT MOST 1048576: true; the input reads as it did. -/
def maskBackUptoRow : OpenClaim := { program := "ythchanjbonoppaa", sum := "987e3324aee3a711b6716b0374f47ef48c2ac5cfdb0209f23b5a5a01b5a3fc28", func := "hypercube/hypercubelaw01.MaskBack", spec := "maskBack", unfollowed := true, recurses := true, apart := false, narrowed := true }
def MaskBackUptoSaid : Prop := maskBackUptoRow.holds Try.pinned (OpenSpec.upto maskBackSpec)

/-- 'hypercubelaw01.MaskAdds', WHERE WHAT IT READS IS OF BULK AT MOST 1048576: true; the input reads as it did. -/
def maskAddsUptoRow : OpenClaim := { program := "ythchanjbonoppaa", sum := "987e3324aee3a711b6716b0374f47ef48c2ac5cfdb0209f23b5a5a01b5a3fc28", func := "hypercube/hypercubelaw01.MaskAdds", spec := "maskAdds", unfollowed := true, recurses := true, apart := false, narrowed := true }
def MaskAddsUptoSaid : Prop := maskAddsUptoRow.holds Try.pinned (OpenSpec.upto maskAddsSpec)

end Rows
end Go.Proofs.Ythchanjbonoppaa
