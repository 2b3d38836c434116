/-
  DERIVED. GIVEN WITH THE SEED: THE PROGRAM's TIES (one call each: nine closed facts by the kernel) AND EACH ROW's TIE, after the 31st guide's Derived/Test/Toyas{Tie, Card}.lean. No idea stands in it: it is a product of the set-up. Laid BY PROGRAM, IN A SANDBOX (cutbox-door.mjs). By AI agents, Wed Nov 11 2026. No macro, syntax, notation, axiom, sorry.
-/
import Derived.Test.YtdikaomebbpmhabDoorRows
import Derived.LaidByTextLater
import Derived.SevenTiedAt
import Derived.LaidSub
import Derived.LaidOnce
namespace Go.Proofs.YtdikaomebbpmhabDoor
open Go
set_option maxRecDepth 100000
theorem seatTie1 : Tryd.prog.laidByTextLater [("hypercube/truth.meets", Rows.laid_hypercube_truth_meets), ("hypercube/truth.joins", Rows.laid_hypercube_truth_joins), ("hypercube/truth.nots", Rows.laid_hypercube_truth_nots)] [.data, .data, .data] true :=
  Program.laidByTextLater_by_one 32 8 17 (by kernel_rfl) (by kernel_rfl) (by kernel_rfl) (by kernel_rfl) (by kernel_rfl) (by kernel_rfl) (fun _ _ => by kernel_rfl)
theorem noOwnUnsafe : Tryd.pinned.checked.prog.headLifts.contains "ownunsafe" = false := by kernel_rfl
theorem tie : Tryd.prog.laidByTextLater [("hypercube/truth.meets", Rows.laid_hypercube_truth_meets), ("hypercube/truth.joins", Rows.laid_hypercube_truth_joins), ("hypercube/truth.nots", Rows.laid_hypercube_truth_nots)] [.data, .data, .data] true :=
  Program.laidByTextLater.sub seatTie1 ["hypercube/truth.meets", "hypercube/truth.joins", "hypercube/truth.nots"] (by kernel_rfl) (by kernel_rfl)
theorem faceTruth_row_tie : Rows.faceTruthRow.laidByTextAt .later Tryd.pinned [.data, .data, .data] true :=
  OpenClaim.laidByTextAt_later rfl rfl tie noOwnUnsafe
theorem faceTruthUpto_row_tie : Rows.faceTruthUptoRow.laidByTextAt .later Tryd.pinned [.data, .data, .data] true :=
  OpenClaim.laidByTextAt_later rfl rfl tie noOwnUnsafe
end Go.Proofs.YtdikaomebbpmhabDoor
