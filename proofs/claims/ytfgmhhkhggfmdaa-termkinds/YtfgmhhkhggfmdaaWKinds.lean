/- The kinds, as the document has them. -/
import Derived.Test.YtfgmhhkhggfmdaaYWorks
namespace Go.Proofs.Ytfgmhhkhggfmdaa
open Go.RowKit
set_option linter.unusedVariables false
set_option linter.unusedSimpArgs false

set_option maxRecDepth 100000 in
set_option maxHeartbeats 4000000 in
theorem walk_TermKinds (k : Int) (hk : (Lit.int .i64 k).wf = true) (i : Int) (hi : (Lit.int .i64 i).wf = true) (w : World) : Calls Try.prog 3 #[.int .i64 k, .int .i64 i] w fun e w' => e = .returned (.bool true) ∧ Below w.heap.size w w' := by
  have c1 := bindsC_any k i w
  have c2 := rBinds_any k i w
  have c3 := kids_any k w
  have c4 := rKids_any k w
  go_enter Try.func3, Try.ntmps3
  go_wp2_with fail
  refine c1.mono ?_
  rintro e w1 ⟨rfl, rfl⟩
  clear c1
  go_wp2_with fail
  refine c2.mono ?_
  rintro e w2 ⟨rfl, rfl⟩
  clear c2
  go_wp2_with fail
  refine c3.mono ?_
  rintro e w3 ⟨rfl, rfl⟩
  clear c3
  go_wp2_with fail
  refine c4.mono ?_
  rintro e w4 ⟨rfl, hb4⟩
  clear c4
  have c5 := partsC_any k w4
  have c6 := rParts_any k w4
  have c7 := works_any w4
  go_wp2_with fail
  refine c5.mono ?_
  rintro e w5 ⟨rfl, rfl⟩
  clear c5
  go_wp2_with fail
  refine c6.mono ?_
  rintro e w6 ⟨rfl, rfl⟩
  clear c6
  go_wp2_with fail
  refine c7.mono ?_
  rintro e w7 ⟨rfl, hb7⟩
  clear c7
  go_wp2_with fail
  go_ret
  exact ⟨rfl, bchain hb4 hb7⟩
end Go.Proofs.Ytfgmhhkhggfmdaa
