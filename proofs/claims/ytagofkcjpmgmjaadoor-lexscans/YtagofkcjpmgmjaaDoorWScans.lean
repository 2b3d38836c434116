/- LexScans: which tokens a text has is as the document has it. -/
import Derived.Test.YtagofkcjpmgmjaaDoorRScan
import Derived.Test.YtagofkcjpmgmjaaDoorLSame
import Derived.Test.YtagofkcjpmgmjaaDoorLWorks
namespace Go.Proofs.YtagofkcjpmgmjaaDoor
open Go.RowKit
set_option linter.unusedVariables false
set_option linter.unusedSimpArgs false

theorem scan_count (s : ByteArray) : (scanF (tl s)).1.length ≤ 65537 := by
  by_cases h : (scanF (tl s)).2.2 = 0
  · have h1 := tok_count h
    have h2 := (scanF_ok h).1
    rw [tl_len] at h2
    omega
  · rw [(scanF_bad h).1]; simp
set_option maxRecDepth 100000 in
set_option maxHeartbeats 2000000 in
theorem walk_LexScans (s : ByteArray) (w : World) (hs : s.size ≤ maxLen) (hT : Tabs w) :
    Calls Tryd.prog 3 #[.string s] w fun e w' => e = .returned (.bool true) ∧ Below w.heap.size w w' := by
  have c1 := scan_any s w hs hT
  have c2 := fun w => rscan_any s w hs
  have c3 := fun w (h : Tabs w) => works_any w h
  have hcn := scan_count s
  generalize (scanF (tl s)).1 = ts at *
  generalize (scanF (tl s)).2.1 = P at *
  generalize (scanF (tl s)).2.2 = E at *
  clear hs
  go_enter Tryd.func3, Tryd.ntmps3
  go_wp2_with fail
  refine c1.mono ?_
  rintro e w1 ⟨v, rfl, hO1, hB1⟩
  clear c1
  go_wp2_with fail
  refine (c2 w1).mono ?_
  rintro e w2 ⟨v2, rfl, hO2, hB2⟩
  clear c2
  have c4 := lsame_any ts v v2 w2 ((OwnsT.row hO1).below hB2) (OwnsT.row hO2) (by omega)
  clear hO1 hO2
  go_wp2_with fail
  refine c4.mono ?_
  rintro e w3 ⟨rfl, hB3⟩
  clear c4
  have hB := chain (chain hB1 hB2) hB3
  go_wp2_with fail
  refine (c3 w3 (hT.below hB)).mono ?_
  rintro e w4 ⟨rfl, hB4⟩
  go_wp2
  go_ret
  exact ⟨rfl, chain hB hB4⟩
end Go.Proofs.YtagofkcjpmgmjaaDoor
