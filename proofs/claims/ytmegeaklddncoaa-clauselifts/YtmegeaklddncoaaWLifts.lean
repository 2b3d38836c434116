/- The walk of the law ClauseLifts: the call returns true; nothing that lay before it turns. -/
import Derived.Test.YtmegeaklddncoaaCLift
namespace Go.Proofs.Ytmegeaklddncoaa
open Go.RowKit
set_option linter.unusedVariables false
set_option linter.unusedSimpArgs false

set_option maxRecDepth 100000 in
set_option maxHeartbeats 2000000 in
theorem walk_ClauseLifts (c : C) (fr : Int) (_ : (Lit.int .i64 fr).wf = true) (by_ : Int) (_ : (Lit.int .i64 by_).wf = true) (w : World) :
    Calls Try.prog 5 #[clV c, .int .i64 fr, .int .i64 by_] w fun e w' => e = .returned (.bool true) ∧ Below w.heap.size w w' := by
  have hc := At.made w c 24
  have hB := below_alloc w (.cells #[.int .u32 (c.1.val : Int), .int .u32 (c.2.val : Int)] 24)
  obtain ⟨d, hd⟩ : ∃ d, d = liftC c fr by_ := ⟨_, rfl⟩
  obtain ⟨x, hx⟩ : ∃ x, x = liftCE c fr by_ := ⟨_, rfl⟩
  have cL := clift_any c fr by_
  have cR := refclift_any c fr by_
  rw [← hd, ← hx] at cL cR
  clear hd hx
  go_enter Try.func5, Try.ntmps5
  go_wp2_with fail
  refine (cL _).mono ?_
  rintro e w1 ⟨rfl, hB1⟩
  clear cL
  have hd := At.made w1 d 24
  replace hB := chain (chain hB hB1) (below_alloc w1 (.cells #[.int .u32 (d.1.val : Int), .int .u32 (d.2.val : Int)] 24))
  replace hc := (hc.below hB1).alloc (.cells #[.int .u32 (d.1.val : Int), .int .u32 (d.2.val : Int)] 24)
  have hc0 := hc.1
  have hc1 := hc.2.1
  go_wp2_with fail
  refine (cR _).mono ?_
  rintro e w2 ⟨rfl, hB2⟩
  clear cR
  replace hd := (hd.below hB2).alloc (.cells #[.int .u32 (d.1.val : Int), .int .u32 (d.2.val : Int)] 24)
  replace hB := chain (chain hB hB2) (below_alloc w2 (.cells #[.int .u32 (d.1.val : Int), .int .u32 (d.2.val : Int)] 24))
  have hd0 := hd.1
  have hd1 := hd.2.1
  go_wp2_with (go_at_call 11; refine (works_any _).mono ?_; rintro e w3 ⟨rfl, hB3⟩; replace hB := chain hB hB3)
  go_ret
  exact ⟨rfl, hB⟩
end Go.Proofs.Ytmegeaklddncoaa
