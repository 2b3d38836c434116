/- Eval of the layer truth: what it hands back; nothing that lay before the call turns. -/
import Derived.Test.YtdikaomebbpmhabDoorTEval
import Derived.Test.YtdikaomebbpmhabDoorFDims
import Derived.Test.YtdikaomebbpmhabDoorLoops
import Derived.Test.YtdikaomebbpmhabDoorTMathB
namespace Go.Proofs.YtdikaomebbpmhabDoor
open Go.RowKit
set_option linter.unusedVariables false
set_option linter.unusedSimpArgs false

theorem OwnsL.rowZ {w : World} {base : Nat} {v : Value} {l : List Nat} (h : OwnsL w base v l) : RowZ w v (toZ l) := h.rowAt.rowZ
theorem OwnsL.len {w : World} {base : Nat} {v : Value} {l : List Nat} (h : OwnsL w base v l) : ∃ a cap, v = .slice a l.length cap := by
  have := h.rowZ.len
  rwa [toZ_length] at this
set_option maxHeartbeats 1000000 in
theorem Eval_any (f : List C) (l : List Int) (vf va : Value) (w : World) (hT : Tabs w) (hf : FRow w vf f) (ha : RowZ w va l) (hfl : f.length ≤ 40000) :
    Calls Tryd.prog 8 #[vf, va] w fun e w' => e = .returned (.tuple #[.int .i64 (evalF f (atZ l)).1, .int .i64 (evalF f (atZ l)).2]) ∧ Below w.heap.size w w' := by
  have HE : Hid (evalF f (atZ l) = if rightF f then (valF f (atZ l), 0) else (0, 2)) := rfl
  have c1 := fright_any f vf w hf (by omega)
  have c2 := fun W (h : Below w.heap.size w W) => Dims_any f vf W (hf.row.below h) (by omega)
  have c3 := fun W => list_any (dimsN f) W (dimsN_lt32 f)
  have c4 := fun vd W (h : Below w.heap.size w W) (hd : RowZ W vd (toZ (dimsOf (dimsN f)))) => teval_any f (dimsOf (dimsN f)) l vf vd va W (hT.below h) (hf.row.below h) hd dimsOf_lt (dimsOf_length_le _) (ha.below h) hfl
  simp only [evF_own] at c4
  obtain ⟨pf, cf, rfl⟩ := hf.len
  obtain ⟨pa, ca, rfl⟩ := ha.len
  clear hf ha hfl hT
  generalize f.length = nf at *
  generalize l.length = nl at *
  generalize valF f (atZ l) = val at *
  generalize dimsN f = s at *
  cases h1 : rightF f
  · rw [h1] at c1 HE
    clear c2 c3 c4
    go_enter Tryd.func8, Tryd.ntmps8
    go_wp2_with fail
    refine c1.mono ?_
    rintro e w1 ⟨rfl, hB1⟩
    clear c1
    go_wp2
    go_ret2
    rw [HE.out]
    exact ⟨rfl, hB1⟩
  · rw [h1] at c1 HE
    go_enter Tryd.func8, Tryd.ntmps8
    go_wp2_with fail
    refine c1.mono ?_
    rintro e w1 ⟨rfl, hB1⟩
    clear c1
    replace c2 := c2 w1 hB1
    go_wp2_with fail
    refine c2.mono ?_
    rintro e w2 ⟨rfl, hB2⟩
    clear c2
    replace hB2 := chain hB1 hB2
    replace c3 := c3 w2
    go_wp2_with fail
    refine c3.mono ?_
    rintro e w3 ⟨vd, rfl, hO3, hB3⟩
    clear c3
    replace hB3 := chain hB2 hB3
    replace c4 := c4 vd w3 hB3 hO3.rowZ
    obtain ⟨pd, cd, rfl⟩ := hO3.len
    clear hO3
    go_wp2_with fail
    refine c4.mono ?_
    rintro e w4 ⟨rfl, hB4⟩
    clear c4
    go_wp2
    go_ret2
    rw [HE.out]
    exact ⟨rfl, chain hB3 hB4⟩
end Go.Proofs.YtdikaomebbpmhabDoor
