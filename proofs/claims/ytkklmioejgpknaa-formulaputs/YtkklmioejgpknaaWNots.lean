/- The walk of the law FormulaNots: the call returns true; nothing that lay before it turns. -/
import Derived.Test.YtkklmioejgpknaaLSame
namespace Go.Proofs.Ytkklmioejgpknaa
open Go.RowKit
set_option linter.unusedVariables false
set_option linter.unusedSimpArgs false

theorem below_grown {base : Nat} {w W W' : World} {v : Value} {u : List C} (hB : Below base w W) (hO : OwnsC W base v u) (hg : W.grownBy W' v.ownBlock) (hs : base ≤ W.heap.size) : Below base w W' := hB.trans (own_grown hO hg hs)
set_option maxRecDepth 100000 in
set_option maxHeartbeats 2000000 in
theorem walk_FormulaNots (l : List C) (vl : Value) (w : World) (Rf : FRow w vl l) :
    Calls Try.prog 4 #[vl] w fun e w' => e = .returned (.bool true) ∧ Below w.heap.size w w' := by
  obtain ⟨pl, cl, rfl⟩ := Rf.len
  have hB0 := below_alloc w (.cells #[Value.slice pl l.length cl] 22)
  have c0 := great1 pl l.length cl w
  by_cases hbig : 24 < l.length
  · rw [decide_eq_true hbig] at c0
    clear Rf
    go_enter Try.func4, Try.ntmps4
    go_wp2_with fail
    refine c0.mono ?_
    rintro e w1 ⟨rfl, hw1⟩
    rw [← hw1] at hB0
    clear c0 hw1
    go_wp2_with (go_at_call 10; refine (fworks_any _).mono ?_; rintro e w2 ⟨rfl, hB2⟩)
    go_ret
    exact ⟨rfl, chain hB0 hB2⟩
  · rw [decide_eq_false hbig] at c0
    have c1 := fun W (h : Below w.heap.size w W) => Not_any l _ W (Rf.below h) (by omega)
    have c2 := fun W (h : Below w.heap.size w W) => rNot_any l _ W (Rf.row.below h) (by omega)
    have hlen := notF_len l
    clear Rf
    generalize notF l = P at c1 c2 hlen
    obtain ⟨M, er⟩ := P
    dsimp only at c1 c2 hlen
    go_enter Try.func4, Try.ntmps4
    go_wp2_with fail
    refine c0.mono ?_
    rintro e w1 ⟨rfl, hw1⟩
    rw [← hw1] at hB0
    clear c0 hw1
    replace c1 := c1 w1 hB0
    go_wp2_with fail
    refine c1.mono ?_
    rintro e w2 ⟨v2, rfl, hO2, hB2⟩
    clear c1
    have hB02 := chain hB0 hB2
    replace c2 := c2 w2 hB02
    obtain ⟨p2, q2, rfl⟩ := OwnsC.len hO2
    go_wp2_with fail
    refine c2.mono ?_
    rintro e w3 ⟨v3, rfl, hO3, hB3⟩
    clear c2
    have hO2' := OwnsC.mono (OwnsC.below hO2 hB3) hB0.size
    have hB03 := chain hB02 hB3
    have c3 := lsame_any M er _ v3 w.heap.size w3 hO2' (OwnsC.row hO3) (by omega)
    obtain ⟨p3, q3, rfl⟩ := OwnsC.len hO3
    go_wp2_with fail
    refine c3.mono ?_
    rintro e w4 ⟨rfl, hg4⟩
    clear c3
    have hB4 := below_grown hB03 hO2' hg4 hB03.size
    go_wp2_with (go_at_call 10; refine (fworks_any _).mono ?_; rintro e w5 ⟨rfl, hB5⟩)
    go_ret
    exact ⟨rfl, chain hB4 hB5⟩
end Go.Proofs.Ytkklmioejgpknaa
