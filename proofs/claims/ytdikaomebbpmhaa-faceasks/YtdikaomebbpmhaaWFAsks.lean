/- The walk of the law FaceAsks: the call returns true; nothing that lay before it turns. -/
import Derived.Test.YtdikaomebbpmhaaAWorks
import Derived.Test.YtdikaomebbpmhaaRFace
namespace Go.Proofs.Ytdikaomebbpmhaa
open Go.RowKit
set_option linter.unusedVariables false
set_option linter.unusedSimpArgs false

set_option maxRecDepth 100000 in
set_option maxHeartbeats 4000000 in
theorem walk_FaceAsks (l : List C) (vl : Value) (m : List C) (vm : Value) (c : C) (w : World) (Rf : FRow w vl l) (Rg : FRow w vm m) :
    Calls Try.prog 4 #[vl, vm, clV c] w fun e w' => e = .returned (.bool true) ∧ Below w.heap.size w w' := by
  obtain ⟨pl, cl, rfl⟩ := Rf.len
  obtain ⟨pm, cm, rfl⟩ := Rg.len
  have hB := below_alloc w (.cells #[.int .u32 (c.1.val : Int), .int .u32 (c.2.val : Int)] 35)
  have hA := At.made w c 35
  by_cases h1 : 80 < l.length
  · have h1' : (80 : Int) < (l.length : Int) := by omega
    clear Rf Rg hA
    generalize l.length = n at *
    generalize m.length = n2 at *
    go_enter Try.func4, Try.ntmps4
    go_wp2_with (go_at_call 9; refine (aworks_any _).mono ?_; rintro e w2 ⟨rfl, hB2⟩)
    go_ret
    exact ⟨rfl, chain hB hB2⟩
  · have h1' : ¬ ((80 : Int) < (l.length : Int)) := by omega
    by_cases h2 : 80 < m.length
    · have h2' : (80 : Int) < (m.length : Int) := by omega
      clear Rf Rg hA
      generalize l.length = n at *
      generalize m.length = n2 at *
      go_enter Try.func4, Try.ntmps4
      go_wp2_with (go_at_call 9; refine (aworks_any _).mono ?_; rintro e w2 ⟨rfl, hB2⟩)
      go_ret
      exact ⟨rfl, chain hB hB2⟩
    · have h2' : ¬ ((80 : Int) < (m.length : Int)) := by omega
      have cE := fun W (h : Below w.heap.size w W) => Entails_any l m _ _ W (Rf.below h) (Rg.below h) (by omega) (by omega)
      have cRE := fun W (h : Below w.heap.size w W) => rEntails_any l m _ _ W (Rf.below h).row (Rg.below h).row (by omega) (by omega)
      have cH := fun W (h : Below w.heap.size w W) => Holds_any l _ c W (Rf.below h) (by omega)
      have cRH := fun W (h : Below w.heap.size w W) => rHolds_any l _ c W (Rf.below h).row (by omega)
      have cR := fun W (h : Below w.heap.size w W) => aright_any l _ W (Rf.below h) (by omega)
      have cRR := fun W (h : Below w.heap.size w W) => raright_any l _ W (Rf.below h).row (by omega)
      clear Rf Rg
      generalize entA l m = PE at cE cRE
      generalize hldA l c = PH at cH cRH
      generalize rightA l = r at cR cRR
      obtain ⟨x, e1⟩ := PE
      obtain ⟨y, e2⟩ := PH
      dsimp only at cE cRE cH cRH
      have hrr : (r == r) = true := by simp
      have hxx : (x == x) = true := by simp
      have hyy : (y == y) = true := by simp
      generalize l.length = n at *
      generalize m.length = n2 at *
      go_enter Try.func4, Try.ntmps4
      go_wp2_with fail
      generalize w.alloc (.cells #[.int .u32 (c.1.val : Int), .int .u32 (c.2.val : Int)] 35) = wb at hB hA ⊢
      refine (cE wb hB).mono ?_
      rintro e w1 ⟨rfl, hB1⟩
      clear cE
      replace hB := chain hB hB1
      replace hA := hA.below hB1
      clear hB1
      go_wp2_with fail
      refine (cRE w1 hB).mono ?_
      rintro e w2 ⟨rfl, hB2⟩
      clear cRE
      replace hB := chain hB hB2
      replace hA := hA.below hB2
      clear hB2
      have hA0 := hA
      obtain ⟨hAx, hAy, hAz⟩ := hA0
      go_wp2_with fail
      refine (cH w2 hB).mono ?_
      rintro e w3 ⟨rfl, hB3⟩
      clear cH
      clear hAx hAy hAz
      replace hB := chain hB hB3
      replace hA := hA.below hB3
      clear hB3
      have hA0 := hA
      obtain ⟨hAx, hAy, hAz⟩ := hA0
      go_wp2_with fail
      refine (cRH w3 hB).mono ?_
      rintro e w4 ⟨rfl, hB4⟩
      clear cRH
      clear hAx hAy hAz
      replace hB := chain hB hB4
      replace hA := hA.below hB4
      clear hB4
      go_wp2_with fail
      refine (cR w4 hB).mono ?_
      rintro e w5 ⟨rfl, hB5⟩
      clear cR
      replace hB := chain hB hB5
      replace hA := hA.below hB5
      clear hB5
      go_wp2_with fail
      refine (cRR w5 hB).mono ?_
      rintro e w6 ⟨rfl, hB6⟩
      clear cRR
      replace hB := chain hB hB6
      replace hA := hA.below hB6
      clear hB6
      go_wp2_with fail
      refine (aworks_any _).mono ?_
      rintro e w9 ⟨rfl, hB9⟩
      replace hB := chain hB hB9
      go_wp2
      go_ret
      exact ⟨rfl, hB⟩
end Go.Proofs.Ytdikaomebbpmhaa
