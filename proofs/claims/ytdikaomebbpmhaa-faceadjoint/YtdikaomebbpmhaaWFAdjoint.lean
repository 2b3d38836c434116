/- The walk of the law FaceAdjoint: the call returns true; nothing that lay before it turns. -/
import Derived.Test.YtdikaomebbpmhaaAWorks
import Derived.Test.YtdikaomebbpmhaaASame
namespace Go.Proofs.Ytdikaomebbpmhaa
open Go.RowKit
set_option linter.unusedVariables false
set_option linter.unusedSimpArgs false

set_option maxRecDepth 100000 in
set_option maxHeartbeats 4000000 in
theorem walk_FaceAdjoint (l : List C) (vl : Value) (m : List C) (vm : Value) (i : Int) (hi0 : (Lit.int .i64 i).wf = true) (w : World) (Rf : FRow w vl l) (Rg : FRow w vm m) :
    Calls Try.prog 6 #[vl, vm, .int .i64 i] w fun e w' => e = .returned (.bool true) ∧ Below w.heap.size w w' := by
  clear hi0
  obtain ⟨pl, cl, rfl⟩ := Rf.len
  obtain ⟨pm, cm, rfl⟩ := Rg.len
  have hB : Below w.heap.size w w := Below.refl _ _
  go_enter Try.func6, Try.ntmps6
  have c1 := aworks_any w
  go_wp2_with fail
  refine c1.mono ?_
  rintro e w1 ⟨rfl, hB1⟩
  clear c1
  replace hB := chain hB hB1
  replace Rf := Rf.below hB1
  replace Rg := Rg.below hB1
  clear hB1
  have cg := great_any pl pm l.length m.length cl cm w1
  by_cases hbig : 24 < l.length ∨ 24 < m.length
  · have hbb : (decide (24 < l.length) || decide (24 < m.length)) = true := by simpa using hbig
    rw [hbb] at cg
    have c2 := cg
    go_wp2_with fail
    refine c2.mono ?_
    rintro e wt ⟨rfl, hwt⟩
    replace hwt := hwt.symm
    subst hwt
    clear c2
    go_wp2
    go_ret
    exact ⟨rfl, hB⟩
  · have hbb : (decide (24 < l.length) || decide (24 < m.length)) = false := by simp; omega
    rw [hbb] at cg
    have hl : l.length ≤ 24 := by omega
    have hm : m.length ≤ 24 := by omega
    clear hbig hbb
    have c2 := cg
    go_wp2_with fail
    refine c2.mono ?_
    rintro e wt ⟨rfl, hwt⟩
    replace hwt := hwt.symm
    subst hwt
    clear c2
    have cc := aright_any l _ w1 Rf (by omega)
    cases hf : rightA l
    · rw [hf] at cc
      have c3 := cc
      go_wp2_with fail
      refine c3.mono ?_
      rintro e w3 ⟨rfl, hB3⟩
      clear c3
      replace hB := chain hB hB3
      replace Rf := Rf.below hB3
      replace Rg := Rg.below hB3
      clear hB3
      go_wp2
      go_ret
      exact ⟨rfl, hB⟩
    · rw [hf] at cc
      have c3 := cc
      go_wp2_with fail
      refine c3.mono ?_
      rintro e w3 ⟨rfl, hB3⟩
      clear c3
      replace hB := chain hB hB3
      replace Rf := Rf.below hB3
      replace Rg := Rg.below hB3
      clear hB3
      have cc := aright_any m _ w3 Rg (by omega)
      cases hg : rightA m
      · rw [hg] at cc
        have c4 := cc
        go_wp2_with fail
        refine c4.mono ?_
        rintro e w4 ⟨rfl, hB4⟩
        clear c4
        replace hB := chain hB hB4
        replace Rf := Rf.below hB4
        replace Rg := Rg.below hB4
        clear hB4
        go_wp2
        go_ret
        exact ⟨rfl, hB⟩
      · rw [hg] at cc
        have c4 := cc
        go_wp2_with fail
        refine c4.mono ?_
        rintro e w4 ⟨rfl, hB4⟩
        clear c4
        replace hB := chain hB hB4
        replace Rf := Rf.below hB4
        replace Rg := Rg.below hB4
        clear hB4
        cases hi : isDimB i
        · have hE : allA l i = ([], 2) := by simp [allA, hf, hi]
          have c5 := All_any l _ i w4 Rf (by omega)
          rw [hE] at c5
          try dsimp only at c5
          go_wp2_with fail
          refine c5.mono ?_
          rintro e w5 ⟨v5, rfl, hO5, hB5⟩
          clear c5
          replace hB := chain hB hB5
          replace Rf := Rf.below hB5
          replace Rg := Rg.below hB5
          clear hB5
          have Ra := OwnsC.frow hO5
          obtain ⟨p5, q5, e5⟩ := OwnsC.len hO5
          replace e5 : v5 = .slice p5 0 q5 := e5
          subst e5
          clear hO5
          clear hE
          by_cases hneg : i < 0
          · go_wp2
            go_ret
            exact ⟨rfl, hB⟩
          · have hge : i ≥ 24 := by
              have : ¬ (0 ≤ i ∧ i < 24) := fun h => by simp [isDimB, h.1, h.2] at hi
              omega
            go_wp2
            go_ret
            exact ⟨rfl, hB⟩
        · obtain ⟨A, hA⟩ : ∃ A, allA l i = (A, 0) := ⟨_, Prod.ext rfl (allA_told hf hi)⟩
          obtain ⟨D, hD⟩ : ∃ D, allA m i = (D, 0) := ⟨_, Prod.ext rfl (allA_told hg hi)⟩
          have rA : rightA A = true := by have := allA_right l i; rw [hA] at this; exact this
          have rD : rightA D = true := by have := allA_right m i; rw [hD] at this; exact this
          have lA := rightA_len rA
          have lD := rightA_len rD
          have adj := adjoint hf hg hi
          rw [hA, hD] at adj
          obtain ⟨adj1, adj2⟩ := adj
          have e1 : entA A l = (true, 0) := by rw [entA_ok rA hf, adj1]
          have e2 : entA D l = (entB D l, 0) := entA_ok rD hf
          have e3 : entA D A = (entB D l, 0) := by rw [entA_ok rD rA]; exact congrArg (·, 0) adj2.symm
          dsimp only at adj1 adj2
          generalize entB D l = y at e2 e3
          clear adj1 adj2
          have hyy : (y == y) = true := by simp
          have H1 : Hid (allA l i = (A, 0)) := hA
          have H2 : Hid (allA m i = (D, 0)) := hD
          have E1 : Hid (entA A l = (true, 0)) := e1
          have E2 : Hid (entA D l = (y, 0)) := e2
          have E3 : Hid (entA D A = (y, 0)) := e3
          clear hA hD e1 e2 e3 rA rD hf hg hi
          have c5 := All_any l _ i w4 Rf (by omega)
          rw [H1.out] at c5
          try dsimp only at c5
          go_wp2_with fail
          refine c5.mono ?_
          rintro e w5 ⟨v5, rfl, hO5, hB5⟩
          clear c5
          replace hB := chain hB hB5
          replace Rf := Rf.below hB5
          replace Rg := Rg.below hB5
          clear hB5
          have Ra := OwnsC.frow hO5
          obtain ⟨p5, q5, rfl⟩ := OwnsC.len hO5
          clear hO5
          have c6 := All_any m _ i w5 Rg (by omega)
          rw [H2.out] at c6
          try dsimp only at c6
          go_wp2_with fail
          refine c6.mono ?_
          rintro e w6 ⟨v6, rfl, hO6, hB6⟩
          clear c6
          replace hB := chain hB hB6
          replace Rf := Rf.below hB6
          replace Rg := Rg.below hB6
          replace Ra := Ra.below hB6
          clear hB6
          have Rb := OwnsC.frow hO6
          obtain ⟨p6, q6, rfl⟩ := OwnsC.len hO6
          clear hO6
          have c7 := Entails_any A l _ _ w6 Ra Rf (by omega) (by omega)
          rw [E1.out] at c7
          try dsimp only at c7
          go_wp2_with fail
          refine c7.mono ?_
          rintro e w7 ⟨rfl, hB7⟩
          clear c7
          replace hB := chain hB hB7
          replace Rf := Rf.below hB7
          replace Rg := Rg.below hB7
          replace Ra := Ra.below hB7
          replace Rb := Rb.below hB7
          clear hB7
          have c8 := Entails_any D l _ _ w7 Rb Rf (by omega) (by omega)
          rw [E2.out] at c8
          try dsimp only at c8
          go_wp2_with fail
          refine c8.mono ?_
          rintro e w8 ⟨rfl, hB8⟩
          clear c8
          replace hB := chain hB hB8
          replace Rf := Rf.below hB8
          replace Rg := Rg.below hB8
          replace Ra := Ra.below hB8
          replace Rb := Rb.below hB8
          clear hB8
          have c9 := Entails_any D A _ _ w8 Rb Ra (by omega) (by omega)
          rw [E3.out] at c9
          try dsimp only at c9
          go_wp2_with fail
          refine c9.mono ?_
          rintro e w9 ⟨rfl, hB9⟩
          clear c9
          replace hB := chain hB hB9
          replace Rf := Rf.below hB9
          replace Rg := Rg.below hB9
          replace Ra := Ra.below hB9
          replace Rb := Rb.below hB9
          clear hB9
          go_wp2
          go_ret
          exact ⟨rfl, hB⟩
end Go.Proofs.Ytdikaomebbpmhaa
