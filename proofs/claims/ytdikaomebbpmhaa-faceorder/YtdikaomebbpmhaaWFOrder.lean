/- The walk of the law FaceOrder: the call returns true; nothing that lay before it turns. -/
import Derived.Test.YtdikaomebbpmhaaAWorks
import Derived.Test.YtdikaomebbpmhaaASame
namespace Go.Proofs.Ytdikaomebbpmhaa
open Go.RowKit
set_option linter.unusedVariables false
set_option linter.unusedSimpArgs false

set_option maxRecDepth 100000 in
set_option maxHeartbeats 4000000 in
theorem walk_FaceOrder (l : List C) (vl : Value) (m : List C) (vm : Value) (n : List C) (vn : Value) (w : World) (Rf : FRow w vl l) (Rg : FRow w vm m) (Rh : FRow w vn n) :
    Calls Try.prog 5 #[vl, vm, vn] w fun e w' => e = .returned (.bool true) ∧ Below w.heap.size w w' := by
  obtain ⟨pl, cl, rfl⟩ := Rf.len
  obtain ⟨pm, cm, rfl⟩ := Rg.len
  obtain ⟨pn, cn, rfl⟩ := Rh.len
  have hB : Below w.heap.size w w := Below.refl _ _
  go_enter Try.func5, Try.ntmps5
  have c1 := aworks_any w
  go_wp2_with fail
  refine c1.mono ?_
  rintro e w1 ⟨rfl, hB1⟩
  clear c1
  replace hB := chain hB hB1
  replace Rf := Rf.below hB1
  replace Rg := Rg.below hB1
  replace Rh := Rh.below hB1
  clear hB1
  have cg := great_any pl pm l.length m.length cl cm w1
  by_cases hbig : 24 < l.length ∨ 24 < m.length
  · have hbb : (decide (24 < l.length) || decide (24 < m.length)) = true := by simpa using hbig
    rw [hbb] at cg
    have c2 := cg
    go_wp2_with fail
    refine c2.mono ?_
    rintro e wt ⟨rfl, hwt⟩
    replace hwt := hwt.symm
    subst hwt
    clear c2
    go_wp2
    go_ret
    exact ⟨rfl, hB⟩
  · have hbb : (decide (24 < l.length) || decide (24 < m.length)) = false := by simp; omega
    rw [hbb] at cg
    have hl : l.length ≤ 24 := by omega
    have hm : m.length ≤ 24 := by omega
    clear hbig hbb
    have c2 := cg
    go_wp2_with fail
    refine c2.mono ?_
    rintro e wt ⟨rfl, hwt⟩
    replace hwt := hwt.symm
    subst hwt
    clear c2
    by_cases hbig : 24 < n.length
    · have hb' : (24 : Int) < (n.length : Int) := by omega
      go_wp2
      go_ret
      exact ⟨rfl, hB⟩
    · have hb' : ¬ ((24 : Int) < (n.length : Int)) := by omega
      have hn : n.length ≤ 24 := by omega
      clear hbig
      have cc := aright_any l _ w1 Rf (by omega)
      cases hf : rightA l
      · rw [hf] at cc
        have c3 := cc
        go_wp2_with fail
        refine c3.mono ?_
        rintro e w3 ⟨rfl, hB3⟩
        clear c3
        replace hB := chain hB hB3
        replace Rf := Rf.below hB3
        replace Rg := Rg.below hB3
        replace Rh := Rh.below hB3
        clear hB3
        go_wp2
        go_ret
        exact ⟨rfl, hB⟩
      · rw [hf] at cc
        have c3 := cc
        go_wp2_with fail
        refine c3.mono ?_
        rintro e w3 ⟨rfl, hB3⟩
        clear c3
        replace hB := chain hB hB3
        replace Rf := Rf.below hB3
        replace Rg := Rg.below hB3
        replace Rh := Rh.below hB3
        clear hB3
        have cc := aright_any m _ w3 Rg (by omega)
        cases hg : rightA m
        · rw [hg] at cc
          have c4 := cc
          go_wp2_with fail
          refine c4.mono ?_
          rintro e w4 ⟨rfl, hB4⟩
          clear c4
          replace hB := chain hB hB4
          replace Rf := Rf.below hB4
          replace Rg := Rg.below hB4
          replace Rh := Rh.below hB4
          clear hB4
          go_wp2
          go_ret
          exact ⟨rfl, hB⟩
        · rw [hg] at cc
          have c4 := cc
          go_wp2_with fail
          refine c4.mono ?_
          rintro e w4 ⟨rfl, hB4⟩
          clear c4
          replace hB := chain hB hB4
          replace Rf := Rf.below hB4
          replace Rg := Rg.below hB4
          replace Rh := Rh.below hB4
          clear hB4
          have cc := aright_any n _ w4 Rh (by omega)
          cases hh : rightA n
          · rw [hh] at cc
            have c5 := cc
            go_wp2_with fail
            refine c5.mono ?_
            rintro e w5 ⟨rfl, hB5⟩
            clear c5
            replace hB := chain hB hB5
            replace Rf := Rf.below hB5
            replace Rg := Rg.below hB5
            replace Rh := Rh.below hB5
            clear hB5
            go_wp2
            go_ret
            exact ⟨rfl, hB⟩
          · rw [hh] at cc
            have c5 := cc
            go_wp2_with fail
            refine c5.mono ?_
            rintro e w5 ⟨rfl, hB5⟩
            clear c5
            replace hB := chain hB hB5
            replace Rf := Rf.below hB5
            replace Rg := Rg.below hB5
            replace Rh := Rh.below hB5
            clear hB5
            clear hb'
            obtain ⟨fg, hfg⟩ : ∃ x, x = entB l m := ⟨_, rfl⟩
            obtain ⟨gf, hgf⟩ : ∃ x, x = entB m l := ⟨_, rfl⟩
            obtain ⟨gh, hgh⟩ : ∃ x, x = entB m n := ⟨_, rfl⟩
            obtain ⟨fh, hfh⟩ : ∃ x, x = entB l n := ⟨_, rfl⟩
            obtain ⟨kf, hkf⟩ : ∃ x, x = entB n l := ⟨_, rfl⟩
            obtain ⟨kg, hkg⟩ : ∃ x, x = entB n m := ⟨_, rfl⟩
            have E1 : Hid (entA l l = (true, 0)) := by show _ = _; rw [entA_ok hf hf, ent_refl]
            have E2 : Hid (entA l m = (fg, 0)) := by show _ = _; rw [entA_ok hf hg, hfg]
            have E3 : Hid (entA m l = (gf, 0)) := by show _ = _; rw [entA_ok hg hf, hgf]
            have E4 : Hid (entA m n = (gh, 0)) := by show _ = _; rw [entA_ok hg hh, hgh]
            have E5 : Hid (entA l n = (fh, 0)) := by show _ = _; rw [entA_ok hf hh, hfh]
            have E6 : Hid (entA n l = (kf, 0)) := by show _ = _; rw [entA_ok hh hf, hkf]
            have E7 : Hid (entA n m = (kg, 0)) := by show _ = _; rw [entA_ok hh hg, hkg]
            have HS : Hid (fg = true → decide (l = m) = gf) := fun h => by rw [hgf]; exact (ent_anti hf hg (by rw [← hfg]; exact h)).symm
            have HT : Hid (fg = true → gh = true → fh = true) := fun h1 h2 => by rw [hfh]; exact ent_trans (by rw [← hfg]; exact h1) (by rw [← hgh]; exact h2)
            have HJ : Hid (∀ J, jnA l m = (J, 0) → J.length ≤ 64 ∧ entA l J = (true, 0) ∧ entA m J = (true, 0) ∧ entA J n = (fh && gh, 0)) := fun J hJ => by
              have h0 : (jnA l m).2 = 0 := by rw [hJ]
              have rJ : rightA J = true := by have := jnA_right l m; rw [hJ] at this; exact this
              have h := jn_least (h := n) hf hg h0
              rw [hJ] at h
              exact ⟨rightA_len rJ, by rw [entA_ok hf rJ, h.1], by rw [entA_ok hg rJ, h.2.1], by rw [entA_ok rJ hh, h.2.2, hfh, hgh]⟩
            have HM : Hid (∀ J, mtA l m = (J, 0) → J.length ≤ 64 ∧ entA J l = (true, 0) ∧ entA J m = (true, 0) ∧ entA n J = (kf && kg, 0)) := fun J hJ => by
              have h0 : (mtA l m).2 = 0 := by rw [hJ]
              have rJ : rightA J = true := by have := mtA_right l m; rw [hJ] at this; exact this
              have h := mt_greatest (h := n) hf hg hh h0
              rw [hJ] at h
              exact ⟨rightA_len rJ, by rw [entA_ok rJ hf, h.1], by rw [entA_ok rJ hg, h.2.1], by rw [entA_ok hh rJ, h.2.2, hkf, hkg]⟩
            clear hfg hgf hgh hfh hkf hkg hf hg hh
            have c6 := Entails_any l l _ _ w5 Rf Rf (by omega) (by omega)
            rw [E1.out] at c6
            try dsimp only at c6
            go_wp2_with fail
            refine c6.mono ?_
            rintro e w6 ⟨rfl, hB6⟩
            clear c6
            replace hB := chain hB hB6
            replace Rf := Rf.below hB6
            replace Rg := Rg.below hB6
            replace Rh := Rh.below hB6
            clear hB6
            clear E1
            have c7 := Entails_any l m _ _ w6 Rf Rg (by omega) (by omega)
            rw [E2.out] at c7
            try dsimp only at c7
            go_wp2_with fail
            refine c7.mono ?_
            rintro e w7 ⟨rfl, hB7⟩
            clear c7
            replace hB := chain hB hB7
            replace Rf := Rf.below hB7
            replace Rg := Rg.below hB7
            replace Rh := Rh.below hB7
            clear hB7
            clear E2
            have c8 := Entails_any m l _ _ w7 Rg Rf (by omega) (by omega)
            rw [E3.out] at c8
            try dsimp only at c8
            go_wp2_with fail
            refine c8.mono ?_
            rintro e w8 ⟨rfl, hB8⟩
            clear c8
            replace hB := chain hB hB8
            replace Rf := Rf.below hB8
            replace Rg := Rg.below hB8
            replace Rh := Rh.below hB8
            clear hB8
            clear E3
            have c9 := Entails_any m n _ _ w8 Rg Rh (by omega) (by omega)
            rw [E4.out] at c9
            try dsimp only at c9
            go_wp2_with fail
            refine c9.mono ?_
            rintro e w9 ⟨rfl, hB9⟩
            clear c9
            replace hB := chain hB hB9
            replace Rf := Rf.below hB9
            replace Rg := Rg.below hB9
            replace Rh := Rh.below hB9
            clear hB9
            clear E4
            have c10 := Entails_any l n _ _ w9 Rf Rh (by omega) (by omega)
            rw [E5.out] at c10
            try dsimp only at c10
            go_wp2_with fail
            refine c10.mono ?_
            rintro e w10 ⟨rfl, hB10⟩
            clear c10
            replace hB := chain hB hB10
            replace Rf := Rf.below hB10
            replace Rg := Rg.below hB10
            replace Rh := Rh.below hB10
            clear hB10
            clear E5
            have c11 := Entails_any n l _ _ w10 Rh Rf (by omega) (by omega)
            rw [E6.out] at c11
            try dsimp only at c11
            go_wp2_with fail
            refine c11.mono ?_
            rintro e w11 ⟨rfl, hB11⟩
            clear c11
            replace hB := chain hB hB11
            replace Rf := Rf.below hB11
            replace Rg := Rg.below hB11
            replace Rh := Rh.below hB11
            clear hB11
            clear E6
            have c12 := Entails_any n m _ _ w11 Rh Rg (by omega) (by omega)
            rw [E7.out] at c12
            try dsimp only at c12
            go_wp2_with fail
            refine c12.mono ?_
            rintro e w12 ⟨rfl, hB12⟩
            clear c12
            replace hB := chain hB hB12
            replace Rf := Rf.below hB12
            replace Rg := Rg.below hB12
            replace Rh := Rh.below hB12
            clear hB12
            clear E7
            have hgg : (gf != gf) = false := by simp
            have hhh : (gh != gh) = false := by simp
            cases fg
            · clear HS HT
              cases fh
              · obtain ⟨J, jr⟩ : ∃ J : List C × Int, J = jnA l m := ⟨_, rfl⟩
                have cJ := AJoin_any l m _ _ w12 Rf Rg (by omega) (by omega)
                rw [← jr] at cJ
                have HJ2 : Hid (J = jnA l m) := jr
                clear jr
                obtain ⟨J, er⟩ := J
                dsimp only at cJ
                by_cases h0 : er = 0
                · subst h0
                  obtain ⟨lJ, J1, J2, J3⟩ := HJ.out J HJ2.out.symm
                  have N1 : Hid (entA l J = (true, 0)) := J1
                  have N2 : Hid (entA m J = (true, 0)) := J2
                  have N3 : Hid (entA J n = (false, 0)) := J3
                  clear J1 J2 J3 HJ HJ2
                  have c13 := cJ
                  go_wp2_with fail
                  refine c13.mono ?_
                  rintro e w13 ⟨v13, rfl, hO13, hB13⟩
                  clear c13
                  replace hB := chain hB hB13
                  replace Rf := Rf.below hB13
                  replace Rg := Rg.below hB13
                  replace Rh := Rh.below hB13
                  clear hB13
                  have Rj := OwnsC.frow hO13
                  obtain ⟨p13, q13, rfl⟩ := OwnsC.len hO13
                  clear hO13
                  clear cJ
                  have c14 := Entails_any l J _ _ w13 Rf Rj (by omega) (by omega)
                  rw [N1.out] at c14
                  try dsimp only at c14
                  go_wp2_with fail
                  refine c14.mono ?_
                  rintro e w14 ⟨rfl, hB14⟩
                  clear c14
                  replace hB := chain hB hB14
                  replace Rf := Rf.below hB14
                  replace Rg := Rg.below hB14
                  replace Rh := Rh.below hB14
                  replace Rj := Rj.below hB14
                  clear hB14
                  have c15 := Entails_any m J _ _ w14 Rg Rj (by omega) (by omega)
                  rw [N2.out] at c15
                  try dsimp only at c15
                  go_wp2_with fail
                  refine c15.mono ?_
                  rintro e w15 ⟨rfl, hB15⟩
                  clear c15
                  replace hB := chain hB hB15
                  replace Rf := Rf.below hB15
                  replace Rg := Rg.below hB15
                  replace Rh := Rh.below hB15
                  replace Rj := Rj.below hB15
                  clear hB15
                  have c16 := Entails_any J n _ _ w15 Rj Rh (by omega) (by omega)
                  rw [N3.out] at c16
                  try dsimp only at c16
                  go_wp2_with fail
                  refine c16.mono ?_
                  rintro e w16 ⟨rfl, hB16⟩
                  clear c16
                  replace hB := chain hB hB16
                  replace Rf := Rf.below hB16
                  replace Rg := Rg.below hB16
                  replace Rh := Rh.below hB16
                  replace Rj := Rj.below hB16
                  clear hB16
                  obtain ⟨M, mr⟩ : ∃ M : List C × Int, M = mtA l m := ⟨_, rfl⟩
                  have cM := AMeet_any l m _ _ w16 Rf Rg (by omega) (by omega)
                  rw [← mr] at cM
                  have HM2 : Hid (M = mtA l m) := mr
                  clear mr
                  obtain ⟨M, er⟩ := M
                  dsimp only at cM
                  by_cases h0 : er = 0
                  · subst h0
                    obtain ⟨lM, M1, M2, M3⟩ := HM.out M HM2.out.symm
                    have N1 : Hid (entA M l = (true, 0)) := M1
                    have N2 : Hid (entA M m = (true, 0)) := M2
                    have N3 : Hid (entA n M = (kf && kg, 0)) := M3
                    clear M1 M2 M3 HM HM2
                    have c17 := cM
                    go_wp2_with fail
                    refine c17.mono ?_
                    rintro e w17 ⟨v17, rfl, hO17, hB17⟩
                    clear c17
                    replace hB := chain hB hB17
                    replace Rf := Rf.below hB17
                    replace Rg := Rg.below hB17
                    replace Rh := Rh.below hB17
                    replace Rj := Rj.below hB17
                    clear hB17
                    have Rm := OwnsC.frow hO17
                    obtain ⟨p17, q17, rfl⟩ := OwnsC.len hO17
                    clear hO17
                    clear cM
                    have c18 := Entails_any M l _ _ w17 Rm Rf (by omega) (by omega)
                    rw [N1.out] at c18
                    try dsimp only at c18
                    go_wp2_with fail
                    refine c18.mono ?_
                    rintro e w18 ⟨rfl, hB18⟩
                    clear c18
                    replace hB := chain hB hB18
                    replace Rf := Rf.below hB18
                    replace Rg := Rg.below hB18
                    replace Rh := Rh.below hB18
                    replace Rj := Rj.below hB18
                    replace Rm := Rm.below hB18
                    clear hB18
                    have c19 := Entails_any M m _ _ w18 Rm Rg (by omega) (by omega)
                    rw [N2.out] at c19
                    try dsimp only at c19
                    go_wp2_with fail
                    refine c19.mono ?_
                    rintro e w19 ⟨rfl, hB19⟩
                    clear c19
                    replace hB := chain hB hB19
                    replace Rf := Rf.below hB19
                    replace Rg := Rg.below hB19
                    replace Rh := Rh.below hB19
                    replace Rj := Rj.below hB19
                    replace Rm := Rm.below hB19
                    clear hB19
                    cases kf
                    · have N4 : Hid (entA n M = (false, 0)) := N3.out
                      have c20 := Entails_any n M _ _ w19 Rh Rm (by omega) (by omega)
                      rw [N4.out] at c20
                      try dsimp only at c20
                      go_wp2_with fail
                      refine c20.mono ?_
                      rintro e w20 ⟨rfl, hB20⟩
                      clear c20
                      replace hB := chain hB hB20
                      replace Rf := Rf.below hB20
                      replace Rg := Rg.below hB20
                      replace Rh := Rh.below hB20
                      replace Rj := Rj.below hB20
                      replace Rm := Rm.below hB20
                      clear hB20
                      go_wp2
                      go_ret
                      exact ⟨rfl, hB⟩
                    · have N4 : Hid (entA n M = (kg, 0)) := N3.out
                      have hkk : (kg != kg) = false := by simp
                      have c20 := Entails_any n M _ _ w19 Rh Rm (by omega) (by omega)
                      rw [N4.out] at c20
                      try dsimp only at c20
                      go_wp2_with fail
                      refine c20.mono ?_
                      rintro e w20 ⟨rfl, hB20⟩
                      clear c20
                      replace hB := chain hB hB20
                      replace Rf := Rf.below hB20
                      replace Rg := Rg.below hB20
                      replace Rh := Rh.below hB20
                      replace Rj := Rj.below hB20
                      replace Rm := Rm.below hB20
                      clear hB20
                      go_wp2
                      go_ret
                      exact ⟨rfl, hB⟩
                  · have h1 : (er == 0) = false := by simpa using h0
                    clear HM HM2
                    have c17 := cM
                    go_wp2_with fail
                    refine c17.mono ?_
                    rintro e w17 ⟨v17, rfl, hO17, hB17⟩
                    clear c17
                    replace hB := chain hB hB17
                    replace Rf := Rf.below hB17
                    replace Rg := Rg.below hB17
                    replace Rh := Rh.below hB17
                    replace Rj := Rj.below hB17
                    clear hB17
                    have Rm := OwnsC.frow hO17
                    obtain ⟨p17, q17, rfl⟩ := OwnsC.len hO17
                    clear hO17
                    go_wp2
                    go_ret
                    exact ⟨rfl, hB⟩
                · have h1 : (er == 0) = false := by simpa using h0
                  clear HJ HJ2
                  have c13 := cJ
                  go_wp2_with fail
                  refine c13.mono ?_
                  rintro e w13 ⟨v13, rfl, hO13, hB13⟩
                  clear c13
                  replace hB := chain hB hB13
                  replace Rf := Rf.below hB13
                  replace Rg := Rg.below hB13
                  replace Rh := Rh.below hB13
                  clear hB13
                  have Rj := OwnsC.frow hO13
                  obtain ⟨p13, q13, rfl⟩ := OwnsC.len hO13
                  clear hO13
                  obtain ⟨M, mr⟩ : ∃ M : List C × Int, M = mtA l m := ⟨_, rfl⟩
                  have cM := AMeet_any l m _ _ w13 Rf Rg (by omega) (by omega)
                  rw [← mr] at cM
                  have HM2 : Hid (M = mtA l m) := mr
                  clear mr
                  obtain ⟨M, er⟩ := M
                  dsimp only at cM
                  by_cases h0 : er = 0
                  · subst h0
                    obtain ⟨lM, M1, M2, M3⟩ := HM.out M HM2.out.symm
                    have N1 : Hid (entA M l = (true, 0)) := M1
                    have N2 : Hid (entA M m = (true, 0)) := M2
                    have N3 : Hid (entA n M = (kf && kg, 0)) := M3
                    clear M1 M2 M3 HM HM2
                    have c14 := cM
                    go_wp2_with fail
                    refine c14.mono ?_
                    rintro e w14 ⟨v14, rfl, hO14, hB14⟩
                    clear c14
                    replace hB := chain hB hB14
                    replace Rf := Rf.below hB14
                    replace Rg := Rg.below hB14
                    replace Rh := Rh.below hB14
                    replace Rj := Rj.below hB14
                    clear hB14
                    have Rm := OwnsC.frow hO14
                    obtain ⟨p14, q14, rfl⟩ := OwnsC.len hO14
                    clear hO14
                    clear cM
                    have c15 := Entails_any M l _ _ w14 Rm Rf (by omega) (by omega)
                    rw [N1.out] at c15
                    try dsimp only at c15
                    go_wp2_with fail
                    refine c15.mono ?_
                    rintro e w15 ⟨rfl, hB15⟩
                    clear c15
                    replace hB := chain hB hB15
                    replace Rf := Rf.below hB15
                    replace Rg := Rg.below hB15
                    replace Rh := Rh.below hB15
                    replace Rj := Rj.below hB15
                    replace Rm := Rm.below hB15
                    clear hB15
                    have c16 := Entails_any M m _ _ w15 Rm Rg (by omega) (by omega)
                    rw [N2.out] at c16
                    try dsimp only at c16
                    go_wp2_with fail
                    refine c16.mono ?_
                    rintro e w16 ⟨rfl, hB16⟩
                    clear c16
                    replace hB := chain hB hB16
                    replace Rf := Rf.below hB16
                    replace Rg := Rg.below hB16
                    replace Rh := Rh.below hB16
                    replace Rj := Rj.below hB16
                    replace Rm := Rm.below hB16
                    clear hB16
                    cases kf
                    · have N4 : Hid (entA n M = (false, 0)) := N3.out
                      have c17 := Entails_any n M _ _ w16 Rh Rm (by omega) (by omega)
                      rw [N4.out] at c17
                      try dsimp only at c17
                      go_wp2_with fail
                      refine c17.mono ?_
                      rintro e w17 ⟨rfl, hB17⟩
                      clear c17
                      replace hB := chain hB hB17
                      replace Rf := Rf.below hB17
                      replace Rg := Rg.below hB17
                      replace Rh := Rh.below hB17
                      replace Rj := Rj.below hB17
                      replace Rm := Rm.below hB17
                      clear hB17
                      go_wp2
                      go_ret
                      exact ⟨rfl, hB⟩
                    · have N4 : Hid (entA n M = (kg, 0)) := N3.out
                      have hkk : (kg != kg) = false := by simp
                      have c17 := Entails_any n M _ _ w16 Rh Rm (by omega) (by omega)
                      rw [N4.out] at c17
                      try dsimp only at c17
                      go_wp2_with fail
                      refine c17.mono ?_
                      rintro e w17 ⟨rfl, hB17⟩
                      clear c17
                      replace hB := chain hB hB17
                      replace Rf := Rf.below hB17
                      replace Rg := Rg.below hB17
                      replace Rh := Rh.below hB17
                      replace Rj := Rj.below hB17
                      replace Rm := Rm.below hB17
                      clear hB17
                      go_wp2
                      go_ret
                      exact ⟨rfl, hB⟩
                  · have h1 : (er == 0) = false := by simpa using h0
                    clear HM HM2
                    have c14 := cM
                    go_wp2_with fail
                    refine c14.mono ?_
                    rintro e w14 ⟨v14, rfl, hO14, hB14⟩
                    clear c14
                    replace hB := chain hB hB14
                    replace Rf := Rf.below hB14
                    replace Rg := Rg.below hB14
                    replace Rh := Rh.below hB14
                    replace Rj := Rj.below hB14
                    clear hB14
                    have Rm := OwnsC.frow hO14
                    obtain ⟨p14, q14, rfl⟩ := OwnsC.len hO14
                    clear hO14
                    go_wp2
                    go_ret
                    exact ⟨rfl, hB⟩
              · obtain ⟨J, jr⟩ : ∃ J : List C × Int, J = jnA l m := ⟨_, rfl⟩
                have cJ := AJoin_any l m _ _ w12 Rf Rg (by omega) (by omega)
                rw [← jr] at cJ
                have HJ2 : Hid (J = jnA l m) := jr
                clear jr
                obtain ⟨J, er⟩ := J
                dsimp only at cJ
                by_cases h0 : er = 0
                · subst h0
                  obtain ⟨lJ, J1, J2, J3⟩ := HJ.out J HJ2.out.symm
                  have N1 : Hid (entA l J = (true, 0)) := J1
                  have N2 : Hid (entA m J = (true, 0)) := J2
                  have N3 : Hid (entA J n = (gh, 0)) := J3
                  clear J1 J2 J3 HJ HJ2
                  have c13 := cJ
                  go_wp2_with fail
                  refine c13.mono ?_
                  rintro e w13 ⟨v13, rfl, hO13, hB13⟩
                  clear c13
                  replace hB := chain hB hB13
                  replace Rf := Rf.below hB13
                  replace Rg := Rg.below hB13
                  replace Rh := Rh.below hB13
                  clear hB13
                  have Rj := OwnsC.frow hO13
                  obtain ⟨p13, q13, rfl⟩ := OwnsC.len hO13
                  clear hO13
                  clear cJ
                  have c14 := Entails_any l J _ _ w13 Rf Rj (by omega) (by omega)
                  rw [N1.out] at c14
                  try dsimp only at c14
                  go_wp2_with fail
                  refine c14.mono ?_
                  rintro e w14 ⟨rfl, hB14⟩
                  clear c14
                  replace hB := chain hB hB14
                  replace Rf := Rf.below hB14
                  replace Rg := Rg.below hB14
                  replace Rh := Rh.below hB14
                  replace Rj := Rj.below hB14
                  clear hB14
                  have c15 := Entails_any m J _ _ w14 Rg Rj (by omega) (by omega)
                  rw [N2.out] at c15
                  try dsimp only at c15
                  go_wp2_with fail
                  refine c15.mono ?_
                  rintro e w15 ⟨rfl, hB15⟩
                  clear c15
                  replace hB := chain hB hB15
                  replace Rf := Rf.below hB15
                  replace Rg := Rg.below hB15
                  replace Rh := Rh.below hB15
                  replace Rj := Rj.below hB15
                  clear hB15
                  have c16 := Entails_any J n _ _ w15 Rj Rh (by omega) (by omega)
                  rw [N3.out] at c16
                  try dsimp only at c16
                  go_wp2_with fail
                  refine c16.mono ?_
                  rintro e w16 ⟨rfl, hB16⟩
                  clear c16
                  replace hB := chain hB hB16
                  replace Rf := Rf.below hB16
                  replace Rg := Rg.below hB16
                  replace Rh := Rh.below hB16
                  replace Rj := Rj.below hB16
                  clear hB16
                  obtain ⟨M, mr⟩ : ∃ M : List C × Int, M = mtA l m := ⟨_, rfl⟩
                  have cM := AMeet_any l m _ _ w16 Rf Rg (by omega) (by omega)
                  rw [← mr] at cM
                  have HM2 : Hid (M = mtA l m) := mr
                  clear mr
                  obtain ⟨M, er⟩ := M
                  dsimp only at cM
                  by_cases h0 : er = 0
                  · subst h0
                    obtain ⟨lM, M1, M2, M3⟩ := HM.out M HM2.out.symm
                    have N1 : Hid (entA M l = (true, 0)) := M1
                    have N2 : Hid (entA M m = (true, 0)) := M2
                    have N3 : Hid (entA n M = (kf && kg, 0)) := M3
                    clear M1 M2 M3 HM HM2
                    have c17 := cM
                    go_wp2_with fail
                    refine c17.mono ?_
                    rintro e w17 ⟨v17, rfl, hO17, hB17⟩
                    clear c17
                    replace hB := chain hB hB17
                    replace Rf := Rf.below hB17
                    replace Rg := Rg.below hB17
                    replace Rh := Rh.below hB17
                    replace Rj := Rj.below hB17
                    clear hB17
                    have Rm := OwnsC.frow hO17
                    obtain ⟨p17, q17, rfl⟩ := OwnsC.len hO17
                    clear hO17
                    clear cM
                    have c18 := Entails_any M l _ _ w17 Rm Rf (by omega) (by omega)
                    rw [N1.out] at c18
                    try dsimp only at c18
                    go_wp2_with fail
                    refine c18.mono ?_
                    rintro e w18 ⟨rfl, hB18⟩
                    clear c18
                    replace hB := chain hB hB18
                    replace Rf := Rf.below hB18
                    replace Rg := Rg.below hB18
                    replace Rh := Rh.below hB18
                    replace Rj := Rj.below hB18
                    replace Rm := Rm.below hB18
                    clear hB18
                    have c19 := Entails_any M m _ _ w18 Rm Rg (by omega) (by omega)
                    rw [N2.out] at c19
                    try dsimp only at c19
                    go_wp2_with fail
                    refine c19.mono ?_
                    rintro e w19 ⟨rfl, hB19⟩
                    clear c19
                    replace hB := chain hB hB19
                    replace Rf := Rf.below hB19
                    replace Rg := Rg.below hB19
                    replace Rh := Rh.below hB19
                    replace Rj := Rj.below hB19
                    replace Rm := Rm.below hB19
                    clear hB19
                    cases kf
                    · have N4 : Hid (entA n M = (false, 0)) := N3.out
                      have c20 := Entails_any n M _ _ w19 Rh Rm (by omega) (by omega)
                      rw [N4.out] at c20
                      try dsimp only at c20
                      go_wp2_with fail
                      refine c20.mono ?_
                      rintro e w20 ⟨rfl, hB20⟩
                      clear c20
                      replace hB := chain hB hB20
                      replace Rf := Rf.below hB20
                      replace Rg := Rg.below hB20
                      replace Rh := Rh.below hB20
                      replace Rj := Rj.below hB20
                      replace Rm := Rm.below hB20
                      clear hB20
                      go_wp2
                      go_ret
                      exact ⟨rfl, hB⟩
                    · have N4 : Hid (entA n M = (kg, 0)) := N3.out
                      have hkk : (kg != kg) = false := by simp
                      have c20 := Entails_any n M _ _ w19 Rh Rm (by omega) (by omega)
                      rw [N4.out] at c20
                      try dsimp only at c20
                      go_wp2_with fail
                      refine c20.mono ?_
                      rintro e w20 ⟨rfl, hB20⟩
                      clear c20
                      replace hB := chain hB hB20
                      replace Rf := Rf.below hB20
                      replace Rg := Rg.below hB20
                      replace Rh := Rh.below hB20
                      replace Rj := Rj.below hB20
                      replace Rm := Rm.below hB20
                      clear hB20
                      go_wp2
                      go_ret
                      exact ⟨rfl, hB⟩
                  · have h1 : (er == 0) = false := by simpa using h0
                    clear HM HM2
                    have c17 := cM
                    go_wp2_with fail
                    refine c17.mono ?_
                    rintro e w17 ⟨v17, rfl, hO17, hB17⟩
                    clear c17
                    replace hB := chain hB hB17
                    replace Rf := Rf.below hB17
                    replace Rg := Rg.below hB17
                    replace Rh := Rh.below hB17
                    replace Rj := Rj.below hB17
                    clear hB17
                    have Rm := OwnsC.frow hO17
                    obtain ⟨p17, q17, rfl⟩ := OwnsC.len hO17
                    clear hO17
                    go_wp2
                    go_ret
                    exact ⟨rfl, hB⟩
                · have h1 : (er == 0) = false := by simpa using h0
                  clear HJ HJ2
                  have c13 := cJ
                  go_wp2_with fail
                  refine c13.mono ?_
                  rintro e w13 ⟨v13, rfl, hO13, hB13⟩
                  clear c13
                  replace hB := chain hB hB13
                  replace Rf := Rf.below hB13
                  replace Rg := Rg.below hB13
                  replace Rh := Rh.below hB13
                  clear hB13
                  have Rj := OwnsC.frow hO13
                  obtain ⟨p13, q13, rfl⟩ := OwnsC.len hO13
                  clear hO13
                  obtain ⟨M, mr⟩ : ∃ M : List C × Int, M = mtA l m := ⟨_, rfl⟩
                  have cM := AMeet_any l m _ _ w13 Rf Rg (by omega) (by omega)
                  rw [← mr] at cM
                  have HM2 : Hid (M = mtA l m) := mr
                  clear mr
                  obtain ⟨M, er⟩ := M
                  dsimp only at cM
                  by_cases h0 : er = 0
                  · subst h0
                    obtain ⟨lM, M1, M2, M3⟩ := HM.out M HM2.out.symm
                    have N1 : Hid (entA M l = (true, 0)) := M1
                    have N2 : Hid (entA M m = (true, 0)) := M2
                    have N3 : Hid (entA n M = (kf && kg, 0)) := M3
                    clear M1 M2 M3 HM HM2
                    have c14 := cM
                    go_wp2_with fail
                    refine c14.mono ?_
                    rintro e w14 ⟨v14, rfl, hO14, hB14⟩
                    clear c14
                    replace hB := chain hB hB14
                    replace Rf := Rf.below hB14
                    replace Rg := Rg.below hB14
                    replace Rh := Rh.below hB14
                    replace Rj := Rj.below hB14
                    clear hB14
                    have Rm := OwnsC.frow hO14
                    obtain ⟨p14, q14, rfl⟩ := OwnsC.len hO14
                    clear hO14
                    clear cM
                    have c15 := Entails_any M l _ _ w14 Rm Rf (by omega) (by omega)
                    rw [N1.out] at c15
                    try dsimp only at c15
                    go_wp2_with fail
                    refine c15.mono ?_
                    rintro e w15 ⟨rfl, hB15⟩
                    clear c15
                    replace hB := chain hB hB15
                    replace Rf := Rf.below hB15
                    replace Rg := Rg.below hB15
                    replace Rh := Rh.below hB15
                    replace Rj := Rj.below hB15
                    replace Rm := Rm.below hB15
                    clear hB15
                    have c16 := Entails_any M m _ _ w15 Rm Rg (by omega) (by omega)
                    rw [N2.out] at c16
                    try dsimp only at c16
                    go_wp2_with fail
                    refine c16.mono ?_
                    rintro e w16 ⟨rfl, hB16⟩
                    clear c16
                    replace hB := chain hB hB16
                    replace Rf := Rf.below hB16
                    replace Rg := Rg.below hB16
                    replace Rh := Rh.below hB16
                    replace Rj := Rj.below hB16
                    replace Rm := Rm.below hB16
                    clear hB16
                    cases kf
                    · have N4 : Hid (entA n M = (false, 0)) := N3.out
                      have c17 := Entails_any n M _ _ w16 Rh Rm (by omega) (by omega)
                      rw [N4.out] at c17
                      try dsimp only at c17
                      go_wp2_with fail
                      refine c17.mono ?_
                      rintro e w17 ⟨rfl, hB17⟩
                      clear c17
                      replace hB := chain hB hB17
                      replace Rf := Rf.below hB17
                      replace Rg := Rg.below hB17
                      replace Rh := Rh.below hB17
                      replace Rj := Rj.below hB17
                      replace Rm := Rm.below hB17
                      clear hB17
                      go_wp2
                      go_ret
                      exact ⟨rfl, hB⟩
                    · have N4 : Hid (entA n M = (kg, 0)) := N3.out
                      have hkk : (kg != kg) = false := by simp
                      have c17 := Entails_any n M _ _ w16 Rh Rm (by omega) (by omega)
                      rw [N4.out] at c17
                      try dsimp only at c17
                      go_wp2_with fail
                      refine c17.mono ?_
                      rintro e w17 ⟨rfl, hB17⟩
                      clear c17
                      replace hB := chain hB hB17
                      replace Rf := Rf.below hB17
                      replace Rg := Rg.below hB17
                      replace Rh := Rh.below hB17
                      replace Rj := Rj.below hB17
                      replace Rm := Rm.below hB17
                      clear hB17
                      go_wp2
                      go_ret
                      exact ⟨rfl, hB⟩
                  · have h1 : (er == 0) = false := by simpa using h0
                    clear HM HM2
                    have c14 := cM
                    go_wp2_with fail
                    refine c14.mono ?_
                    rintro e w14 ⟨v14, rfl, hO14, hB14⟩
                    clear c14
                    replace hB := chain hB hB14
                    replace Rf := Rf.below hB14
                    replace Rg := Rg.below hB14
                    replace Rh := Rh.below hB14
                    replace Rj := Rj.below hB14
                    clear hB14
                    have Rm := OwnsC.frow hO14
                    obtain ⟨p14, q14, rfl⟩ := OwnsC.len hO14
                    clear hO14
                    go_wp2
                    go_ret
                    exact ⟨rfl, hB⟩
            · have c13 := same_any l m _ _ w12 Rf.row Rg.row (by omega)
              rw [HS.out rfl] at c13
              try dsimp only at c13
              go_wp2_with fail
              refine c13.mono ?_
              rintro e w13 ⟨rfl, hB13⟩
              clear c13
              replace hB := chain hB hB13
              replace Rf := Rf.below hB13
              replace Rg := Rg.below hB13
              replace Rh := Rh.below hB13
              clear hB13
              clear HS
              cases gh
              · clear HT hhh
                cases fh
                · obtain ⟨J, jr⟩ : ∃ J : List C × Int, J = jnA l m := ⟨_, rfl⟩
                  have cJ := AJoin_any l m _ _ w13 Rf Rg (by omega) (by omega)
                  rw [← jr] at cJ
                  have HJ2 : Hid (J = jnA l m) := jr
                  clear jr
                  obtain ⟨J, er⟩ := J
                  dsimp only at cJ
                  by_cases h0 : er = 0
                  · subst h0
                    obtain ⟨lJ, J1, J2, J3⟩ := HJ.out J HJ2.out.symm
                    have N1 : Hid (entA l J = (true, 0)) := J1
                    have N2 : Hid (entA m J = (true, 0)) := J2
                    have N3 : Hid (entA J n = (false, 0)) := J3
                    clear J1 J2 J3 HJ HJ2
                    have c14 := cJ
                    go_wp2_with fail
                    refine c14.mono ?_
                    rintro e w14 ⟨v14, rfl, hO14, hB14⟩
                    clear c14
                    replace hB := chain hB hB14
                    replace Rf := Rf.below hB14
                    replace Rg := Rg.below hB14
                    replace Rh := Rh.below hB14
                    clear hB14
                    have Rj := OwnsC.frow hO14
                    obtain ⟨p14, q14, rfl⟩ := OwnsC.len hO14
                    clear hO14
                    clear cJ
                    have c15 := Entails_any l J _ _ w14 Rf Rj (by omega) (by omega)
                    rw [N1.out] at c15
                    try dsimp only at c15
                    go_wp2_with fail
                    refine c15.mono ?_
                    rintro e w15 ⟨rfl, hB15⟩
                    clear c15
                    replace hB := chain hB hB15
                    replace Rf := Rf.below hB15
                    replace Rg := Rg.below hB15
                    replace Rh := Rh.below hB15
                    replace Rj := Rj.below hB15
                    clear hB15
                    have c16 := Entails_any m J _ _ w15 Rg Rj (by omega) (by omega)
                    rw [N2.out] at c16
                    try dsimp only at c16
                    go_wp2_with fail
                    refine c16.mono ?_
                    rintro e w16 ⟨rfl, hB16⟩
                    clear c16
                    replace hB := chain hB hB16
                    replace Rf := Rf.below hB16
                    replace Rg := Rg.below hB16
                    replace Rh := Rh.below hB16
                    replace Rj := Rj.below hB16
                    clear hB16
                    have c17 := Entails_any J n _ _ w16 Rj Rh (by omega) (by omega)
                    rw [N3.out] at c17
                    try dsimp only at c17
                    go_wp2_with fail
                    refine c17.mono ?_
                    rintro e w17 ⟨rfl, hB17⟩
                    clear c17
                    replace hB := chain hB hB17
                    replace Rf := Rf.below hB17
                    replace Rg := Rg.below hB17
                    replace Rh := Rh.below hB17
                    replace Rj := Rj.below hB17
                    clear hB17
                    obtain ⟨M, mr⟩ : ∃ M : List C × Int, M = mtA l m := ⟨_, rfl⟩
                    have cM := AMeet_any l m _ _ w17 Rf Rg (by omega) (by omega)
                    rw [← mr] at cM
                    have HM2 : Hid (M = mtA l m) := mr
                    clear mr
                    obtain ⟨M, er⟩ := M
                    dsimp only at cM
                    by_cases h0 : er = 0
                    · subst h0
                      obtain ⟨lM, M1, M2, M3⟩ := HM.out M HM2.out.symm
                      have N1 : Hid (entA M l = (true, 0)) := M1
                      have N2 : Hid (entA M m = (true, 0)) := M2
                      have N3 : Hid (entA n M = (kf && kg, 0)) := M3
                      clear M1 M2 M3 HM HM2
                      have c18 := cM
                      go_wp2_with fail
                      refine c18.mono ?_
                      rintro e w18 ⟨v18, rfl, hO18, hB18⟩
                      clear c18
                      replace hB := chain hB hB18
                      replace Rf := Rf.below hB18
                      replace Rg := Rg.below hB18
                      replace Rh := Rh.below hB18
                      replace Rj := Rj.below hB18
                      clear hB18
                      have Rm := OwnsC.frow hO18
                      obtain ⟨p18, q18, rfl⟩ := OwnsC.len hO18
                      clear hO18
                      clear cM
                      have c19 := Entails_any M l _ _ w18 Rm Rf (by omega) (by omega)
                      rw [N1.out] at c19
                      try dsimp only at c19
                      go_wp2_with fail
                      refine c19.mono ?_
                      rintro e w19 ⟨rfl, hB19⟩
                      clear c19
                      replace hB := chain hB hB19
                      replace Rf := Rf.below hB19
                      replace Rg := Rg.below hB19
                      replace Rh := Rh.below hB19
                      replace Rj := Rj.below hB19
                      replace Rm := Rm.below hB19
                      clear hB19
                      have c20 := Entails_any M m _ _ w19 Rm Rg (by omega) (by omega)
                      rw [N2.out] at c20
                      try dsimp only at c20
                      go_wp2_with fail
                      refine c20.mono ?_
                      rintro e w20 ⟨rfl, hB20⟩
                      clear c20
                      replace hB := chain hB hB20
                      replace Rf := Rf.below hB20
                      replace Rg := Rg.below hB20
                      replace Rh := Rh.below hB20
                      replace Rj := Rj.below hB20
                      replace Rm := Rm.below hB20
                      clear hB20
                      cases kf
                      · have N4 : Hid (entA n M = (false, 0)) := N3.out
                        have c21 := Entails_any n M _ _ w20 Rh Rm (by omega) (by omega)
                        rw [N4.out] at c21
                        try dsimp only at c21
                        go_wp2_with fail
                        refine c21.mono ?_
                        rintro e w21 ⟨rfl, hB21⟩
                        clear c21
                        replace hB := chain hB hB21
                        replace Rf := Rf.below hB21
                        replace Rg := Rg.below hB21
                        replace Rh := Rh.below hB21
                        replace Rj := Rj.below hB21
                        replace Rm := Rm.below hB21
                        clear hB21
                        go_wp2
                        go_ret
                        exact ⟨rfl, hB⟩
                      · have N4 : Hid (entA n M = (kg, 0)) := N3.out
                        have hkk : (kg != kg) = false := by simp
                        have c21 := Entails_any n M _ _ w20 Rh Rm (by omega) (by omega)
                        rw [N4.out] at c21
                        try dsimp only at c21
                        go_wp2_with fail
                        refine c21.mono ?_
                        rintro e w21 ⟨rfl, hB21⟩
                        clear c21
                        replace hB := chain hB hB21
                        replace Rf := Rf.below hB21
                        replace Rg := Rg.below hB21
                        replace Rh := Rh.below hB21
                        replace Rj := Rj.below hB21
                        replace Rm := Rm.below hB21
                        clear hB21
                        go_wp2
                        go_ret
                        exact ⟨rfl, hB⟩
                    · have h1 : (er == 0) = false := by simpa using h0
                      clear HM HM2
                      have c18 := cM
                      go_wp2_with fail
                      refine c18.mono ?_
                      rintro e w18 ⟨v18, rfl, hO18, hB18⟩
                      clear c18
                      replace hB := chain hB hB18
                      replace Rf := Rf.below hB18
                      replace Rg := Rg.below hB18
                      replace Rh := Rh.below hB18
                      replace Rj := Rj.below hB18
                      clear hB18
                      have Rm := OwnsC.frow hO18
                      obtain ⟨p18, q18, rfl⟩ := OwnsC.len hO18
                      clear hO18
                      go_wp2
                      go_ret
                      exact ⟨rfl, hB⟩
                  · have h1 : (er == 0) = false := by simpa using h0
                    clear HJ HJ2
                    have c14 := cJ
                    go_wp2_with fail
                    refine c14.mono ?_
                    rintro e w14 ⟨v14, rfl, hO14, hB14⟩
                    clear c14
                    replace hB := chain hB hB14
                    replace Rf := Rf.below hB14
                    replace Rg := Rg.below hB14
                    replace Rh := Rh.below hB14
                    clear hB14
                    have Rj := OwnsC.frow hO14
                    obtain ⟨p14, q14, rfl⟩ := OwnsC.len hO14
                    clear hO14
                    obtain ⟨M, mr⟩ : ∃ M : List C × Int, M = mtA l m := ⟨_, rfl⟩
                    have cM := AMeet_any l m _ _ w14 Rf Rg (by omega) (by omega)
                    rw [← mr] at cM
                    have HM2 : Hid (M = mtA l m) := mr
                    clear mr
                    obtain ⟨M, er⟩ := M
                    dsimp only at cM
                    by_cases h0 : er = 0
                    · subst h0
                      obtain ⟨lM, M1, M2, M3⟩ := HM.out M HM2.out.symm
                      have N1 : Hid (entA M l = (true, 0)) := M1
                      have N2 : Hid (entA M m = (true, 0)) := M2
                      have N3 : Hid (entA n M = (kf && kg, 0)) := M3
                      clear M1 M2 M3 HM HM2
                      have c15 := cM
                      go_wp2_with fail
                      refine c15.mono ?_
                      rintro e w15 ⟨v15, rfl, hO15, hB15⟩
                      clear c15
                      replace hB := chain hB hB15
                      replace Rf := Rf.below hB15
                      replace Rg := Rg.below hB15
                      replace Rh := Rh.below hB15
                      replace Rj := Rj.below hB15
                      clear hB15
                      have Rm := OwnsC.frow hO15
                      obtain ⟨p15, q15, rfl⟩ := OwnsC.len hO15
                      clear hO15
                      clear cM
                      have c16 := Entails_any M l _ _ w15 Rm Rf (by omega) (by omega)
                      rw [N1.out] at c16
                      try dsimp only at c16
                      go_wp2_with fail
                      refine c16.mono ?_
                      rintro e w16 ⟨rfl, hB16⟩
                      clear c16
                      replace hB := chain hB hB16
                      replace Rf := Rf.below hB16
                      replace Rg := Rg.below hB16
                      replace Rh := Rh.below hB16
                      replace Rj := Rj.below hB16
                      replace Rm := Rm.below hB16
                      clear hB16
                      have c17 := Entails_any M m _ _ w16 Rm Rg (by omega) (by omega)
                      rw [N2.out] at c17
                      try dsimp only at c17
                      go_wp2_with fail
                      refine c17.mono ?_
                      rintro e w17 ⟨rfl, hB17⟩
                      clear c17
                      replace hB := chain hB hB17
                      replace Rf := Rf.below hB17
                      replace Rg := Rg.below hB17
                      replace Rh := Rh.below hB17
                      replace Rj := Rj.below hB17
                      replace Rm := Rm.below hB17
                      clear hB17
                      cases kf
                      · have N4 : Hid (entA n M = (false, 0)) := N3.out
                        have c18 := Entails_any n M _ _ w17 Rh Rm (by omega) (by omega)
                        rw [N4.out] at c18
                        try dsimp only at c18
                        go_wp2_with fail
                        refine c18.mono ?_
                        rintro e w18 ⟨rfl, hB18⟩
                        clear c18
                        replace hB := chain hB hB18
                        replace Rf := Rf.below hB18
                        replace Rg := Rg.below hB18
                        replace Rh := Rh.below hB18
                        replace Rj := Rj.below hB18
                        replace Rm := Rm.below hB18
                        clear hB18
                        go_wp2
                        go_ret
                        exact ⟨rfl, hB⟩
                      · have N4 : Hid (entA n M = (kg, 0)) := N3.out
                        have hkk : (kg != kg) = false := by simp
                        have c18 := Entails_any n M _ _ w17 Rh Rm (by omega) (by omega)
                        rw [N4.out] at c18
                        try dsimp only at c18
                        go_wp2_with fail
                        refine c18.mono ?_
                        rintro e w18 ⟨rfl, hB18⟩
                        clear c18
                        replace hB := chain hB hB18
                        replace Rf := Rf.below hB18
                        replace Rg := Rg.below hB18
                        replace Rh := Rh.below hB18
                        replace Rj := Rj.below hB18
                        replace Rm := Rm.below hB18
                        clear hB18
                        go_wp2
                        go_ret
                        exact ⟨rfl, hB⟩
                    · have h1 : (er == 0) = false := by simpa using h0
                      clear HM HM2
                      have c15 := cM
                      go_wp2_with fail
                      refine c15.mono ?_
                      rintro e w15 ⟨v15, rfl, hO15, hB15⟩
                      clear c15
                      replace hB := chain hB hB15
                      replace Rf := Rf.below hB15
                      replace Rg := Rg.below hB15
                      replace Rh := Rh.below hB15
                      replace Rj := Rj.below hB15
                      clear hB15
                      have Rm := OwnsC.frow hO15
                      obtain ⟨p15, q15, rfl⟩ := OwnsC.len hO15
                      clear hO15
                      go_wp2
                      go_ret
                      exact ⟨rfl, hB⟩
                · obtain ⟨J, jr⟩ : ∃ J : List C × Int, J = jnA l m := ⟨_, rfl⟩
                  have cJ := AJoin_any l m _ _ w13 Rf Rg (by omega) (by omega)
                  rw [← jr] at cJ
                  have HJ2 : Hid (J = jnA l m) := jr
                  clear jr
                  obtain ⟨J, er⟩ := J
                  dsimp only at cJ
                  by_cases h0 : er = 0
                  · subst h0
                    obtain ⟨lJ, J1, J2, J3⟩ := HJ.out J HJ2.out.symm
                    have N1 : Hid (entA l J = (true, 0)) := J1
                    have N2 : Hid (entA m J = (true, 0)) := J2
                    have N3 : Hid (entA J n = (false, 0)) := J3
                    clear J1 J2 J3 HJ HJ2
                    have c14 := cJ
                    go_wp2_with fail
                    refine c14.mono ?_
                    rintro e w14 ⟨v14, rfl, hO14, hB14⟩
                    clear c14
                    replace hB := chain hB hB14
                    replace Rf := Rf.below hB14
                    replace Rg := Rg.below hB14
                    replace Rh := Rh.below hB14
                    clear hB14
                    have Rj := OwnsC.frow hO14
                    obtain ⟨p14, q14, rfl⟩ := OwnsC.len hO14
                    clear hO14
                    clear cJ
                    have c15 := Entails_any l J _ _ w14 Rf Rj (by omega) (by omega)
                    rw [N1.out] at c15
                    try dsimp only at c15
                    go_wp2_with fail
                    refine c15.mono ?_
                    rintro e w15 ⟨rfl, hB15⟩
                    clear c15
                    replace hB := chain hB hB15
                    replace Rf := Rf.below hB15
                    replace Rg := Rg.below hB15
                    replace Rh := Rh.below hB15
                    replace Rj := Rj.below hB15
                    clear hB15
                    have c16 := Entails_any m J _ _ w15 Rg Rj (by omega) (by omega)
                    rw [N2.out] at c16
                    try dsimp only at c16
                    go_wp2_with fail
                    refine c16.mono ?_
                    rintro e w16 ⟨rfl, hB16⟩
                    clear c16
                    replace hB := chain hB hB16
                    replace Rf := Rf.below hB16
                    replace Rg := Rg.below hB16
                    replace Rh := Rh.below hB16
                    replace Rj := Rj.below hB16
                    clear hB16
                    have c17 := Entails_any J n _ _ w16 Rj Rh (by omega) (by omega)
                    rw [N3.out] at c17
                    try dsimp only at c17
                    go_wp2_with fail
                    refine c17.mono ?_
                    rintro e w17 ⟨rfl, hB17⟩
                    clear c17
                    replace hB := chain hB hB17
                    replace Rf := Rf.below hB17
                    replace Rg := Rg.below hB17
                    replace Rh := Rh.below hB17
                    replace Rj := Rj.below hB17
                    clear hB17
                    obtain ⟨M, mr⟩ : ∃ M : List C × Int, M = mtA l m := ⟨_, rfl⟩
                    have cM := AMeet_any l m _ _ w17 Rf Rg (by omega) (by omega)
                    rw [← mr] at cM
                    have HM2 : Hid (M = mtA l m) := mr
                    clear mr
                    obtain ⟨M, er⟩ := M
                    dsimp only at cM
                    by_cases h0 : er = 0
                    · subst h0
                      obtain ⟨lM, M1, M2, M3⟩ := HM.out M HM2.out.symm
                      have N1 : Hid (entA M l = (true, 0)) := M1
                      have N2 : Hid (entA M m = (true, 0)) := M2
                      have N3 : Hid (entA n M = (kf && kg, 0)) := M3
                      clear M1 M2 M3 HM HM2
                      have c18 := cM
                      go_wp2_with fail
                      refine c18.mono ?_
                      rintro e w18 ⟨v18, rfl, hO18, hB18⟩
                      clear c18
                      replace hB := chain hB hB18
                      replace Rf := Rf.below hB18
                      replace Rg := Rg.below hB18
                      replace Rh := Rh.below hB18
                      replace Rj := Rj.below hB18
                      clear hB18
                      have Rm := OwnsC.frow hO18
                      obtain ⟨p18, q18, rfl⟩ := OwnsC.len hO18
                      clear hO18
                      clear cM
                      have c19 := Entails_any M l _ _ w18 Rm Rf (by omega) (by omega)
                      rw [N1.out] at c19
                      try dsimp only at c19
                      go_wp2_with fail
                      refine c19.mono ?_
                      rintro e w19 ⟨rfl, hB19⟩
                      clear c19
                      replace hB := chain hB hB19
                      replace Rf := Rf.below hB19
                      replace Rg := Rg.below hB19
                      replace Rh := Rh.below hB19
                      replace Rj := Rj.below hB19
                      replace Rm := Rm.below hB19
                      clear hB19
                      have c20 := Entails_any M m _ _ w19 Rm Rg (by omega) (by omega)
                      rw [N2.out] at c20
                      try dsimp only at c20
                      go_wp2_with fail
                      refine c20.mono ?_
                      rintro e w20 ⟨rfl, hB20⟩
                      clear c20
                      replace hB := chain hB hB20
                      replace Rf := Rf.below hB20
                      replace Rg := Rg.below hB20
                      replace Rh := Rh.below hB20
                      replace Rj := Rj.below hB20
                      replace Rm := Rm.below hB20
                      clear hB20
                      cases kf
                      · have N4 : Hid (entA n M = (false, 0)) := N3.out
                        have c21 := Entails_any n M _ _ w20 Rh Rm (by omega) (by omega)
                        rw [N4.out] at c21
                        try dsimp only at c21
                        go_wp2_with fail
                        refine c21.mono ?_
                        rintro e w21 ⟨rfl, hB21⟩
                        clear c21
                        replace hB := chain hB hB21
                        replace Rf := Rf.below hB21
                        replace Rg := Rg.below hB21
                        replace Rh := Rh.below hB21
                        replace Rj := Rj.below hB21
                        replace Rm := Rm.below hB21
                        clear hB21
                        go_wp2
                        go_ret
                        exact ⟨rfl, hB⟩
                      · have N4 : Hid (entA n M = (kg, 0)) := N3.out
                        have hkk : (kg != kg) = false := by simp
                        have c21 := Entails_any n M _ _ w20 Rh Rm (by omega) (by omega)
                        rw [N4.out] at c21
                        try dsimp only at c21
                        go_wp2_with fail
                        refine c21.mono ?_
                        rintro e w21 ⟨rfl, hB21⟩
                        clear c21
                        replace hB := chain hB hB21
                        replace Rf := Rf.below hB21
                        replace Rg := Rg.below hB21
                        replace Rh := Rh.below hB21
                        replace Rj := Rj.below hB21
                        replace Rm := Rm.below hB21
                        clear hB21
                        go_wp2
                        go_ret
                        exact ⟨rfl, hB⟩
                    · have h1 : (er == 0) = false := by simpa using h0
                      clear HM HM2
                      have c18 := cM
                      go_wp2_with fail
                      refine c18.mono ?_
                      rintro e w18 ⟨v18, rfl, hO18, hB18⟩
                      clear c18
                      replace hB := chain hB hB18
                      replace Rf := Rf.below hB18
                      replace Rg := Rg.below hB18
                      replace Rh := Rh.below hB18
                      replace Rj := Rj.below hB18
                      clear hB18
                      have Rm := OwnsC.frow hO18
                      obtain ⟨p18, q18, rfl⟩ := OwnsC.len hO18
                      clear hO18
                      go_wp2
                      go_ret
                      exact ⟨rfl, hB⟩
                  · have h1 : (er == 0) = false := by simpa using h0
                    clear HJ HJ2
                    have c14 := cJ
                    go_wp2_with fail
                    refine c14.mono ?_
                    rintro e w14 ⟨v14, rfl, hO14, hB14⟩
                    clear c14
                    replace hB := chain hB hB14
                    replace Rf := Rf.below hB14
                    replace Rg := Rg.below hB14
                    replace Rh := Rh.below hB14
                    clear hB14
                    have Rj := OwnsC.frow hO14
                    obtain ⟨p14, q14, rfl⟩ := OwnsC.len hO14
                    clear hO14
                    obtain ⟨M, mr⟩ : ∃ M : List C × Int, M = mtA l m := ⟨_, rfl⟩
                    have cM := AMeet_any l m _ _ w14 Rf Rg (by omega) (by omega)
                    rw [← mr] at cM
                    have HM2 : Hid (M = mtA l m) := mr
                    clear mr
                    obtain ⟨M, er⟩ := M
                    dsimp only at cM
                    by_cases h0 : er = 0
                    · subst h0
                      obtain ⟨lM, M1, M2, M3⟩ := HM.out M HM2.out.symm
                      have N1 : Hid (entA M l = (true, 0)) := M1
                      have N2 : Hid (entA M m = (true, 0)) := M2
                      have N3 : Hid (entA n M = (kf && kg, 0)) := M3
                      clear M1 M2 M3 HM HM2
                      have c15 := cM
                      go_wp2_with fail
                      refine c15.mono ?_
                      rintro e w15 ⟨v15, rfl, hO15, hB15⟩
                      clear c15
                      replace hB := chain hB hB15
                      replace Rf := Rf.below hB15
                      replace Rg := Rg.below hB15
                      replace Rh := Rh.below hB15
                      replace Rj := Rj.below hB15
                      clear hB15
                      have Rm := OwnsC.frow hO15
                      obtain ⟨p15, q15, rfl⟩ := OwnsC.len hO15
                      clear hO15
                      clear cM
                      have c16 := Entails_any M l _ _ w15 Rm Rf (by omega) (by omega)
                      rw [N1.out] at c16
                      try dsimp only at c16
                      go_wp2_with fail
                      refine c16.mono ?_
                      rintro e w16 ⟨rfl, hB16⟩
                      clear c16
                      replace hB := chain hB hB16
                      replace Rf := Rf.below hB16
                      replace Rg := Rg.below hB16
                      replace Rh := Rh.below hB16
                      replace Rj := Rj.below hB16
                      replace Rm := Rm.below hB16
                      clear hB16
                      have c17 := Entails_any M m _ _ w16 Rm Rg (by omega) (by omega)
                      rw [N2.out] at c17
                      try dsimp only at c17
                      go_wp2_with fail
                      refine c17.mono ?_
                      rintro e w17 ⟨rfl, hB17⟩
                      clear c17
                      replace hB := chain hB hB17
                      replace Rf := Rf.below hB17
                      replace Rg := Rg.below hB17
                      replace Rh := Rh.below hB17
                      replace Rj := Rj.below hB17
                      replace Rm := Rm.below hB17
                      clear hB17
                      cases kf
                      · have N4 : Hid (entA n M = (false, 0)) := N3.out
                        have c18 := Entails_any n M _ _ w17 Rh Rm (by omega) (by omega)
                        rw [N4.out] at c18
                        try dsimp only at c18
                        go_wp2_with fail
                        refine c18.mono ?_
                        rintro e w18 ⟨rfl, hB18⟩
                        clear c18
                        replace hB := chain hB hB18
                        replace Rf := Rf.below hB18
                        replace Rg := Rg.below hB18
                        replace Rh := Rh.below hB18
                        replace Rj := Rj.below hB18
                        replace Rm := Rm.below hB18
                        clear hB18
                        go_wp2
                        go_ret
                        exact ⟨rfl, hB⟩
                      · have N4 : Hid (entA n M = (kg, 0)) := N3.out
                        have hkk : (kg != kg) = false := by simp
                        have c18 := Entails_any n M _ _ w17 Rh Rm (by omega) (by omega)
                        rw [N4.out] at c18
                        try dsimp only at c18
                        go_wp2_with fail
                        refine c18.mono ?_
                        rintro e w18 ⟨rfl, hB18⟩
                        clear c18
                        replace hB := chain hB hB18
                        replace Rf := Rf.below hB18
                        replace Rg := Rg.below hB18
                        replace Rh := Rh.below hB18
                        replace Rj := Rj.below hB18
                        replace Rm := Rm.below hB18
                        clear hB18
                        go_wp2
                        go_ret
                        exact ⟨rfl, hB⟩
                    · have h1 : (er == 0) = false := by simpa using h0
                      clear HM HM2
                      have c15 := cM
                      go_wp2_with fail
                      refine c15.mono ?_
                      rintro e w15 ⟨v15, rfl, hO15, hB15⟩
                      clear c15
                      replace hB := chain hB hB15
                      replace Rf := Rf.below hB15
                      replace Rg := Rg.below hB15
                      replace Rh := Rh.below hB15
                      replace Rj := Rj.below hB15
                      clear hB15
                      have Rm := OwnsC.frow hO15
                      obtain ⟨p15, q15, rfl⟩ := OwnsC.len hO15
                      clear hO15
                      go_wp2
                      go_ret
                      exact ⟨rfl, hB⟩
              · have hft : fh = true := by have h := HT.out; simpa using h
                subst hft
                clear HT hhh
                obtain ⟨J, jr⟩ : ∃ J : List C × Int, J = jnA l m := ⟨_, rfl⟩
                have cJ := AJoin_any l m _ _ w13 Rf Rg (by omega) (by omega)
                rw [← jr] at cJ
                have HJ2 : Hid (J = jnA l m) := jr
                clear jr
                obtain ⟨J, er⟩ := J
                dsimp only at cJ
                by_cases h0 : er = 0
                · subst h0
                  obtain ⟨lJ, J1, J2, J3⟩ := HJ.out J HJ2.out.symm
                  have N1 : Hid (entA l J = (true, 0)) := J1
                  have N2 : Hid (entA m J = (true, 0)) := J2
                  have N3 : Hid (entA J n = (true, 0)) := J3
                  clear J1 J2 J3 HJ HJ2
                  have c14 := cJ
                  go_wp2_with fail
                  refine c14.mono ?_
                  rintro e w14 ⟨v14, rfl, hO14, hB14⟩
                  clear c14
                  replace hB := chain hB hB14
                  replace Rf := Rf.below hB14
                  replace Rg := Rg.below hB14
                  replace Rh := Rh.below hB14
                  clear hB14
                  have Rj := OwnsC.frow hO14
                  obtain ⟨p14, q14, rfl⟩ := OwnsC.len hO14
                  clear hO14
                  clear cJ
                  have c15 := Entails_any l J _ _ w14 Rf Rj (by omega) (by omega)
                  rw [N1.out] at c15
                  try dsimp only at c15
                  go_wp2_with fail
                  refine c15.mono ?_
                  rintro e w15 ⟨rfl, hB15⟩
                  clear c15
                  replace hB := chain hB hB15
                  replace Rf := Rf.below hB15
                  replace Rg := Rg.below hB15
                  replace Rh := Rh.below hB15
                  replace Rj := Rj.below hB15
                  clear hB15
                  have c16 := Entails_any m J _ _ w15 Rg Rj (by omega) (by omega)
                  rw [N2.out] at c16
                  try dsimp only at c16
                  go_wp2_with fail
                  refine c16.mono ?_
                  rintro e w16 ⟨rfl, hB16⟩
                  clear c16
                  replace hB := chain hB hB16
                  replace Rf := Rf.below hB16
                  replace Rg := Rg.below hB16
                  replace Rh := Rh.below hB16
                  replace Rj := Rj.below hB16
                  clear hB16
                  have c17 := Entails_any J n _ _ w16 Rj Rh (by omega) (by omega)
                  rw [N3.out] at c17
                  try dsimp only at c17
                  go_wp2_with fail
                  refine c17.mono ?_
                  rintro e w17 ⟨rfl, hB17⟩
                  clear c17
                  replace hB := chain hB hB17
                  replace Rf := Rf.below hB17
                  replace Rg := Rg.below hB17
                  replace Rh := Rh.below hB17
                  replace Rj := Rj.below hB17
                  clear hB17
                  obtain ⟨M, mr⟩ : ∃ M : List C × Int, M = mtA l m := ⟨_, rfl⟩
                  have cM := AMeet_any l m _ _ w17 Rf Rg (by omega) (by omega)
                  rw [← mr] at cM
                  have HM2 : Hid (M = mtA l m) := mr
                  clear mr
                  obtain ⟨M, er⟩ := M
                  dsimp only at cM
                  by_cases h0 : er = 0
                  · subst h0
                    obtain ⟨lM, M1, M2, M3⟩ := HM.out M HM2.out.symm
                    have N1 : Hid (entA M l = (true, 0)) := M1
                    have N2 : Hid (entA M m = (true, 0)) := M2
                    have N3 : Hid (entA n M = (kf && kg, 0)) := M3
                    clear M1 M2 M3 HM HM2
                    have c18 := cM
                    go_wp2_with fail
                    refine c18.mono ?_
                    rintro e w18 ⟨v18, rfl, hO18, hB18⟩
                    clear c18
                    replace hB := chain hB hB18
                    replace Rf := Rf.below hB18
                    replace Rg := Rg.below hB18
                    replace Rh := Rh.below hB18
                    replace Rj := Rj.below hB18
                    clear hB18
                    have Rm := OwnsC.frow hO18
                    obtain ⟨p18, q18, rfl⟩ := OwnsC.len hO18
                    clear hO18
                    clear cM
                    have c19 := Entails_any M l _ _ w18 Rm Rf (by omega) (by omega)
                    rw [N1.out] at c19
                    try dsimp only at c19
                    go_wp2_with fail
                    refine c19.mono ?_
                    rintro e w19 ⟨rfl, hB19⟩
                    clear c19
                    replace hB := chain hB hB19
                    replace Rf := Rf.below hB19
                    replace Rg := Rg.below hB19
                    replace Rh := Rh.below hB19
                    replace Rj := Rj.below hB19
                    replace Rm := Rm.below hB19
                    clear hB19
                    have c20 := Entails_any M m _ _ w19 Rm Rg (by omega) (by omega)
                    rw [N2.out] at c20
                    try dsimp only at c20
                    go_wp2_with fail
                    refine c20.mono ?_
                    rintro e w20 ⟨rfl, hB20⟩
                    clear c20
                    replace hB := chain hB hB20
                    replace Rf := Rf.below hB20
                    replace Rg := Rg.below hB20
                    replace Rh := Rh.below hB20
                    replace Rj := Rj.below hB20
                    replace Rm := Rm.below hB20
                    clear hB20
                    cases kf
                    · have N4 : Hid (entA n M = (false, 0)) := N3.out
                      have c21 := Entails_any n M _ _ w20 Rh Rm (by omega) (by omega)
                      rw [N4.out] at c21
                      try dsimp only at c21
                      go_wp2_with fail
                      refine c21.mono ?_
                      rintro e w21 ⟨rfl, hB21⟩
                      clear c21
                      replace hB := chain hB hB21
                      replace Rf := Rf.below hB21
                      replace Rg := Rg.below hB21
                      replace Rh := Rh.below hB21
                      replace Rj := Rj.below hB21
                      replace Rm := Rm.below hB21
                      clear hB21
                      go_wp2
                      go_ret
                      exact ⟨rfl, hB⟩
                    · have N4 : Hid (entA n M = (kg, 0)) := N3.out
                      have hkk : (kg != kg) = false := by simp
                      have c21 := Entails_any n M _ _ w20 Rh Rm (by omega) (by omega)
                      rw [N4.out] at c21
                      try dsimp only at c21
                      go_wp2_with fail
                      refine c21.mono ?_
                      rintro e w21 ⟨rfl, hB21⟩
                      clear c21
                      replace hB := chain hB hB21
                      replace Rf := Rf.below hB21
                      replace Rg := Rg.below hB21
                      replace Rh := Rh.below hB21
                      replace Rj := Rj.below hB21
                      replace Rm := Rm.below hB21
                      clear hB21
                      go_wp2
                      go_ret
                      exact ⟨rfl, hB⟩
                  · have h1 : (er == 0) = false := by simpa using h0
                    clear HM HM2
                    have c18 := cM
                    go_wp2_with fail
                    refine c18.mono ?_
                    rintro e w18 ⟨v18, rfl, hO18, hB18⟩
                    clear c18
                    replace hB := chain hB hB18
                    replace Rf := Rf.below hB18
                    replace Rg := Rg.below hB18
                    replace Rh := Rh.below hB18
                    replace Rj := Rj.below hB18
                    clear hB18
                    have Rm := OwnsC.frow hO18
                    obtain ⟨p18, q18, rfl⟩ := OwnsC.len hO18
                    clear hO18
                    go_wp2
                    go_ret
                    exact ⟨rfl, hB⟩
                · have h1 : (er == 0) = false := by simpa using h0
                  clear HJ HJ2
                  have c14 := cJ
                  go_wp2_with fail
                  refine c14.mono ?_
                  rintro e w14 ⟨v14, rfl, hO14, hB14⟩
                  clear c14
                  replace hB := chain hB hB14
                  replace Rf := Rf.below hB14
                  replace Rg := Rg.below hB14
                  replace Rh := Rh.below hB14
                  clear hB14
                  have Rj := OwnsC.frow hO14
                  obtain ⟨p14, q14, rfl⟩ := OwnsC.len hO14
                  clear hO14
                  obtain ⟨M, mr⟩ : ∃ M : List C × Int, M = mtA l m := ⟨_, rfl⟩
                  have cM := AMeet_any l m _ _ w14 Rf Rg (by omega) (by omega)
                  rw [← mr] at cM
                  have HM2 : Hid (M = mtA l m) := mr
                  clear mr
                  obtain ⟨M, er⟩ := M
                  dsimp only at cM
                  by_cases h0 : er = 0
                  · subst h0
                    obtain ⟨lM, M1, M2, M3⟩ := HM.out M HM2.out.symm
                    have N1 : Hid (entA M l = (true, 0)) := M1
                    have N2 : Hid (entA M m = (true, 0)) := M2
                    have N3 : Hid (entA n M = (kf && kg, 0)) := M3
                    clear M1 M2 M3 HM HM2
                    have c15 := cM
                    go_wp2_with fail
                    refine c15.mono ?_
                    rintro e w15 ⟨v15, rfl, hO15, hB15⟩
                    clear c15
                    replace hB := chain hB hB15
                    replace Rf := Rf.below hB15
                    replace Rg := Rg.below hB15
                    replace Rh := Rh.below hB15
                    replace Rj := Rj.below hB15
                    clear hB15
                    have Rm := OwnsC.frow hO15
                    obtain ⟨p15, q15, rfl⟩ := OwnsC.len hO15
                    clear hO15
                    clear cM
                    have c16 := Entails_any M l _ _ w15 Rm Rf (by omega) (by omega)
                    rw [N1.out] at c16
                    try dsimp only at c16
                    go_wp2_with fail
                    refine c16.mono ?_
                    rintro e w16 ⟨rfl, hB16⟩
                    clear c16
                    replace hB := chain hB hB16
                    replace Rf := Rf.below hB16
                    replace Rg := Rg.below hB16
                    replace Rh := Rh.below hB16
                    replace Rj := Rj.below hB16
                    replace Rm := Rm.below hB16
                    clear hB16
                    have c17 := Entails_any M m _ _ w16 Rm Rg (by omega) (by omega)
                    rw [N2.out] at c17
                    try dsimp only at c17
                    go_wp2_with fail
                    refine c17.mono ?_
                    rintro e w17 ⟨rfl, hB17⟩
                    clear c17
                    replace hB := chain hB hB17
                    replace Rf := Rf.below hB17
                    replace Rg := Rg.below hB17
                    replace Rh := Rh.below hB17
                    replace Rj := Rj.below hB17
                    replace Rm := Rm.below hB17
                    clear hB17
                    cases kf
                    · have N4 : Hid (entA n M = (false, 0)) := N3.out
                      have c18 := Entails_any n M _ _ w17 Rh Rm (by omega) (by omega)
                      rw [N4.out] at c18
                      try dsimp only at c18
                      go_wp2_with fail
                      refine c18.mono ?_
                      rintro e w18 ⟨rfl, hB18⟩
                      clear c18
                      replace hB := chain hB hB18
                      replace Rf := Rf.below hB18
                      replace Rg := Rg.below hB18
                      replace Rh := Rh.below hB18
                      replace Rj := Rj.below hB18
                      replace Rm := Rm.below hB18
                      clear hB18
                      go_wp2
                      go_ret
                      exact ⟨rfl, hB⟩
                    · have N4 : Hid (entA n M = (kg, 0)) := N3.out
                      have hkk : (kg != kg) = false := by simp
                      have c18 := Entails_any n M _ _ w17 Rh Rm (by omega) (by omega)
                      rw [N4.out] at c18
                      try dsimp only at c18
                      go_wp2_with fail
                      refine c18.mono ?_
                      rintro e w18 ⟨rfl, hB18⟩
                      clear c18
                      replace hB := chain hB hB18
                      replace Rf := Rf.below hB18
                      replace Rg := Rg.below hB18
                      replace Rh := Rh.below hB18
                      replace Rj := Rj.below hB18
                      replace Rm := Rm.below hB18
                      clear hB18
                      go_wp2
                      go_ret
                      exact ⟨rfl, hB⟩
                  · have h1 : (er == 0) = false := by simpa using h0
                    clear HM HM2
                    have c15 := cM
                    go_wp2_with fail
                    refine c15.mono ?_
                    rintro e w15 ⟨v15, rfl, hO15, hB15⟩
                    clear c15
                    replace hB := chain hB hB15
                    replace Rf := Rf.below hB15
                    replace Rg := Rg.below hB15
                    replace Rh := Rh.below hB15
                    replace Rj := Rj.below hB15
                    clear hB15
                    have Rm := OwnsC.frow hO15
                    obtain ⟨p15, q15, rfl⟩ := OwnsC.len hO15
                    clear hO15
                    go_wp2
                    go_ret
                    exact ⟨rfl, hB⟩
end Go.Proofs.Ytdikaomebbpmhaa
