/- The walk of the law FormulaMorgan: the call returns true; nothing that lay before it turns. -/
import Derived.Test.YtkklmioejgpknaaFWorks
namespace Go.Proofs.Ytkklmioejgpknaa
open Go.RowKit
set_option linter.unusedVariables false
set_option linter.unusedSimpArgs false

theorem told_t (v : Value) (er : Int) (w : World) (hv : ∃ a n c, v = .slice a n c) (h : er = 0) : Calls Try.prog 29 #[v, .int .i64 er] w fun e w' => e = .returned (.tuple #[v, .bool true]) ∧ w' = w := by
  subst h
  exact told_any v 0 w hv
theorem told_f (v : Value) (er : Int) (w : World) (hv : ∃ a n c, v = .slice a n c) (h : er ≠ 0) : Calls Try.prog 29 #[v, .int .i64 er] w fun e w' => e = .returned (.tuple #[v, .bool false]) ∧ w' = w := by
  have e : (er == 0) = false := by simp [h]
  have := told_any v er w hv
  rw [e] at this
  exact this
theorem joinF_small {f g : List C} (hf : rightF f = true) (hg : rightF g = true) (h : f.length + g.length ≤ 64) : joinF f g = (lstN (f ++ g), 0) := by
  rw [joinF_ok hf hg]
  exact leastF_small (append_right hf hg) (by rw [List.length_append]; exact h)
theorem big_ret (w : World) : True := trivial
set_option maxRecDepth 100000 in
set_option maxHeartbeats 4000000 in
theorem morgan_big (l m : List C) (vl vm : Value) (w : World) (hl : FRow w vl l) (hm : FRow w vm m) (h : 16 < l.length ∨ 16 < m.length) :
    Calls Try.prog 7 #[vl, vm] w fun e w' => e = .returned (.bool true) ∧ Below w.heap.size w w' := by
  obtain ⟨pl, cl, rfl⟩ := hl.len
  obtain ⟨pm, cm, rfl⟩ := hm.len
  clear hl hm
  generalize l.length = n1 at *
  generalize m.length = n2 at *
  by_cases h1 : 16 < n1
  · go_enter Try.func7, Try.ntmps7
    go_wp2_with (go_at_call 10; refine (fworks_any _).mono ?_; rintro e w1 ⟨rfl, hB1⟩)
    go_ret
    exact ⟨rfl, hB1⟩
  · have h2 : 16 < n2 := h.resolve_left h1
    go_enter Try.func7, Try.ntmps7
    go_wp2_with (go_at_call 10; refine (fworks_any _).mono ?_; rintro e w1 ⟨rfl, hB1⟩)
    go_ret
    exact ⟨rfl, hB1⟩
set_option maxRecDepth 100000 in
set_option maxHeartbeats 8000000 in
theorem walk_FormulaMorgan (l : List C) (vl : Value) (m : List C) (vm : Value) (w : World) (Rf : FRow w vl l) (Rg : FRow w vm m) :
    Calls Try.prog 7 #[vl, vm] w fun e w' => e = .returned (.bool true) ∧ Below w.heap.size w w' := by
  by_cases hbig : 16 < l.length ∨ 16 < m.length
  · exact morgan_big l m vl vm w Rf Rg hbig
  have hl : l.length ≤ 16 := by omega
  have hm : m.length ≤ 16 := by omega
  have hl2 : ¬ (16 < (l.length : Int)) := by omega
  have hm2 : ¬ (16 < (m.length : Int)) := by omega
  clear hbig
  have hB : Below w.heap.size w w := Below.refl _ _
  obtain ⟨pl, cl, rfl⟩ := Rf.len
  obtain ⟨pm, cm, rfl⟩ := Rg.len
  go_enter Try.func7, Try.ntmps7
  go_wp2_with fail
  refine (fworks_any w).mono ?_
  rintro e w1 ⟨rfl, hB1⟩
  replace hB := chain hB hB1
  replace Rf := Rf.below hB1
  replace Rg := Rg.below hB1
  have c2 := Not_any l _ w1 Rf (by omega)
  generalize hNF : notF l = NF at c2
  have HNF : Hid (notF l = NF) := hNF
  clear hNF
  obtain ⟨NF1, NF2⟩ := NF
  dsimp only at c2
  have LNF : NF1.length ≤ 64 := by have := notF_len l; rw [HNF.out] at this; exact this
  by_cases a : NF2 = 0
  · obtain rfl : NF2 = 0 := a
    go_wp2_with fail
    refine c2.mono ?_
    rintro e w2 ⟨v2, rfl, hO2, hB2⟩
    clear c2
    replace hB := chain hB hB2
    replace Rf := Rf.below hB2
    replace Rg := Rg.below hB2
    have R1 := OwnsC.frow hO2
    obtain ⟨p2, q2, rfl⟩ := OwnsC.len hO2
    go_wp2_with fail
    refine (told_t _ _ w2 ⟨_, _, _, rfl⟩ rfl).mono ?_
    rintro e wt ⟨rfl, hwt⟩
    replace hwt := hwt.symm
    subst hwt
    have c3 := Not_any m _ w2 Rg (by omega)
    generalize hNG : notF m = NG at c3
    have HNG : Hid (notF m = NG) := hNG
    clear hNG
    obtain ⟨NG1, NG2⟩ := NG
    dsimp only at c3
    have LNG : NG1.length ≤ 64 := by have := notF_len m; rw [HNG.out] at this; exact this
    by_cases b : NG2 = 0
    · obtain rfl : NG2 = 0 := b
      go_wp2_with fail
      refine c3.mono ?_
      rintro e w3 ⟨v3, rfl, hO3, hB3⟩
      clear c3
      replace hB := chain hB hB3
      replace Rf := Rf.below hB3
      replace Rg := Rg.below hB3
      replace R1 := R1.below hB3
      have R2 := OwnsC.frow hO3
      obtain ⟨p3, q3, rfl⟩ := OwnsC.len hO3
      go_wp2_with fail
      refine (told_t _ _ w3 ⟨_, _, _, rfl⟩ rfl).mono ?_
      rintro e wt ⟨rfl, hwt⟩
      replace hwt := hwt.symm
      subst hwt
      have hf : rightF l = true := (notF_told (by rw [HNF.out])).1
      have hg : rightF m = true := (notF_told (by rw [HNG.out])).1
      obtain ⟨J, hJ⟩ : ∃ J, joinF l m = (J, 0) := ⟨_, joinF_small hf hg (by omega)⟩
      have HJ : Hid (joinF l m = (J, 0)) := hJ
      have LJ : J.length ≤ 64 := by have := joinF_len l m; rw [hJ] at this; exact this
      have c4 := Not_any NF1 _ w3 R1 (by omega)
      generalize hNN : notF NF1 = NN at c4
      have HNN : Hid (notF NF1 = NN) := hNN
      clear hNN
      obtain ⟨NN1, NN2⟩ := NN
      dsimp only at c4
      by_cases a : NN2 = 0
      · obtain rfl : NN2 = 0 := a
        have HE : Hid (NN1 = l) := by
          have hn := not_not (f := l) (by rw [HNF.out]) (by rw [HNF.out, HNN.out])
          rw [HNF.out, HNN.out] at hn
          exact hn
        have LNN : NN1.length ≤ 64 := by have := notF_len NF1; rw [HNN.out] at this; exact this
        go_wp2_with fail
        refine c4.mono ?_
        rintro e w4 ⟨v4, rfl, hO4, hB4⟩
        clear c4
        replace hB := chain hB hB4
        replace Rf := Rf.below hB4
        replace Rg := Rg.below hB4
        replace R1 := R1.below hB4
        replace R2 := R2.below hB4
        have R3 := OwnsC.frow hO4
        obtain ⟨p4, q4, rfl⟩ := OwnsC.len hO4
        go_wp2_with fail
        refine (told_t _ _ w4 ⟨_, _, _, rfl⟩ rfl).mono ?_
        rintro e wt ⟨rfl, hwt⟩
        replace hwt := hwt.symm
        subst hwt
        have c5 := same_any _ _ _ _ w4 R3.row Rf.row (by omega)
        rw [decide_eq_true HE.out] at c5
        go_wp2_with fail
        refine c5.mono ?_
        rintro e w5 ⟨rfl, hB5⟩
        clear c5
        replace hB := chain hB hB5
        replace Rf := Rf.below hB5
        replace Rg := Rg.below hB5
        replace R1 := R1.below hB5
        replace R2 := R2.below hB5
        replace R3 := R3.below hB5
        clear HE
        have c6 := Join_any l m _ _ w5 Rf Rg (by omega) (by omega)
        rw [HJ.out] at c6
        dsimp only at c6
        go_wp2_with fail
        refine c6.mono ?_
        rintro e w6 ⟨v6, rfl, hO6, hB6⟩
        clear c6
        replace hB := chain hB hB6
        replace Rf := Rf.below hB6
        replace Rg := Rg.below hB6
        replace R1 := R1.below hB6
        replace R2 := R2.below hB6
        replace R3 := R3.below hB6
        have R4 := OwnsC.frow hO6
        obtain ⟨p6, q6, rfl⟩ := OwnsC.len hO6
        go_wp2_with fail
        refine (told_t _ _ w6 ⟨_, _, _, rfl⟩ rfl).mono ?_
        rintro e wt ⟨rfl, hwt⟩
        replace hwt := hwt.symm
        subst hwt
        have c7 := Not_any J _ w6 R4 (by omega)
        generalize hNJ : notF J = NJ at c7
        have HNJ : Hid (notF J = NJ) := hNJ
        clear hNJ
        obtain ⟨NJ1, NJ2⟩ := NJ
        dsimp only at c7
        have LNJ : NJ1.length ≤ 64 := by have := notF_len J; rw [HNJ.out] at this; exact this
        by_cases d : NJ2 = 0
        · obtain rfl : NJ2 = 0 := d
          go_wp2_with fail
          refine c7.mono ?_
          rintro e w7 ⟨v7, rfl, hO7, hB7⟩
          clear c7
          replace hB := chain hB hB7
          replace Rf := Rf.below hB7
          replace Rg := Rg.below hB7
          replace R1 := R1.below hB7
          replace R2 := R2.below hB7
          replace R3 := R3.below hB7
          replace R4 := R4.below hB7
          have R5 := OwnsC.frow hO7
          obtain ⟨p7, q7, rfl⟩ := OwnsC.len hO7
          go_wp2_with fail
          refine (told_t _ _ w7 ⟨_, _, _, rfl⟩ rfl).mono ?_
          rintro e wt ⟨rfl, hwt⟩
          replace hwt := hwt.symm
          subst hwt
          have c8 := Meet_any NF1 NG1 _ _ w7 R1 R2 (by omega) (by omega)
          generalize hMM : meetF NF1 NG1 = MM at c8
          have HMM : Hid (meetF NF1 NG1 = MM) := hMM
          clear hMM
          obtain ⟨MM1, MM2⟩ := MM
          dsimp only at c8
          by_cases f : MM2 = 0
          · obtain rfl : MM2 = 0 := f
            have HE : Hid (NJ1 = MM1) := by
              have h1 : (joinF l m).1 = J := by rw [HJ.out]
              have h0 : (joinF l m).2 = 0 := by rw [HJ.out]
              have hm := morgan (f := l) (g := m) (by rw [HNF.out]) (by rw [HNG.out]) h0 (by rw [h1, HNJ.out]) (by rw [HNF.out, HNG.out, HMM.out])
              rw [h1, HNJ.out, HNF.out, HNG.out, HMM.out] at hm
              exact hm
            go_wp2_with fail
            refine c8.mono ?_
            rintro e w8 ⟨v8, rfl, hO8, hB8⟩
            clear c8
            replace hB := chain hB hB8
            replace Rf := Rf.below hB8
            replace Rg := Rg.below hB8
            replace R1 := R1.below hB8
            replace R2 := R2.below hB8
            replace R3 := R3.below hB8
            replace R4 := R4.below hB8
            replace R5 := R5.below hB8
            have R6 := OwnsC.frow hO8
            obtain ⟨p8, q8, rfl⟩ := OwnsC.len hO8
            go_wp2_with fail
            refine (told_t _ _ w8 ⟨_, _, _, rfl⟩ rfl).mono ?_
            rintro e wt ⟨rfl, hwt⟩
            replace hwt := hwt.symm
            subst hwt
            have c9 := same_any _ _ _ _ w8 R5.row R6.row (by omega)
            rw [decide_eq_true HE.out] at c9
            go_wp2_with fail
            refine c9.mono ?_
            rintro e w9 ⟨rfl, hB9⟩
            clear c9
            replace hB := chain hB hB9
            replace Rf := Rf.below hB9
            replace Rg := Rg.below hB9
            replace R1 := R1.below hB9
            replace R2 := R2.below hB9
            replace R3 := R3.below hB9
            replace R4 := R4.below hB9
            replace R5 := R5.below hB9
            replace R6 := R6.below hB9
            go_wp2
            go_ret
            exact ⟨rfl, hB⟩
          · go_wp2_with fail
            refine c8.mono ?_
            rintro e w8 ⟨v8, rfl, hO8, hB8⟩
            clear c8
            replace hB := chain hB hB8
            replace Rf := Rf.below hB8
            replace Rg := Rg.below hB8
            replace R1 := R1.below hB8
            replace R2 := R2.below hB8
            replace R3 := R3.below hB8
            replace R4 := R4.below hB8
            replace R5 := R5.below hB8
            have R6 := OwnsC.frow hO8
            obtain ⟨p8, q8, rfl⟩ := OwnsC.len hO8
            go_wp2_with fail
            refine (told_f _ _ w8 ⟨_, _, _, rfl⟩ f).mono ?_
            rintro e wt ⟨rfl, hwt⟩
            replace hwt := hwt.symm
            subst hwt
            go_wp2
            go_ret
            exact ⟨rfl, hB⟩
        · go_wp2_with fail
          refine c7.mono ?_
          rintro e w7 ⟨v7, rfl, hO7, hB7⟩
          clear c7
          replace hB := chain hB hB7
          replace Rf := Rf.below hB7
          replace Rg := Rg.below hB7
          replace R1 := R1.below hB7
          replace R2 := R2.below hB7
          replace R3 := R3.below hB7
          replace R4 := R4.below hB7
          have R5 := OwnsC.frow hO7
          obtain ⟨p7, q7, rfl⟩ := OwnsC.len hO7
          go_wp2_with fail
          refine (told_f _ _ w7 ⟨_, _, _, rfl⟩ d).mono ?_
          rintro e wt ⟨rfl, hwt⟩
          replace hwt := hwt.symm
          subst hwt
          have c8 := Meet_any NF1 NG1 _ _ w7 R1 R2 (by omega) (by omega)
          generalize hMM : meetF NF1 NG1 = MM at c8
          have HMM : Hid (meetF NF1 NG1 = MM) := hMM
          clear hMM
          obtain ⟨MM1, MM2⟩ := MM
          dsimp only at c8
          go_wp2_with fail
          refine c8.mono ?_
          rintro e w8 ⟨v8, rfl, hO8, hB8⟩
          clear c8
          replace hB := chain hB hB8
          replace Rf := Rf.below hB8
          replace Rg := Rg.below hB8
          replace R1 := R1.below hB8
          replace R2 := R2.below hB8
          replace R3 := R3.below hB8
          replace R4 := R4.below hB8
          replace R5 := R5.below hB8
          have R6 := OwnsC.frow hO8
          obtain ⟨p8, q8, rfl⟩ := OwnsC.len hO8
          go_wp2_with fail
          refine (told_any _ _ w8 ⟨_, _, _, rfl⟩).mono ?_
          rintro e wt ⟨rfl, hwt⟩
          replace hwt := hwt.symm
          subst hwt
          go_wp2
          go_ret
          exact ⟨rfl, hB⟩
      · go_wp2_with fail
        refine c4.mono ?_
        rintro e w4 ⟨v4, rfl, hO4, hB4⟩
        clear c4
        replace hB := chain hB hB4
        replace Rf := Rf.below hB4
        replace Rg := Rg.below hB4
        replace R1 := R1.below hB4
        replace R2 := R2.below hB4
        have R3 := OwnsC.frow hO4
        obtain ⟨p4, q4, rfl⟩ := OwnsC.len hO4
        go_wp2_with fail
        refine (told_f _ _ w4 ⟨_, _, _, rfl⟩ a).mono ?_
        rintro e wt ⟨rfl, hwt⟩
        replace hwt := hwt.symm
        subst hwt
        clear a
        have c5 := Join_any l m _ _ w4 Rf Rg (by omega) (by omega)
        rw [HJ.out] at c5
        dsimp only at c5
        go_wp2_with fail
        refine c5.mono ?_
        rintro e w5 ⟨v5, rfl, hO5, hB5⟩
        clear c5
        replace hB := chain hB hB5
        replace Rf := Rf.below hB5
        replace Rg := Rg.below hB5
        replace R1 := R1.below hB5
        replace R2 := R2.below hB5
        replace R3 := R3.below hB5
        have R4 := OwnsC.frow hO5
        obtain ⟨p5, q5, rfl⟩ := OwnsC.len hO5
        go_wp2_with fail
        refine (told_t _ _ w5 ⟨_, _, _, rfl⟩ rfl).mono ?_
        rintro e wt ⟨rfl, hwt⟩
        replace hwt := hwt.symm
        subst hwt
        have c6 := Not_any J _ w5 R4 (by omega)
        generalize hNJ : notF J = NJ at c6
        have HNJ : Hid (notF J = NJ) := hNJ
        clear hNJ
        obtain ⟨NJ1, NJ2⟩ := NJ
        dsimp only at c6
        have LNJ : NJ1.length ≤ 64 := by have := notF_len J; rw [HNJ.out] at this; exact this
        by_cases d : NJ2 = 0
        · obtain rfl : NJ2 = 0 := d
          go_wp2_with fail
          refine c6.mono ?_
          rintro e w6 ⟨v6, rfl, hO6, hB6⟩
          clear c6
          replace hB := chain hB hB6
          replace Rf := Rf.below hB6
          replace Rg := Rg.below hB6
          replace R1 := R1.below hB6
          replace R2 := R2.below hB6
          replace R3 := R3.below hB6
          replace R4 := R4.below hB6
          have R5 := OwnsC.frow hO6
          obtain ⟨p6, q6, rfl⟩ := OwnsC.len hO6
          go_wp2_with fail
          refine (told_t _ _ w6 ⟨_, _, _, rfl⟩ rfl).mono ?_
          rintro e wt ⟨rfl, hwt⟩
          replace hwt := hwt.symm
          subst hwt
          have c7 := Meet_any NF1 NG1 _ _ w6 R1 R2 (by omega) (by omega)
          generalize hMM : meetF NF1 NG1 = MM at c7
          have HMM : Hid (meetF NF1 NG1 = MM) := hMM
          clear hMM
          obtain ⟨MM1, MM2⟩ := MM
          dsimp only at c7
          by_cases f : MM2 = 0
          · obtain rfl : MM2 = 0 := f
            have HE : Hid (NJ1 = MM1) := by
              have h1 : (joinF l m).1 = J := by rw [HJ.out]
              have h0 : (joinF l m).2 = 0 := by rw [HJ.out]
              have hm := morgan (f := l) (g := m) (by rw [HNF.out]) (by rw [HNG.out]) h0 (by rw [h1, HNJ.out]) (by rw [HNF.out, HNG.out, HMM.out])
              rw [h1, HNJ.out, HNF.out, HNG.out, HMM.out] at hm
              exact hm
            go_wp2_with fail
            refine c7.mono ?_
            rintro e w7 ⟨v7, rfl, hO7, hB7⟩
            clear c7
            replace hB := chain hB hB7
            replace Rf := Rf.below hB7
            replace Rg := Rg.below hB7
            replace R1 := R1.below hB7
            replace R2 := R2.below hB7
            replace R3 := R3.below hB7
            replace R4 := R4.below hB7
            replace R5 := R5.below hB7
            have R6 := OwnsC.frow hO7
            obtain ⟨p7, q7, rfl⟩ := OwnsC.len hO7
            go_wp2_with fail
            refine (told_t _ _ w7 ⟨_, _, _, rfl⟩ rfl).mono ?_
            rintro e wt ⟨rfl, hwt⟩
            replace hwt := hwt.symm
            subst hwt
            have c8 := same_any _ _ _ _ w7 R5.row R6.row (by omega)
            rw [decide_eq_true HE.out] at c8
            go_wp2_with fail
            refine c8.mono ?_
            rintro e w8 ⟨rfl, hB8⟩
            clear c8
            replace hB := chain hB hB8
            replace Rf := Rf.below hB8
            replace Rg := Rg.below hB8
            replace R1 := R1.below hB8
            replace R2 := R2.below hB8
            replace R3 := R3.below hB8
            replace R4 := R4.below hB8
            replace R5 := R5.below hB8
            replace R6 := R6.below hB8
            go_wp2
            go_ret
            exact ⟨rfl, hB⟩
          · go_wp2_with fail
            refine c7.mono ?_
            rintro e w7 ⟨v7, rfl, hO7, hB7⟩
            clear c7
            replace hB := chain hB hB7
            replace Rf := Rf.below hB7
            replace Rg := Rg.below hB7
            replace R1 := R1.below hB7
            replace R2 := R2.below hB7
            replace R3 := R3.below hB7
            replace R4 := R4.below hB7
            replace R5 := R5.below hB7
            have R6 := OwnsC.frow hO7
            obtain ⟨p7, q7, rfl⟩ := OwnsC.len hO7
            go_wp2_with fail
            refine (told_f _ _ w7 ⟨_, _, _, rfl⟩ f).mono ?_
            rintro e wt ⟨rfl, hwt⟩
            replace hwt := hwt.symm
            subst hwt
            go_wp2
            go_ret
            exact ⟨rfl, hB⟩
        · go_wp2_with fail
          refine c6.mono ?_
          rintro e w6 ⟨v6, rfl, hO6, hB6⟩
          clear c6
          replace hB := chain hB hB6
          replace Rf := Rf.below hB6
          replace Rg := Rg.below hB6
          replace R1 := R1.below hB6
          replace R2 := R2.below hB6
          replace R3 := R3.below hB6
          replace R4 := R4.below hB6
          have R5 := OwnsC.frow hO6
          obtain ⟨p6, q6, rfl⟩ := OwnsC.len hO6
          go_wp2_with fail
          refine (told_f _ _ w6 ⟨_, _, _, rfl⟩ d).mono ?_
          rintro e wt ⟨rfl, hwt⟩
          replace hwt := hwt.symm
          subst hwt
          have c7 := Meet_any NF1 NG1 _ _ w6 R1 R2 (by omega) (by omega)
          generalize hMM : meetF NF1 NG1 = MM at c7
          have HMM : Hid (meetF NF1 NG1 = MM) := hMM
          clear hMM
          obtain ⟨MM1, MM2⟩ := MM
          dsimp only at c7
          go_wp2_with fail
          refine c7.mono ?_
          rintro e w7 ⟨v7, rfl, hO7, hB7⟩
          clear c7
          replace hB := chain hB hB7
          replace Rf := Rf.below hB7
          replace Rg := Rg.below hB7
          replace R1 := R1.below hB7
          replace R2 := R2.below hB7
          replace R3 := R3.below hB7
          replace R4 := R4.below hB7
          replace R5 := R5.below hB7
          have R6 := OwnsC.frow hO7
          obtain ⟨p7, q7, rfl⟩ := OwnsC.len hO7
          go_wp2_with fail
          refine (told_any _ _ w7 ⟨_, _, _, rfl⟩).mono ?_
          rintro e wt ⟨rfl, hwt⟩
          replace hwt := hwt.symm
          subst hwt
          go_wp2
          go_ret
          exact ⟨rfl, hB⟩
    · go_wp2_with fail
      refine c3.mono ?_
      rintro e w3 ⟨v3, rfl, hO3, hB3⟩
      clear c3
      replace hB := chain hB hB3
      replace Rf := Rf.below hB3
      replace Rg := Rg.below hB3
      replace R1 := R1.below hB3
      have R2 := OwnsC.frow hO3
      obtain ⟨p3, q3, rfl⟩ := OwnsC.len hO3
      go_wp2_with fail
      refine (told_f _ _ w3 ⟨_, _, _, rfl⟩ b).mono ?_
      rintro e wt ⟨rfl, hwt⟩
      replace hwt := hwt.symm
      subst hwt
      go_wp2
      go_ret
      exact ⟨rfl, hB⟩
  · go_wp2_with fail
    refine c2.mono ?_
    rintro e w2 ⟨v2, rfl, hO2, hB2⟩
    clear c2
    replace hB := chain hB hB2
    replace Rf := Rf.below hB2
    replace Rg := Rg.below hB2
    have R1 := OwnsC.frow hO2
    obtain ⟨p2, q2, rfl⟩ := OwnsC.len hO2
    go_wp2_with fail
    refine (told_f _ _ w2 ⟨_, _, _, rfl⟩ a).mono ?_
    rintro e wt ⟨rfl, hwt⟩
    replace hwt := hwt.symm
    subst hwt
    have c3 := Not_any m _ w2 Rg (by omega)
    generalize hNG : notF m = NG at c3
    have HNG : Hid (notF m = NG) := hNG
    clear hNG
    obtain ⟨NG1, NG2⟩ := NG
    dsimp only at c3
    have LNG : NG1.length ≤ 64 := by have := notF_len m; rw [HNG.out] at this; exact this
    go_wp2_with fail
    refine c3.mono ?_
    rintro e w3 ⟨v3, rfl, hO3, hB3⟩
    clear c3
    replace hB := chain hB hB3
    replace Rf := Rf.below hB3
    replace Rg := Rg.below hB3
    replace R1 := R1.below hB3
    have R2 := OwnsC.frow hO3
    obtain ⟨p3, q3, rfl⟩ := OwnsC.len hO3
    go_wp2_with fail
    refine (told_any _ _ w3 ⟨_, _, _, rfl⟩).mono ?_
    rintro e wt ⟨rfl, hwt⟩
    replace hwt := hwt.symm
    subst hwt
    go_wp2
    go_ret
    exact ⟨rfl, hB⟩
end Go.Proofs.Ytkklmioejgpknaa
