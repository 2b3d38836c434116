/- The walk of the law FormulaLattice: the call returns true; nothing that lay before it turns. -/
import Derived.Test.YtkklmioejgpknaaWMorgan
namespace Go.Proofs.Ytkklmioejgpknaa
open Go.RowKit
set_option linter.unusedVariables false
set_option linter.unusedSimpArgs false

theorem meetF_no {f g : List C} (h : (meetF f g).2 ≠ 0) : (meetF f g).1 = [] := by
  unfold meetF at h ⊢
  split
  · rename_i h2
    rw [if_pos h2] at h
    exact leastF_no h
  · rfl
theorem leastF_eq {l f : List C} (hr : l.all rightC = true) (hf : rightF f = true) (h : ∀ c, rightC c = true → (dn l c ↔ dn f c)) : leastF l = (f, 0) :=
  (leastF_ext hr (rightF_all hf) h).trans (rightF_eq hf)
theorem absorb_meet_told {f g : List C} (h1 : (joinF f g).2 = 0) : meetF f (joinF f g).1 = (f, 0) := by
  obtain ⟨hf, hg⟩ := joinF_told h1
  rw [meetF_ok hf (joinF_right f g)]
  refine leastF_eq (pairs_right _ _) hf (fun c _ => ?_)
  rw [dn_pairs, joinF_dn h1]
  exact ⟨fun h => h.1, fun h => ⟨h, .inl h⟩⟩
theorem absorb_join_told {f g : List C} (h1 : (meetF f g).2 = 0) : joinF f (meetF f g).1 = (f, 0) := by
  obtain ⟨hf, hg⟩ := meetF_told h1
  rw [joinF_ok hf (meetF_right f g)]
  refine leastF_eq (append_right hf (meetF_right f g)) hf (fun c _ => ?_)
  rw [dn_append, meetF_dn h1]
  exact ⟨fun h => h.elim id (fun h => h.1), .inl⟩
theorem distrib_told {f g h : List C} (h1 : (joinF g h).2 = 0) (h2 : (meetF f (joinF g h).1).2 = 0) (h3 : (meetF f g).2 = 0) (h4 : (meetF f h).2 = 0) : joinF (meetF f g).1 (meetF f h).1 = ((meetF f (joinF g h).1).1, 0) := by
  rw [joinF_ok (meetF_right _ _) (meetF_right _ _)]
  refine leastF_eq (append_right (meetF_right _ _) (meetF_right _ _)) (meetF_right _ _) (fun c _ => ?_)
  rw [dn_append, meetF_dn h3, meetF_dn h4, meetF_dn h2, joinF_dn h1]
  exact ⟨fun h => h.elim (fun h => ⟨h.1, .inl h.2⟩) (fun h => ⟨h.1, .inr h.2⟩), fun ⟨a, b⟩ => b.elim (fun b => .inl ⟨a, b⟩) (fun b => .inr ⟨a, b⟩)⟩
set_option maxRecDepth 100000 in
set_option maxHeartbeats 1000000 in
theorem lattice_big0 (l m n : List C) (vl vm vn : Value) (w : World) (Rf : FRow w vl l) (Rg : FRow w vm m) (Rh : FRow w vn n)  (h : 20 < l.length) :
    Calls Try.prog 6 #[vl, vm, vn] w fun e w' => e = .returned (.bool true) ∧ Below w.heap.size w w' := by
  obtain ⟨pl, cl, rfl⟩ := Rf.len
  obtain ⟨pm, cm, rfl⟩ := Rg.len
  obtain ⟨pn, cn, rfl⟩ := Rh.len
  clear Rf Rg Rh
  generalize l.length = n1 at *
  generalize m.length = n2 at *
  generalize n.length = n3 at *
  go_enter Try.func6, Try.ntmps6
  go_wp2_with (go_at_call 10; refine (fworks_any _).mono ?_; rintro e w1 ⟨rfl, hB1⟩)
  go_ret
  exact ⟨rfl, hB1⟩
set_option maxRecDepth 100000 in
set_option maxHeartbeats 1000000 in
theorem lattice_big1 (l m n : List C) (vl vm vn : Value) (w : World) (Rf : FRow w vl l) (Rg : FRow w vm m) (Rh : FRow w vn n) (h0 : ¬ 20 < l.length) (h : 20 < m.length) :
    Calls Try.prog 6 #[vl, vm, vn] w fun e w' => e = .returned (.bool true) ∧ Below w.heap.size w w' := by
  obtain ⟨pl, cl, rfl⟩ := Rf.len
  obtain ⟨pm, cm, rfl⟩ := Rg.len
  obtain ⟨pn, cn, rfl⟩ := Rh.len
  clear Rf Rg Rh
  generalize l.length = n1 at *
  generalize m.length = n2 at *
  generalize n.length = n3 at *
  go_enter Try.func6, Try.ntmps6
  go_wp2_with (go_at_call 10; refine (fworks_any _).mono ?_; rintro e w1 ⟨rfl, hB1⟩)
  go_ret
  exact ⟨rfl, hB1⟩
set_option maxRecDepth 100000 in
set_option maxHeartbeats 1000000 in
theorem lattice_big2 (l m n : List C) (vl vm vn : Value) (w : World) (Rf : FRow w vl l) (Rg : FRow w vm m) (Rh : FRow w vn n) (h0 : ¬ 20 < l.length) (h1 : ¬ 20 < m.length) (h : 20 < n.length) :
    Calls Try.prog 6 #[vl, vm, vn] w fun e w' => e = .returned (.bool true) ∧ Below w.heap.size w w' := by
  obtain ⟨pl, cl, rfl⟩ := Rf.len
  obtain ⟨pm, cm, rfl⟩ := Rg.len
  obtain ⟨pn, cn, rfl⟩ := Rh.len
  clear Rf Rg Rh
  generalize l.length = n1 at *
  generalize m.length = n2 at *
  generalize n.length = n3 at *
  go_enter Try.func6, Try.ntmps6
  go_wp2_with (go_at_call 10; refine (fworks_any _).mono ?_; rintro e w1 ⟨rfl, hB1⟩)
  go_ret
  exact ⟨rfl, hB1⟩
set_option maxRecDepth 100000 in
set_option maxHeartbeats 8000000 in
theorem lattice_F (l m n : List C) (vl vm vn : Value) (w : World) (Rf : FRow w vl l) (Rg : FRow w vm m) (Rh : FRow w vn n) (hl : l.length ≤ 20) (hm : m.length ≤ 20) (hn : n.length ≤ 20) (hw : (rightF l && rightF m) = false) :
    Calls Try.prog 6 #[vl, vm, vn] w fun e w' => e = .returned (.bool true) ∧ Below w.heap.size w w' := by
  have HJ : Hid (joinF l m = ([], 2)) := by unfold joinF; rw [hw]; rfl
  have HM : Hid (meetF l m = ([], 2)) := by unfold meetF; rw [hw]; rfl
  have HJ2 : Hid (joinF m l = ([], 2)) := (joinF_comm m l).trans HJ.out
  have HM2 : Hid (meetF m l = ([], 2)) := (meetF_comm m l).trans HM.out
  clear hw
  have hl2 : ¬ (20 < (l.length : Int)) := by omega
  have hm2 : ¬ (20 < (m.length : Int)) := by omega
  have hn2 : ¬ (20 < (n.length : Int)) := by omega
  have hB : Below w.heap.size w w := Below.refl _ _
  obtain ⟨pl, cl, rfl⟩ := Rf.len
  obtain ⟨pm, cm, rfl⟩ := Rg.len
  obtain ⟨pn, cn, rfl⟩ := Rh.len
  go_enter Try.func6, Try.ntmps6
  go_wp2_with fail
  refine (fworks_any w).mono ?_
  rintro e w1 ⟨rfl, hB1⟩
  replace hB := chain hB hB1
  replace Rf := Rf.below hB1
  replace Rg := Rg.below hB1
  replace Rh := Rh.below hB1
  have c2 := Join_any l m _ _ w1 Rf Rg (by omega) (by omega)
  rw [HJ.out] at c2
  dsimp only at c2
  go_wp2_with fail
  refine c2.mono ?_
  rintro e w2 ⟨v2, rfl, hO2, hB2⟩
  clear c2
  replace hB := chain hB hB2
  replace Rf := Rf.below hB2
  replace Rg := Rg.below hB2
  replace Rh := Rh.below hB2
  have R1 := OwnsC.frow hO2
  obtain ⟨p2, q2, rfl⟩ := OwnsC.len hO2
  go_wp2_with fail
  refine (told_f _ _ w2 ⟨_, _, _, rfl⟩ (by decide)).mono ?_
  rintro e wt ⟨rfl, hwt⟩
  replace hwt := hwt.symm
  subst hwt
  have c3 := Join_any m l _ _ w2 Rg Rf (by omega) (by omega)
  rw [HJ2.out] at c3
  dsimp only at c3
  go_wp2_with fail
  refine c3.mono ?_
  rintro e w3 ⟨v3, rfl, hO3, hB3⟩
  clear c3
  replace hB := chain hB hB3
  replace Rf := Rf.below hB3
  replace Rg := Rg.below hB3
  replace Rh := Rh.below hB3
  replace R1 := R1.below hB3
  have R2 := OwnsC.frow hO3
  obtain ⟨p3, q3, rfl⟩ := OwnsC.len hO3
  go_wp2_with fail
  refine (told_f _ _ w3 ⟨_, _, _, rfl⟩ (by decide)).mono ?_
  rintro e wt ⟨rfl, hwt⟩
  replace hwt := hwt.symm
  subst hwt
  have c4 := Meet_any l m _ _ w3 Rf Rg (by omega) (by omega)
  rw [HM.out] at c4
  dsimp only at c4
  go_wp2_with fail
  refine c4.mono ?_
  rintro e w4 ⟨v4, rfl, hO4, hB4⟩
  clear c4
  replace hB := chain hB hB4
  replace Rf := Rf.below hB4
  replace Rg := Rg.below hB4
  replace Rh := Rh.below hB4
  replace R1 := R1.below hB4
  replace R2 := R2.below hB4
  have R3 := OwnsC.frow hO4
  obtain ⟨p4, q4, rfl⟩ := OwnsC.len hO4
  go_wp2_with fail
  refine (told_f _ _ w4 ⟨_, _, _, rfl⟩ (by decide)).mono ?_
  rintro e wt ⟨rfl, hwt⟩
  replace hwt := hwt.symm
  subst hwt
  have c5 := Meet_any m l _ _ w4 Rg Rf (by omega) (by omega)
  rw [HM2.out] at c5
  dsimp only at c5
  go_wp2_with fail
  refine c5.mono ?_
  rintro e w5 ⟨v5, rfl, hO5, hB5⟩
  clear c5
  replace hB := chain hB hB5
  replace Rf := Rf.below hB5
  replace Rg := Rg.below hB5
  replace Rh := Rh.below hB5
  replace R1 := R1.below hB5
  replace R2 := R2.below hB5
  replace R3 := R3.below hB5
  have R4 := OwnsC.frow hO5
  obtain ⟨p5, q5, rfl⟩ := OwnsC.len hO5
  go_wp2_with fail
  refine (told_f _ _ w5 ⟨_, _, _, rfl⟩ (by decide)).mono ?_
  rintro e wt ⟨rfl, hwt⟩
  replace hwt := hwt.symm
  subst hwt
  have c6 := same_any [] [] _ _ w5 R1.row R2.row (by simp)
  rw [decide_eq_true rfl] at c6
  go_wp2_with fail
  refine c6.mono ?_
  rintro e w6 ⟨rfl, hB6⟩
  clear c6
  replace hB := chain hB hB6
  replace Rf := Rf.below hB6
  replace Rg := Rg.below hB6
  replace Rh := Rh.below hB6
  replace R1 := R1.below hB6
  replace R2 := R2.below hB6
  replace R3 := R3.below hB6
  replace R4 := R4.below hB6
  have c7 := same_any [] [] _ _ w6 R3.row R4.row (by simp)
  rw [decide_eq_true rfl] at c7
  go_wp2_with fail
  refine c7.mono ?_
  rintro e w7 ⟨rfl, hB7⟩
  clear c7
  replace hB := chain hB hB7
  replace Rf := Rf.below hB7
  replace Rg := Rg.below hB7
  replace Rh := Rh.below hB7
  replace R1 := R1.below hB7
  replace R2 := R2.below hB7
  replace R3 := R3.below hB7
  replace R4 := R4.below hB7
  have c8 := Join_any m n _ _ w7 Rg Rh (by omega) (by omega)
  generalize hGH : joinF m n = GH at c8
  have HGH : Hid (joinF m n = GH) := hGH
  clear hGH
  obtain ⟨GH1, GH2⟩ := GH
  dsimp only at c8
  have LGH : GH1.length ≤ 64 := by have := joinF_len m n; rw [HGH.out] at this; exact this
  by_cases p : GH2 = 0
  · obtain rfl : GH2 = 0 := p
    go_wp2_with fail
    refine c8.mono ?_
    rintro e w8 ⟨v8, rfl, hO8, hB8⟩
    clear c8
    replace hB := chain hB hB8
    replace Rf := Rf.below hB8
    replace Rg := Rg.below hB8
    replace Rh := Rh.below hB8
    replace R1 := R1.below hB8
    replace R2 := R2.below hB8
    replace R3 := R3.below hB8
    replace R4 := R4.below hB8
    have R5 := OwnsC.frow hO8
    obtain ⟨p8, q8, rfl⟩ := OwnsC.len hO8
    go_wp2_with fail
    refine (told_t _ _ w8 ⟨_, _, _, rfl⟩ rfl).mono ?_
    rintro e wt ⟨rfl, hwt⟩
    replace hwt := hwt.symm
    subst hwt
    have c9 := Meet_any l GH1 _ _ w8 Rf R5 (by omega) (by omega)
    generalize hML : meetF l GH1 = ML at c9
    have HML : Hid (meetF l GH1 = ML) := hML
    clear hML
    obtain ⟨ML1, ML2⟩ := ML
    dsimp only at c9
    by_cases q : ML2 = 0
    · obtain rfl : ML2 = 0 := q
      go_wp2_with fail
      refine c9.mono ?_
      rintro e w9 ⟨v9, rfl, hO9, hB9⟩
      clear c9
      replace hB := chain hB hB9
      replace Rf := Rf.below hB9
      replace Rg := Rg.below hB9
      replace Rh := Rh.below hB9
      replace R1 := R1.below hB9
      replace R2 := R2.below hB9
      replace R3 := R3.below hB9
      replace R4 := R4.below hB9
      replace R5 := R5.below hB9
      have R6 := OwnsC.frow hO9
      obtain ⟨p9, q9, rfl⟩ := OwnsC.len hO9
      go_wp2_with fail
      refine (told_t _ _ w9 ⟨_, _, _, rfl⟩ rfl).mono ?_
      rintro e wt ⟨rfl, hwt⟩
      replace hwt := hwt.symm
      subst hwt
      have c10 := Meet_any l n _ _ w9 Rf Rh (by omega) (by omega)
      generalize hMR : meetF l n = MR at c10
      have HMR : Hid (meetF l n = MR) := hMR
      clear hMR
      obtain ⟨MR1, MR2⟩ := MR
      dsimp only at c10
      have LMR : MR1.length ≤ 64 := by have := meetF_len l n; rw [HMR.out] at this; exact this
      go_wp2_with fail
      refine c10.mono ?_
      rintro e w10 ⟨v10, rfl, hO10, hB10⟩
      clear c10
      replace hB := chain hB hB10
      replace Rf := Rf.below hB10
      replace Rg := Rg.below hB10
      replace Rh := Rh.below hB10
      replace R1 := R1.below hB10
      replace R2 := R2.below hB10
      replace R3 := R3.below hB10
      replace R4 := R4.below hB10
      replace R5 := R5.below hB10
      replace R6 := R6.below hB10
      have R7 := OwnsC.frow hO10
      obtain ⟨p10, q10, rfl⟩ := OwnsC.len hO10
      go_wp2_with fail
      refine (told_any _ _ w10 ⟨_, _, _, rfl⟩).mono ?_
      rintro e wt ⟨rfl, hwt⟩
      replace hwt := hwt.symm
      subst hwt
      have c11 := Join_any [] MR1 _ _ w10 R3 R7 (by simp) (by omega)
      generalize hJS : joinF [] MR1 = JS at c11
      have HJS : Hid (joinF [] MR1 = JS) := hJS
      clear hJS
      obtain ⟨JS1, JS2⟩ := JS
      dsimp only at c11
      go_wp2_with fail
      refine c11.mono ?_
      rintro e w11 ⟨v11, rfl, hO11, hB11⟩
      clear c11
      replace hB := chain hB hB11
      replace Rf := Rf.below hB11
      replace Rg := Rg.below hB11
      replace Rh := Rh.below hB11
      replace R1 := R1.below hB11
      replace R2 := R2.below hB11
      replace R3 := R3.below hB11
      replace R4 := R4.below hB11
      replace R5 := R5.below hB11
      replace R6 := R6.below hB11
      replace R7 := R7.below hB11
      have R8 := OwnsC.frow hO11
      obtain ⟨p11, q11, rfl⟩ := OwnsC.len hO11
      go_wp2_with fail
      refine (told_any _ _ w11 ⟨_, _, _, rfl⟩).mono ?_
      rintro e wt ⟨rfl, hwt⟩
      replace hwt := hwt.symm
      subst hwt
      have c12 := Join_any l GH1 _ _ w11 Rf R5 (by omega) (by omega)
      generalize hJX : joinF l GH1 = JX at c12
      have HJX : Hid (joinF l GH1 = JX) := hJX
      clear hJX
      obtain ⟨JX1, JX2⟩ := JX
      dsimp only at c12
      by_cases t : JX2 = 0
      · obtain rfl : JX2 = 0 := t
        go_wp2_with fail
        refine c12.mono ?_
        rintro e w12 ⟨v12, rfl, hO12, hB12⟩
        clear c12
        replace hB := chain hB hB12
        replace Rf := Rf.below hB12
        replace Rg := Rg.below hB12
        replace Rh := Rh.below hB12
        replace R1 := R1.below hB12
        replace R2 := R2.below hB12
        replace R3 := R3.below hB12
        replace R4 := R4.below hB12
        replace R5 := R5.below hB12
        replace R6 := R6.below hB12
        replace R7 := R7.below hB12
        replace R8 := R8.below hB12
        have R9 := OwnsC.frow hO12
        obtain ⟨p12, q12, rfl⟩ := OwnsC.len hO12
        go_wp2_with fail
        refine (told_t _ _ w12 ⟨_, _, _, rfl⟩ rfl).mono ?_
        rintro e wt ⟨rfl, hwt⟩
        replace hwt := hwt.symm
        subst hwt
        have c13 := Join_any [] n _ _ w12 R1 Rh (by simp) (by omega)
        generalize hJY : joinF [] n = JY at c13
        have HJY : Hid (joinF [] n = JY) := hJY
        clear hJY
        obtain ⟨JY1, JY2⟩ := JY
        dsimp only at c13
        go_wp2_with fail
        refine c13.mono ?_
        rintro e w13 ⟨v13, rfl, hO13, hB13⟩
        clear c13
        replace hB := chain hB hB13
        replace Rf := Rf.below hB13
        replace Rg := Rg.below hB13
        replace Rh := Rh.below hB13
        replace R1 := R1.below hB13
        replace R2 := R2.below hB13
        replace R3 := R3.below hB13
        replace R4 := R4.below hB13
        replace R5 := R5.below hB13
        replace R6 := R6.below hB13
        replace R7 := R7.below hB13
        replace R8 := R8.below hB13
        replace R9 := R9.below hB13
        have R10 := OwnsC.frow hO13
        obtain ⟨p13, q13, rfl⟩ := OwnsC.len hO13
        go_wp2_with fail
        refine (told_any _ _ w13 ⟨_, _, _, rfl⟩).mono ?_
        rintro e wt ⟨rfl, hwt⟩
        replace hwt := hwt.symm
        subst hwt
        go_wp2
        go_ret
        exact ⟨rfl, hB⟩
      · go_wp2_with fail
        refine c12.mono ?_
        rintro e w12 ⟨v12, rfl, hO12, hB12⟩
        clear c12
        replace hB := chain hB hB12
        replace Rf := Rf.below hB12
        replace Rg := Rg.below hB12
        replace Rh := Rh.below hB12
        replace R1 := R1.below hB12
        replace R2 := R2.below hB12
        replace R3 := R3.below hB12
        replace R4 := R4.below hB12
        replace R5 := R5.below hB12
        replace R6 := R6.below hB12
        replace R7 := R7.below hB12
        replace R8 := R8.below hB12
        have R9 := OwnsC.frow hO12
        obtain ⟨p12, q12, rfl⟩ := OwnsC.len hO12
        go_wp2_with fail
        refine (told_f _ _ w12 ⟨_, _, _, rfl⟩ t).mono ?_
        rintro e wt ⟨rfl, hwt⟩
        replace hwt := hwt.symm
        subst hwt
        have c13 := Join_any [] n _ _ w12 R1 Rh (by simp) (by omega)
        generalize hJY : joinF [] n = JY at c13
        have HJY : Hid (joinF [] n = JY) := hJY
        clear hJY
        obtain ⟨JY1, JY2⟩ := JY
        dsimp only at c13
        go_wp2_with fail
        refine c13.mono ?_
        rintro e w13 ⟨v13, rfl, hO13, hB13⟩
        clear c13
        replace hB := chain hB hB13
        replace Rf := Rf.below hB13
        replace Rg := Rg.below hB13
        replace Rh := Rh.below hB13
        replace R1 := R1.below hB13
        replace R2 := R2.below hB13
        replace R3 := R3.below hB13
        replace R4 := R4.below hB13
        replace R5 := R5.below hB13
        replace R6 := R6.below hB13
        replace R7 := R7.below hB13
        replace R8 := R8.below hB13
        replace R9 := R9.below hB13
        have R10 := OwnsC.frow hO13
        obtain ⟨p13, q13, rfl⟩ := OwnsC.len hO13
        go_wp2_with fail
        refine (told_any _ _ w13 ⟨_, _, _, rfl⟩).mono ?_
        rintro e wt ⟨rfl, hwt⟩
        replace hwt := hwt.symm
        subst hwt
        go_wp2
        go_ret
        exact ⟨rfl, hB⟩
    · go_wp2_with fail
      refine c9.mono ?_
      rintro e w9 ⟨v9, rfl, hO9, hB9⟩
      clear c9
      replace hB := chain hB hB9
      replace Rf := Rf.below hB9
      replace Rg := Rg.below hB9
      replace Rh := Rh.below hB9
      replace R1 := R1.below hB9
      replace R2 := R2.below hB9
      replace R3 := R3.below hB9
      replace R4 := R4.below hB9
      replace R5 := R5.below hB9
      have R6 := OwnsC.frow hO9
      obtain ⟨p9, q9, rfl⟩ := OwnsC.len hO9
      go_wp2_with fail
      refine (told_f _ _ w9 ⟨_, _, _, rfl⟩ q).mono ?_
      rintro e wt ⟨rfl, hwt⟩
      replace hwt := hwt.symm
      subst hwt
      have c10 := Meet_any l n _ _ w9 Rf Rh (by omega) (by omega)
      generalize hMR : meetF l n = MR at c10
      have HMR : Hid (meetF l n = MR) := hMR
      clear hMR
      obtain ⟨MR1, MR2⟩ := MR
      dsimp only at c10
      have LMR : MR1.length ≤ 64 := by have := meetF_len l n; rw [HMR.out] at this; exact this
      go_wp2_with fail
      refine c10.mono ?_
      rintro e w10 ⟨v10, rfl, hO10, hB10⟩
      clear c10
      replace hB := chain hB hB10
      replace Rf := Rf.below hB10
      replace Rg := Rg.below hB10
      replace Rh := Rh.below hB10
      replace R1 := R1.below hB10
      replace R2 := R2.below hB10
      replace R3 := R3.below hB10
      replace R4 := R4.below hB10
      replace R5 := R5.below hB10
      replace R6 := R6.below hB10
      have R7 := OwnsC.frow hO10
      obtain ⟨p10, q10, rfl⟩ := OwnsC.len hO10
      go_wp2_with fail
      refine (told_any _ _ w10 ⟨_, _, _, rfl⟩).mono ?_
      rintro e wt ⟨rfl, hwt⟩
      replace hwt := hwt.symm
      subst hwt
      have c11 := Join_any [] MR1 _ _ w10 R3 R7 (by simp) (by omega)
      generalize hJS : joinF [] MR1 = JS at c11
      have HJS : Hid (joinF [] MR1 = JS) := hJS
      clear hJS
      obtain ⟨JS1, JS2⟩ := JS
      dsimp only at c11
      go_wp2_with fail
      refine c11.mono ?_
      rintro e w11 ⟨v11, rfl, hO11, hB11⟩
      clear c11
      replace hB := chain hB hB11
      replace Rf := Rf.below hB11
      replace Rg := Rg.below hB11
      replace Rh := Rh.below hB11
      replace R1 := R1.below hB11
      replace R2 := R2.below hB11
      replace R3 := R3.below hB11
      replace R4 := R4.below hB11
      replace R5 := R5.below hB11
      replace R6 := R6.below hB11
      replace R7 := R7.below hB11
      have R8 := OwnsC.frow hO11
      obtain ⟨p11, q11, rfl⟩ := OwnsC.len hO11
      go_wp2_with fail
      refine (told_any _ _ w11 ⟨_, _, _, rfl⟩).mono ?_
      rintro e wt ⟨rfl, hwt⟩
      replace hwt := hwt.symm
      subst hwt
      have c12 := Join_any l GH1 _ _ w11 Rf R5 (by omega) (by omega)
      generalize hJX : joinF l GH1 = JX at c12
      have HJX : Hid (joinF l GH1 = JX) := hJX
      clear hJX
      obtain ⟨JX1, JX2⟩ := JX
      dsimp only at c12
      by_cases t : JX2 = 0
      · obtain rfl : JX2 = 0 := t
        go_wp2_with fail
        refine c12.mono ?_
        rintro e w12 ⟨v12, rfl, hO12, hB12⟩
        clear c12
        replace hB := chain hB hB12
        replace Rf := Rf.below hB12
        replace Rg := Rg.below hB12
        replace Rh := Rh.below hB12
        replace R1 := R1.below hB12
        replace R2 := R2.below hB12
        replace R3 := R3.below hB12
        replace R4 := R4.below hB12
        replace R5 := R5.below hB12
        replace R6 := R6.below hB12
        replace R7 := R7.below hB12
        replace R8 := R8.below hB12
        have R9 := OwnsC.frow hO12
        obtain ⟨p12, q12, rfl⟩ := OwnsC.len hO12
        go_wp2_with fail
        refine (told_t _ _ w12 ⟨_, _, _, rfl⟩ rfl).mono ?_
        rintro e wt ⟨rfl, hwt⟩
        replace hwt := hwt.symm
        subst hwt
        have c13 := Join_any [] n _ _ w12 R1 Rh (by simp) (by omega)
        generalize hJY : joinF [] n = JY at c13
        have HJY : Hid (joinF [] n = JY) := hJY
        clear hJY
        obtain ⟨JY1, JY2⟩ := JY
        dsimp only at c13
        go_wp2_with fail
        refine c13.mono ?_
        rintro e w13 ⟨v13, rfl, hO13, hB13⟩
        clear c13
        replace hB := chain hB hB13
        replace Rf := Rf.below hB13
        replace Rg := Rg.below hB13
        replace Rh := Rh.below hB13
        replace R1 := R1.below hB13
        replace R2 := R2.below hB13
        replace R3 := R3.below hB13
        replace R4 := R4.below hB13
        replace R5 := R5.below hB13
        replace R6 := R6.below hB13
        replace R7 := R7.below hB13
        replace R8 := R8.below hB13
        replace R9 := R9.below hB13
        have R10 := OwnsC.frow hO13
        obtain ⟨p13, q13, rfl⟩ := OwnsC.len hO13
        go_wp2_with fail
        refine (told_any _ _ w13 ⟨_, _, _, rfl⟩).mono ?_
        rintro e wt ⟨rfl, hwt⟩
        replace hwt := hwt.symm
        subst hwt
        go_wp2
        go_ret
        exact ⟨rfl, hB⟩
      · go_wp2_with fail
        refine c12.mono ?_
        rintro e w12 ⟨v12, rfl, hO12, hB12⟩
        clear c12
        replace hB := chain hB hB12
        replace Rf := Rf.below hB12
        replace Rg := Rg.below hB12
        replace Rh := Rh.below hB12
        replace R1 := R1.below hB12
        replace R2 := R2.below hB12
        replace R3 := R3.below hB12
        replace R4 := R4.below hB12
        replace R5 := R5.below hB12
        replace R6 := R6.below hB12
        replace R7 := R7.below hB12
        replace R8 := R8.below hB12
        have R9 := OwnsC.frow hO12
        obtain ⟨p12, q12, rfl⟩ := OwnsC.len hO12
        go_wp2_with fail
        refine (told_f _ _ w12 ⟨_, _, _, rfl⟩ t).mono ?_
        rintro e wt ⟨rfl, hwt⟩
        replace hwt := hwt.symm
        subst hwt
        have c13 := Join_any [] n _ _ w12 R1 Rh (by simp) (by omega)
        generalize hJY : joinF [] n = JY at c13
        have HJY : Hid (joinF [] n = JY) := hJY
        clear hJY
        obtain ⟨JY1, JY2⟩ := JY
        dsimp only at c13
        go_wp2_with fail
        refine c13.mono ?_
        rintro e w13 ⟨v13, rfl, hO13, hB13⟩
        clear c13
        replace hB := chain hB hB13
        replace Rf := Rf.below hB13
        replace Rg := Rg.below hB13
        replace Rh := Rh.below hB13
        replace R1 := R1.below hB13
        replace R2 := R2.below hB13
        replace R3 := R3.below hB13
        replace R4 := R4.below hB13
        replace R5 := R5.below hB13
        replace R6 := R6.below hB13
        replace R7 := R7.below hB13
        replace R8 := R8.below hB13
        replace R9 := R9.below hB13
        have R10 := OwnsC.frow hO13
        obtain ⟨p13, q13, rfl⟩ := OwnsC.len hO13
        go_wp2_with fail
        refine (told_any _ _ w13 ⟨_, _, _, rfl⟩).mono ?_
        rintro e wt ⟨rfl, hwt⟩
        replace hwt := hwt.symm
        subst hwt
        go_wp2
        go_ret
        exact ⟨rfl, hB⟩
  · go_wp2_with fail
    refine c8.mono ?_
    rintro e w8 ⟨v8, rfl, hO8, hB8⟩
    clear c8
    replace hB := chain hB hB8
    replace Rf := Rf.below hB8
    replace Rg := Rg.below hB8
    replace Rh := Rh.below hB8
    replace R1 := R1.below hB8
    replace R2 := R2.below hB8
    replace R3 := R3.below hB8
    replace R4 := R4.below hB8
    have R5 := OwnsC.frow hO8
    obtain ⟨p8, q8, rfl⟩ := OwnsC.len hO8
    go_wp2_with fail
    refine (told_f _ _ w8 ⟨_, _, _, rfl⟩ p).mono ?_
    rintro e wt ⟨rfl, hwt⟩
    replace hwt := hwt.symm
    subst hwt
    have c9 := Meet_any l GH1 _ _ w8 Rf R5 (by omega) (by omega)
    generalize hML : meetF l GH1 = ML at c9
    have HML : Hid (meetF l GH1 = ML) := hML
    clear hML
    obtain ⟨ML1, ML2⟩ := ML
    dsimp only at c9
    go_wp2_with fail
    refine c9.mono ?_
    rintro e w9 ⟨v9, rfl, hO9, hB9⟩
    clear c9
    replace hB := chain hB hB9
    replace Rf := Rf.below hB9
    replace Rg := Rg.below hB9
    replace Rh := Rh.below hB9
    replace R1 := R1.below hB9
    replace R2 := R2.below hB9
    replace R3 := R3.below hB9
    replace R4 := R4.below hB9
    replace R5 := R5.below hB9
    have R6 := OwnsC.frow hO9
    obtain ⟨p9, q9, rfl⟩ := OwnsC.len hO9
    go_wp2_with fail
    refine (told_any _ _ w9 ⟨_, _, _, rfl⟩).mono ?_
    rintro e wt ⟨rfl, hwt⟩
    replace hwt := hwt.symm
    subst hwt
    have c10 := Meet_any l n _ _ w9 Rf Rh (by omega) (by omega)
    generalize hMR : meetF l n = MR at c10
    have HMR : Hid (meetF l n = MR) := hMR
    clear hMR
    obtain ⟨MR1, MR2⟩ := MR
    dsimp only at c10
    have LMR : MR1.length ≤ 64 := by have := meetF_len l n; rw [HMR.out] at this; exact this
    go_wp2_with fail
    refine c10.mono ?_
    rintro e w10 ⟨v10, rfl, hO10, hB10⟩
    clear c10
    replace hB := chain hB hB10
    replace Rf := Rf.below hB10
    replace Rg := Rg.below hB10
    replace Rh := Rh.below hB10
    replace R1 := R1.below hB10
    replace R2 := R2.below hB10
    replace R3 := R3.below hB10
    replace R4 := R4.below hB10
    replace R5 := R5.below hB10
    replace R6 := R6.below hB10
    have R7 := OwnsC.frow hO10
    obtain ⟨p10, q10, rfl⟩ := OwnsC.len hO10
    go_wp2_with fail
    refine (told_any _ _ w10 ⟨_, _, _, rfl⟩).mono ?_
    rintro e wt ⟨rfl, hwt⟩
    replace hwt := hwt.symm
    subst hwt
    have c11 := Join_any [] MR1 _ _ w10 R3 R7 (by simp) (by omega)
    generalize hJS : joinF [] MR1 = JS at c11
    have HJS : Hid (joinF [] MR1 = JS) := hJS
    clear hJS
    obtain ⟨JS1, JS2⟩ := JS
    dsimp only at c11
    go_wp2_with fail
    refine c11.mono ?_
    rintro e w11 ⟨v11, rfl, hO11, hB11⟩
    clear c11
    replace hB := chain hB hB11
    replace Rf := Rf.below hB11
    replace Rg := Rg.below hB11
    replace Rh := Rh.below hB11
    replace R1 := R1.below hB11
    replace R2 := R2.below hB11
    replace R3 := R3.below hB11
    replace R4 := R4.below hB11
    replace R5 := R5.below hB11
    replace R6 := R6.below hB11
    replace R7 := R7.below hB11
    have R8 := OwnsC.frow hO11
    obtain ⟨p11, q11, rfl⟩ := OwnsC.len hO11
    go_wp2_with fail
    refine (told_any _ _ w11 ⟨_, _, _, rfl⟩).mono ?_
    rintro e wt ⟨rfl, hwt⟩
    replace hwt := hwt.symm
    subst hwt
    have c12 := Join_any l GH1 _ _ w11 Rf R5 (by omega) (by omega)
    generalize hJX : joinF l GH1 = JX at c12
    have HJX : Hid (joinF l GH1 = JX) := hJX
    clear hJX
    obtain ⟨JX1, JX2⟩ := JX
    dsimp only at c12
    go_wp2_with fail
    refine c12.mono ?_
    rintro e w12 ⟨v12, rfl, hO12, hB12⟩
    clear c12
    replace hB := chain hB hB12
    replace Rf := Rf.below hB12
    replace Rg := Rg.below hB12
    replace Rh := Rh.below hB12
    replace R1 := R1.below hB12
    replace R2 := R2.below hB12
    replace R3 := R3.below hB12
    replace R4 := R4.below hB12
    replace R5 := R5.below hB12
    replace R6 := R6.below hB12
    replace R7 := R7.below hB12
    replace R8 := R8.below hB12
    have R9 := OwnsC.frow hO12
    obtain ⟨p12, q12, rfl⟩ := OwnsC.len hO12
    go_wp2_with fail
    refine (told_any _ _ w12 ⟨_, _, _, rfl⟩).mono ?_
    rintro e wt ⟨rfl, hwt⟩
    replace hwt := hwt.symm
    subst hwt
    have c13 := Join_any [] n _ _ w12 R1 Rh (by simp) (by omega)
    generalize hJY : joinF [] n = JY at c13
    have HJY : Hid (joinF [] n = JY) := hJY
    clear hJY
    obtain ⟨JY1, JY2⟩ := JY
    dsimp only at c13
    go_wp2_with fail
    refine c13.mono ?_
    rintro e w13 ⟨v13, rfl, hO13, hB13⟩
    clear c13
    replace hB := chain hB hB13
    replace Rf := Rf.below hB13
    replace Rg := Rg.below hB13
    replace Rh := Rh.below hB13
    replace R1 := R1.below hB13
    replace R2 := R2.below hB13
    replace R3 := R3.below hB13
    replace R4 := R4.below hB13
    replace R5 := R5.below hB13
    replace R6 := R6.below hB13
    replace R7 := R7.below hB13
    replace R8 := R8.below hB13
    replace R9 := R9.below hB13
    have R10 := OwnsC.frow hO13
    obtain ⟨p13, q13, rfl⟩ := OwnsC.len hO13
    go_wp2_with fail
    refine (told_any _ _ w13 ⟨_, _, _, rfl⟩).mono ?_
    rintro e wt ⟨rfl, hwt⟩
    replace hwt := hwt.symm
    subst hwt
    go_wp2
    go_ret
    exact ⟨rfl, hB⟩
set_option maxRecDepth 100000 in
set_option maxHeartbeats 8000000 in
theorem lattice_T (l m n : List C) (vl vm vn : Value) (w : World) (Rf : FRow w vl l) (Rg : FRow w vm m) (Rh : FRow w vn n) (hl : l.length ≤ 20) (hm : m.length ≤ 20) (hn : n.length ≤ 20) (hf : rightF l = true) (hg : rightF m = true) :
    Calls Try.prog 6 #[vl, vm, vn] w fun e w' => e = .returned (.bool true) ∧ Below w.heap.size w w' := by
  obtain ⟨J, hJ⟩ : ∃ J, joinF l m = (J, 0) := ⟨_, joinF_small hf hg (by omega)⟩
  have HJ : Hid (joinF l m = (J, 0)) := hJ
  have HJ2 : Hid (joinF m l = (J, 0)) := (joinF_comm m l).trans hJ
  have HX : Hid (meetF l J = (l, 0)) := by
    have h := absorb_meet_told (f := l) (g := m) (by rw [hJ])
    rw [hJ] at h
    exact h
  have HYall : Hid ((meetF l m).2 = 0 → joinF l (meetF l m).1 = (l, 0)) := fun h => absorb_join_told h
  have LJ : J.length ≤ 40 := by
    have := joinF_small hf hg (by omega)
    rw [hJ] at this
    have h2 := lstN_length (l ++ m)
    rw [List.length_append] at h2
    rw [(Prod.mk.inj this).1]
    omega
  have Hf : Hid (rightF l = true) := hf
  have Hg : Hid (rightF m = true) := hg
  clear hJ hf hg
  have hl2 : ¬ (20 < (l.length : Int)) := by omega
  have hm2 : ¬ (20 < (m.length : Int)) := by omega
  have hn2 : ¬ (20 < (n.length : Int)) := by omega
  have hB : Below w.heap.size w w := Below.refl _ _
  obtain ⟨pl, cl, rfl⟩ := Rf.len
  obtain ⟨pm, cm, rfl⟩ := Rg.len
  obtain ⟨pn, cn, rfl⟩ := Rh.len
  go_enter Try.func6, Try.ntmps6
  go_wp2_with fail
  refine (fworks_any w).mono ?_
  rintro e w1 ⟨rfl, hB1⟩
  replace hB := chain hB hB1
  replace Rf := Rf.below hB1
  replace Rg := Rg.below hB1
  replace Rh := Rh.below hB1
  have c2 := Join_any l m _ _ w1 Rf Rg (by omega) (by omega)
  rw [HJ.out] at c2
  dsimp only at c2
  go_wp2_with fail
  refine c2.mono ?_
  rintro e w2 ⟨v2, rfl, hO2, hB2⟩
  clear c2
  replace hB := chain hB hB2
  replace Rf := Rf.below hB2
  replace Rg := Rg.below hB2
  replace Rh := Rh.below hB2
  have R1 := OwnsC.frow hO2
  obtain ⟨p2, q2, rfl⟩ := OwnsC.len hO2
  go_wp2_with fail
  refine (told_t _ _ w2 ⟨_, _, _, rfl⟩ rfl).mono ?_
  rintro e wt ⟨rfl, hwt⟩
  replace hwt := hwt.symm
  subst hwt
  have c3 := Join_any m l _ _ w2 Rg Rf (by omega) (by omega)
  rw [HJ2.out] at c3
  dsimp only at c3
  go_wp2_with fail
  refine c3.mono ?_
  rintro e w3 ⟨v3, rfl, hO3, hB3⟩
  clear c3
  replace hB := chain hB hB3
  replace Rf := Rf.below hB3
  replace Rg := Rg.below hB3
  replace Rh := Rh.below hB3
  replace R1 := R1.below hB3
  have R2 := OwnsC.frow hO3
  obtain ⟨p3, q3, rfl⟩ := OwnsC.len hO3
  go_wp2_with fail
  refine (told_t _ _ w3 ⟨_, _, _, rfl⟩ rfl).mono ?_
  rintro e wt ⟨rfl, hwt⟩
  replace hwt := hwt.symm
  subst hwt
  have LM : (meetF l m).1.length ≤ 64 := meetF_len l m
  have HMm : Hid (meetF m l = meetF l m) := meetF_comm m l
  have c4 := Meet_any l m _ _ w3 Rf Rg (by omega) (by omega)
  generalize hMM : meetF l m = MM at c4
  have HMM : Hid (meetF l m = MM) := hMM
  clear hMM
  obtain ⟨MM1, MM2⟩ := MM
  dsimp only at c4
  rw [HMM.out] at LM HMm
  dsimp only at LM
  by_cases c : MM2 = 0
  · obtain rfl : MM2 = 0 := c
    go_wp2_with fail
    refine c4.mono ?_
    rintro e w4 ⟨v4, rfl, hO4, hB4⟩
    clear c4
    replace hB := chain hB hB4
    replace Rf := Rf.below hB4
    replace Rg := Rg.below hB4
    replace Rh := Rh.below hB4
    replace R1 := R1.below hB4
    replace R2 := R2.below hB4
    have R3 := OwnsC.frow hO4
    obtain ⟨p4, q4, rfl⟩ := OwnsC.len hO4
    go_wp2_with fail
    refine (told_t _ _ w4 ⟨_, _, _, rfl⟩ rfl).mono ?_
    rintro e wt ⟨rfl, hwt⟩
    replace hwt := hwt.symm
    subst hwt
    have c5 := Meet_any m l _ _ w4 Rg Rf (by omega) (by omega)
    rw [HMm.out] at c5
    dsimp only at c5
    go_wp2_with fail
    refine c5.mono ?_
    rintro e w5 ⟨v5, rfl, hO5, hB5⟩
    clear c5
    replace hB := chain hB hB5
    replace Rf := Rf.below hB5
    replace Rg := Rg.below hB5
    replace Rh := Rh.below hB5
    replace R1 := R1.below hB5
    replace R2 := R2.below hB5
    replace R3 := R3.below hB5
    have R4 := OwnsC.frow hO5
    obtain ⟨p5, q5, rfl⟩ := OwnsC.len hO5
    go_wp2_with fail
    refine (told_t _ _ w5 ⟨_, _, _, rfl⟩ rfl).mono ?_
    rintro e wt ⟨rfl, hwt⟩
    replace hwt := hwt.symm
    subst hwt
    have c6 := same_any J J _ _ w5 R1.row R2.row (by omega)
    rw [decide_eq_true rfl] at c6
    go_wp2_with fail
    refine c6.mono ?_
    rintro e w6 ⟨rfl, hB6⟩
    clear c6
    replace hB := chain hB hB6
    replace Rf := Rf.below hB6
    replace Rg := Rg.below hB6
    replace Rh := Rh.below hB6
    replace R1 := R1.below hB6
    replace R2 := R2.below hB6
    replace R3 := R3.below hB6
    replace R4 := R4.below hB6
    have c7 := same_any MM1 MM1 _ _ w6 R3.row R4.row (by omega)
    rw [decide_eq_true rfl] at c7
    go_wp2_with fail
    refine c7.mono ?_
    rintro e w7 ⟨rfl, hB7⟩
    clear c7
    replace hB := chain hB hB7
    replace Rf := Rf.below hB7
    replace Rg := Rg.below hB7
    replace Rh := Rh.below hB7
    replace R1 := R1.below hB7
    replace R2 := R2.below hB7
    replace R3 := R3.below hB7
    replace R4 := R4.below hB7
    have c8 := fright_any l _ w7 Rf (by omega)
    rw [Hf.out] at c8
    go_wp2_with fail
    refine c8.mono ?_
    rintro e w8 ⟨rfl, hB8⟩
    clear c8
    replace hB := chain hB hB8
    replace Rf := Rf.below hB8
    replace Rg := Rg.below hB8
    replace Rh := Rh.below hB8
    replace R1 := R1.below hB8
    replace R2 := R2.below hB8
    replace R3 := R3.below hB8
    replace R4 := R4.below hB8
    have c9 := Meet_any l J _ _ w8 Rf R1 (by omega) (by omega)
    rw [HX.out] at c9
    dsimp only at c9
    go_wp2_with fail
    refine c9.mono ?_
    rintro e w9 ⟨v9, rfl, hO9, hB9⟩
    clear c9
    replace hB := chain hB hB9
    replace Rf := Rf.below hB9
    replace Rg := Rg.below hB9
    replace Rh := Rh.below hB9
    replace R1 := R1.below hB9
    replace R2 := R2.below hB9
    replace R3 := R3.below hB9
    replace R4 := R4.below hB9
    have R5 := OwnsC.frow hO9
    obtain ⟨p9, q9, rfl⟩ := OwnsC.len hO9
    go_wp2_with fail
    refine (told_t _ _ w9 ⟨_, _, _, rfl⟩ rfl).mono ?_
    rintro e wt ⟨rfl, hwt⟩
    replace hwt := hwt.symm
    subst hwt
    have c10 := same_any l l _ _ w9 R5.row Rf.row (by omega)
    rw [decide_eq_true rfl] at c10
    go_wp2_with fail
    refine c10.mono ?_
    rintro e w10 ⟨rfl, hB10⟩
    clear c10
    replace hB := chain hB hB10
    replace Rf := Rf.below hB10
    replace Rg := Rg.below hB10
    replace Rh := Rh.below hB10
    replace R1 := R1.below hB10
    replace R2 := R2.below hB10
    replace R3 := R3.below hB10
    replace R4 := R4.below hB10
    replace R5 := R5.below hB10
    have c11 := fright_any l _ w10 Rf (by omega)
    rw [Hf.out] at c11
    go_wp2_with fail
    refine c11.mono ?_
    rintro e w11 ⟨rfl, hB11⟩
    clear c11
    replace hB := chain hB hB11
    replace Rf := Rf.below hB11
    replace Rg := Rg.below hB11
    replace Rh := Rh.below hB11
    replace R1 := R1.below hB11
    replace R2 := R2.below hB11
    replace R3 := R3.below hB11
    replace R4 := R4.below hB11
    replace R5 := R5.below hB11
    have HY : Hid (joinF l MM1 = (l, 0)) := by have h := HYall.out (by rw [HMM.out]); rw [HMM.out] at h; exact h
    have c12 := Join_any l MM1 _ _ w11 Rf R3 (by omega) (by omega)
    rw [HY.out] at c12
    dsimp only at c12
    go_wp2_with fail
    refine c12.mono ?_
    rintro e w12 ⟨v12, rfl, hO12, hB12⟩
    clear c12
    replace hB := chain hB hB12
    replace Rf := Rf.below hB12
    replace Rg := Rg.below hB12
    replace Rh := Rh.below hB12
    replace R1 := R1.below hB12
    replace R2 := R2.below hB12
    replace R3 := R3.below hB12
    replace R4 := R4.below hB12
    replace R5 := R5.below hB12
    have R6 := OwnsC.frow hO12
    obtain ⟨p12, q12, rfl⟩ := OwnsC.len hO12
    go_wp2_with fail
    refine (told_t _ _ w12 ⟨_, _, _, rfl⟩ rfl).mono ?_
    rintro e wt ⟨rfl, hwt⟩
    replace hwt := hwt.symm
    subst hwt
    have c13 := same_any l l _ _ w12 R6.row Rf.row (by omega)
    rw [decide_eq_true rfl] at c13
    go_wp2_with fail
    refine c13.mono ?_
    rintro e w13 ⟨rfl, hB13⟩
    clear c13
    replace hB := chain hB hB13
    replace Rf := Rf.below hB13
    replace Rg := Rg.below hB13
    replace Rh := Rh.below hB13
    replace R1 := R1.below hB13
    replace R2 := R2.below hB13
    replace R3 := R3.below hB13
    replace R4 := R4.below hB13
    replace R5 := R5.below hB13
    replace R6 := R6.below hB13
    cases hh : rightF n
    · have HG : Hid (joinF m n = ([], 2)) := by show joinF m n = ([], 2); unfold joinF; rw [hh, Bool.and_false]; rfl
      have c14 := Join_any m n _ _ w13 Rg Rh (by omega) (by omega)
      rw [HG.out] at c14
      dsimp only at c14
      go_wp2_with fail
      refine c14.mono ?_
      rintro e w14 ⟨v14, rfl, hO14, hB14⟩
      clear c14
      replace hB := chain hB hB14
      replace Rf := Rf.below hB14
      replace Rg := Rg.below hB14
      replace Rh := Rh.below hB14
      replace R1 := R1.below hB14
      replace R2 := R2.below hB14
      replace R3 := R3.below hB14
      replace R4 := R4.below hB14
      replace R5 := R5.below hB14
      replace R6 := R6.below hB14
      have R11 := OwnsC.frow hO14
      obtain ⟨p14, q14, rfl⟩ := OwnsC.len hO14
      go_wp2_with fail
      refine (told_f _ _ w14 ⟨_, _, _, rfl⟩ (by decide)).mono ?_
      rintro e wt ⟨rfl, hwt⟩
      replace hwt := hwt.symm
      subst hwt
      have c15 := Meet_any l [] _ _ w14 Rf R11 (by omega) (by simp)
      generalize hML : meetF l [] = ML at c15
      have HML : Hid (meetF l [] = ML) := hML
      clear hML
      obtain ⟨ML1, ML2⟩ := ML
      dsimp only at c15
      go_wp2_with fail
      refine c15.mono ?_
      rintro e w15 ⟨v15, rfl, hO15, hB15⟩
      clear c15
      replace hB := chain hB hB15
      replace Rf := Rf.below hB15
      replace Rg := Rg.below hB15
      replace Rh := Rh.below hB15
      replace R1 := R1.below hB15
      replace R2 := R2.below hB15
      replace R3 := R3.below hB15
      replace R4 := R4.below hB15
      replace R5 := R5.below hB15
      replace R6 := R6.below hB15
      replace R11 := R11.below hB15
      have R12 := OwnsC.frow hO15
      obtain ⟨p15, q15, rfl⟩ := OwnsC.len hO15
      go_wp2_with fail
      refine (told_any _ _ w15 ⟨_, _, _, rfl⟩).mono ?_
      rintro e wt ⟨rfl, hwt⟩
      replace hwt := hwt.symm
      subst hwt
      have c16 := Meet_any l n _ _ w15 Rf Rh (by omega) (by omega)
      generalize hMR : meetF l n = MR at c16
      have HMR : Hid (meetF l n = MR) := hMR
      clear hMR
      obtain ⟨MR1, MR2⟩ := MR
      dsimp only at c16
      have LMR : MR1.length ≤ 64 := by have := meetF_len l n; rw [HMR.out] at this; exact this
      go_wp2_with fail
      refine c16.mono ?_
      rintro e w16 ⟨v16, rfl, hO16, hB16⟩
      clear c16
      replace hB := chain hB hB16
      replace Rf := Rf.below hB16
      replace Rg := Rg.below hB16
      replace Rh := Rh.below hB16
      replace R1 := R1.below hB16
      replace R2 := R2.below hB16
      replace R3 := R3.below hB16
      replace R4 := R4.below hB16
      replace R5 := R5.below hB16
      replace R6 := R6.below hB16
      replace R11 := R11.below hB16
      replace R12 := R12.below hB16
      have R13 := OwnsC.frow hO16
      obtain ⟨p16, q16, rfl⟩ := OwnsC.len hO16
      go_wp2_with fail
      refine (told_any _ _ w16 ⟨_, _, _, rfl⟩).mono ?_
      rintro e wt ⟨rfl, hwt⟩
      replace hwt := hwt.symm
      subst hwt
      have c17 := Join_any MM1 MR1 _ _ w16 R3 R13 (by first | omega | simp) (by omega)
      generalize hJS : joinF MM1 MR1 = JS at c17
      have HJS : Hid (joinF MM1 MR1 = JS) := hJS
      clear hJS
      obtain ⟨JS1, JS2⟩ := JS
      dsimp only at c17
      go_wp2_with fail
      refine c17.mono ?_
      rintro e w17 ⟨v17, rfl, hO17, hB17⟩
      clear c17
      replace hB := chain hB hB17
      replace Rf := Rf.below hB17
      replace Rg := Rg.below hB17
      replace Rh := Rh.below hB17
      replace R1 := R1.below hB17
      replace R2 := R2.below hB17
      replace R3 := R3.below hB17
      replace R4 := R4.below hB17
      replace R5 := R5.below hB17
      replace R6 := R6.below hB17
      replace R11 := R11.below hB17
      replace R12 := R12.below hB17
      replace R13 := R13.below hB17
      have R14 := OwnsC.frow hO17
      obtain ⟨p17, q17, rfl⟩ := OwnsC.len hO17
      go_wp2_with fail
      refine (told_any _ _ w17 ⟨_, _, _, rfl⟩).mono ?_
      rintro e wt ⟨rfl, hwt⟩
      replace hwt := hwt.symm
      subst hwt
      have c18 := Join_any l [] _ _ w17 Rf R11 (by omega) (by simp)
      generalize hJX : joinF l [] = JX at c18
      have HJX : Hid (joinF l [] = JX) := hJX
      clear hJX
      obtain ⟨JX1, JX2⟩ := JX
      dsimp only at c18
      go_wp2_with fail
      refine c18.mono ?_
      rintro e w18 ⟨v18, rfl, hO18, hB18⟩
      clear c18
      replace hB := chain hB hB18
      replace Rf := Rf.below hB18
      replace Rg := Rg.below hB18
      replace Rh := Rh.below hB18
      replace R1 := R1.below hB18
      replace R2 := R2.below hB18
      replace R3 := R3.below hB18
      replace R4 := R4.below hB18
      replace R5 := R5.below hB18
      replace R6 := R6.below hB18
      replace R11 := R11.below hB18
      replace R12 := R12.below hB18
      replace R13 := R13.below hB18
      replace R14 := R14.below hB18
      have R15 := OwnsC.frow hO18
      obtain ⟨p18, q18, rfl⟩ := OwnsC.len hO18
      go_wp2_with fail
      refine (told_any _ _ w18 ⟨_, _, _, rfl⟩).mono ?_
      rintro e wt ⟨rfl, hwt⟩
      replace hwt := hwt.symm
      subst hwt
      have c19 := Join_any J n _ _ w18 R1 Rh (by omega) (by omega)
      generalize hJY : joinF J n = JY at c19
      have HJY : Hid (joinF J n = JY) := hJY
      clear hJY
      obtain ⟨JY1, JY2⟩ := JY
      dsimp only at c19
      go_wp2_with fail
      refine c19.mono ?_
      rintro e w19 ⟨v19, rfl, hO19, hB19⟩
      clear c19
      replace hB := chain hB hB19
      replace Rf := Rf.below hB19
      replace Rg := Rg.below hB19
      replace Rh := Rh.below hB19
      replace R1 := R1.below hB19
      replace R2 := R2.below hB19
      replace R3 := R3.below hB19
      replace R4 := R4.below hB19
      replace R5 := R5.below hB19
      replace R6 := R6.below hB19
      replace R11 := R11.below hB19
      replace R12 := R12.below hB19
      replace R13 := R13.below hB19
      replace R14 := R14.below hB19
      replace R15 := R15.below hB19
      have R16 := OwnsC.frow hO19
      obtain ⟨p19, q19, rfl⟩ := OwnsC.len hO19
      go_wp2_with fail
      refine (told_any _ _ w19 ⟨_, _, _, rfl⟩).mono ?_
      rintro e wt ⟨rfl, hwt⟩
      replace hwt := hwt.symm
      subst hwt
      go_wp2
      go_ret
      exact ⟨rfl, hB⟩
    · obtain ⟨GH, hGH⟩ : ∃ GH, joinF m n = (GH, 0) := ⟨_, joinF_small Hg.out hh (by omega)⟩
      have HG : Hid (joinF m n = (GH, 0)) := hGH
      have LG : GH.length ≤ 40 := by have := joinF_small Hg.out hh (by omega); rw [hGH] at this; have h2 := lstN_length (m ++ n); rw [List.length_append] at h2; rw [(Prod.mk.inj this).1]; omega
      clear hGH
      have rG : rightF GH = true := by have := joinF_right m n; rw [HG.out] at this; exact this
      have rJ : rightF J = true := by have := joinF_right l m; rw [HJ.out] at this; exact this
      obtain ⟨U, hU⟩ : ∃ U, joinF l GH = (U, 0) := ⟨_, joinF_small Hf.out rG (by omega)⟩
      have HU : Hid (joinF l GH = (U, 0)) := hU
      clear hU
      have HV : Hid (joinF J n = (U, 0)) := by
        have h0 := joinF_small rJ hh (by omega)
        have h1 := assoc (f := l) (g := m) (h := n) (by rw [HG.out]) (by rw [HG.out, HU.out]) (by rw [HJ.out]) (by rw [HJ.out, h0])
        rw [HG.out, HU.out, HJ.out] at h1
        show joinF J n = (U, 0)
        have h2 : (joinF J n).2 = 0 := by rw [h0]
        exact Prod.ext h1.symm h2
      have LU : U.length ≤ 64 := by have := joinF_len l GH; rw [HU.out] at this; exact this
      clear rG rJ
      have c14 := Join_any m n _ _ w13 Rg Rh (by omega) (by omega)
      rw [HG.out] at c14
      dsimp only at c14
      go_wp2_with fail
      refine c14.mono ?_
      rintro e w14 ⟨v14, rfl, hO14, hB14⟩
      clear c14
      replace hB := chain hB hB14
      replace Rf := Rf.below hB14
      replace Rg := Rg.below hB14
      replace Rh := Rh.below hB14
      replace R1 := R1.below hB14
      replace R2 := R2.below hB14
      replace R3 := R3.below hB14
      replace R4 := R4.below hB14
      replace R5 := R5.below hB14
      replace R6 := R6.below hB14
      have R11 := OwnsC.frow hO14
      obtain ⟨p14, q14, rfl⟩ := OwnsC.len hO14
      go_wp2_with fail
      refine (told_t _ _ w14 ⟨_, _, _, rfl⟩ rfl).mono ?_
      rintro e wt ⟨rfl, hwt⟩
      replace hwt := hwt.symm
      subst hwt
      have c15 := Meet_any l GH _ _ w14 Rf R11 (by omega) (by omega)
      generalize hML : meetF l GH = ML at c15
      have HML : Hid (meetF l GH = ML) := hML
      clear hML
      obtain ⟨ML1, ML2⟩ := ML
      dsimp only at c15
      have LML : ML1.length ≤ 64 := by have := meetF_len l GH; rw [HML.out] at this; exact this
      by_cases q : ML2 = 0
      · obtain rfl : ML2 = 0 := q
        go_wp2_with fail
        refine c15.mono ?_
        rintro e w15 ⟨v15, rfl, hO15, hB15⟩
        clear c15
        replace hB := chain hB hB15
        replace Rf := Rf.below hB15
        replace Rg := Rg.below hB15
        replace Rh := Rh.below hB15
        replace R1 := R1.below hB15
        replace R2 := R2.below hB15
        replace R3 := R3.below hB15
        replace R4 := R4.below hB15
        replace R5 := R5.below hB15
        replace R6 := R6.below hB15
        replace R11 := R11.below hB15
        have R12 := OwnsC.frow hO15
        obtain ⟨p15, q15, rfl⟩ := OwnsC.len hO15
        go_wp2_with fail
        refine (told_t _ _ w15 ⟨_, _, _, rfl⟩ rfl).mono ?_
        rintro e wt ⟨rfl, hwt⟩
        replace hwt := hwt.symm
        subst hwt
        have c16 := Meet_any l n _ _ w15 Rf Rh (by omega) (by omega)
        generalize hMR : meetF l n = MR at c16
        have HMR : Hid (meetF l n = MR) := hMR
        clear hMR
        obtain ⟨MR1, MR2⟩ := MR
        dsimp only at c16
        have LMR : MR1.length ≤ 64 := by have := meetF_len l n; rw [HMR.out] at this; exact this
        by_cases r : MR2 = 0
        · obtain rfl : MR2 = 0 := r
          have HS : Hid (joinF MM1 MR1 = (ML1, 0)) := by
            have h := distrib_told (f := l) (g := m) (h := n) (by rw [HG.out]) (by rw [HG.out, HML.out]) (by rw [HMM.out]) (by rw [HMR.out])
            rw [HG.out, HMM.out, HMR.out, HML.out] at h
            exact h
          go_wp2_with fail
          refine c16.mono ?_
          rintro e w16 ⟨v16, rfl, hO16, hB16⟩
          clear c16
          replace hB := chain hB hB16
          replace Rf := Rf.below hB16
          replace Rg := Rg.below hB16
          replace Rh := Rh.below hB16
          replace R1 := R1.below hB16
          replace R2 := R2.below hB16
          replace R3 := R3.below hB16
          replace R4 := R4.below hB16
          replace R5 := R5.below hB16
          replace R6 := R6.below hB16
          replace R11 := R11.below hB16
          replace R12 := R12.below hB16
          have R13 := OwnsC.frow hO16
          obtain ⟨p16, q16, rfl⟩ := OwnsC.len hO16
          go_wp2_with fail
          refine (told_t _ _ w16 ⟨_, _, _, rfl⟩ rfl).mono ?_
          rintro e wt ⟨rfl, hwt⟩
          replace hwt := hwt.symm
          subst hwt
          have c17 := Join_any MM1 MR1 _ _ w16 R3 R13 (by omega) (by omega)
          rw [HS.out] at c17
          dsimp only at c17
          go_wp2_with fail
          refine c17.mono ?_
          rintro e w17 ⟨v17, rfl, hO17, hB17⟩
          clear c17
          replace hB := chain hB hB17
          replace Rf := Rf.below hB17
          replace Rg := Rg.below hB17
          replace Rh := Rh.below hB17
          replace R1 := R1.below hB17
          replace R2 := R2.below hB17
          replace R3 := R3.below hB17
          replace R4 := R4.below hB17
          replace R5 := R5.below hB17
          replace R6 := R6.below hB17
          replace R11 := R11.below hB17
          replace R12 := R12.below hB17
          replace R13 := R13.below hB17
          have R14 := OwnsC.frow hO17
          obtain ⟨p17, q17, rfl⟩ := OwnsC.len hO17
          go_wp2_with fail
          refine (told_t _ _ w17 ⟨_, _, _, rfl⟩ rfl).mono ?_
          rintro e wt ⟨rfl, hwt⟩
          replace hwt := hwt.symm
          subst hwt
          have c18 := same_any ML1 ML1 _ _ w17 R12.row R14.row (by omega)
          rw [decide_eq_true rfl] at c18
          go_wp2_with fail
          refine c18.mono ?_
          rintro e w18 ⟨rfl, hB18⟩
          clear c18
          replace hB := chain hB hB18
          replace Rf := Rf.below hB18
          replace Rg := Rg.below hB18
          replace Rh := Rh.below hB18
          replace R1 := R1.below hB18
          replace R2 := R2.below hB18
          replace R3 := R3.below hB18
          replace R4 := R4.below hB18
          replace R5 := R5.below hB18
          replace R6 := R6.below hB18
          replace R11 := R11.below hB18
          replace R12 := R12.below hB18
          replace R13 := R13.below hB18
          replace R14 := R14.below hB18
          have c19 := Join_any l GH _ _ w18 Rf R11 (by omega) (by omega)
          rw [HU.out] at c19
          dsimp only at c19
          go_wp2_with fail
          refine c19.mono ?_
          rintro e w19 ⟨v19, rfl, hO19, hB19⟩
          clear c19
          replace hB := chain hB hB19
          replace Rf := Rf.below hB19
          replace Rg := Rg.below hB19
          replace Rh := Rh.below hB19
          replace R1 := R1.below hB19
          replace R2 := R2.below hB19
          replace R3 := R3.below hB19
          replace R4 := R4.below hB19
          replace R5 := R5.below hB19
          replace R6 := R6.below hB19
          replace R11 := R11.below hB19
          replace R12 := R12.below hB19
          replace R13 := R13.below hB19
          replace R14 := R14.below hB19
          have R15 := OwnsC.frow hO19
          obtain ⟨p19, q19, rfl⟩ := OwnsC.len hO19
          go_wp2_with fail
          refine (told_t _ _ w19 ⟨_, _, _, rfl⟩ rfl).mono ?_
          rintro e wt ⟨rfl, hwt⟩
          replace hwt := hwt.symm
          subst hwt
          have c20 := Join_any J n _ _ w19 R1 Rh (by omega) (by omega)
          rw [HV.out] at c20
          dsimp only at c20
          go_wp2_with fail
          refine c20.mono ?_
          rintro e w20 ⟨v20, rfl, hO20, hB20⟩
          clear c20
          replace hB := chain hB hB20
          replace Rf := Rf.below hB20
          replace Rg := Rg.below hB20
          replace Rh := Rh.below hB20
          replace R1 := R1.below hB20
          replace R2 := R2.below hB20
          replace R3 := R3.below hB20
          replace R4 := R4.below hB20
          replace R5 := R5.below hB20
          replace R6 := R6.below hB20
          replace R11 := R11.below hB20
          replace R12 := R12.below hB20
          replace R13 := R13.below hB20
          replace R14 := R14.below hB20
          replace R15 := R15.below hB20
          have R16 := OwnsC.frow hO20
          obtain ⟨p20, q20, rfl⟩ := OwnsC.len hO20
          go_wp2_with fail
          refine (told_t _ _ w20 ⟨_, _, _, rfl⟩ rfl).mono ?_
          rintro e wt ⟨rfl, hwt⟩
          replace hwt := hwt.symm
          subst hwt
          have c21 := same_any U U _ _ w20 R15.row R16.row (by omega)
          rw [decide_eq_true rfl] at c21
          go_wp2_with fail
          refine c21.mono ?_
          rintro e w21 ⟨rfl, hB21⟩
          clear c21
          replace hB := chain hB hB21
          replace Rf := Rf.below hB21
          replace Rg := Rg.below hB21
          replace Rh := Rh.below hB21
          replace R1 := R1.below hB21
          replace R2 := R2.below hB21
          replace R3 := R3.below hB21
          replace R4 := R4.below hB21
          replace R5 := R5.below hB21
          replace R6 := R6.below hB21
          replace R11 := R11.below hB21
          replace R12 := R12.below hB21
          replace R13 := R13.below hB21
          replace R14 := R14.below hB21
          replace R15 := R15.below hB21
          replace R16 := R16.below hB21
          go_wp2
          go_ret
          exact ⟨rfl, hB⟩
        · go_wp2_with fail
          refine c16.mono ?_
          rintro e w16 ⟨v16, rfl, hO16, hB16⟩
          clear c16
          replace hB := chain hB hB16
          replace Rf := Rf.below hB16
          replace Rg := Rg.below hB16
          replace Rh := Rh.below hB16
          replace R1 := R1.below hB16
          replace R2 := R2.below hB16
          replace R3 := R3.below hB16
          replace R4 := R4.below hB16
          replace R5 := R5.below hB16
          replace R6 := R6.below hB16
          replace R11 := R11.below hB16
          replace R12 := R12.below hB16
          have R13 := OwnsC.frow hO16
          obtain ⟨p16, q16, rfl⟩ := OwnsC.len hO16
          go_wp2_with fail
          refine (told_f _ _ w16 ⟨_, _, _, rfl⟩ r).mono ?_
          rintro e wt ⟨rfl, hwt⟩
          replace hwt := hwt.symm
          subst hwt
          have c17 := Join_any MM1 MR1 _ _ w16 R3 R13 (by omega) (by omega)
          generalize hJS : joinF MM1 MR1 = JS at c17
          have HJS : Hid (joinF MM1 MR1 = JS) := hJS
          clear hJS
          obtain ⟨JS1, JS2⟩ := JS
          dsimp only at c17
          go_wp2_with fail
          refine c17.mono ?_
          rintro e w17 ⟨v17, rfl, hO17, hB17⟩
          clear c17
          replace hB := chain hB hB17
          replace Rf := Rf.below hB17
          replace Rg := Rg.below hB17
          replace Rh := Rh.below hB17
          replace R1 := R1.below hB17
          replace R2 := R2.below hB17
          replace R3 := R3.below hB17
          replace R4 := R4.below hB17
          replace R5 := R5.below hB17
          replace R6 := R6.below hB17
          replace R11 := R11.below hB17
          replace R12 := R12.below hB17
          replace R13 := R13.below hB17
          have R14 := OwnsC.frow hO17
          obtain ⟨p17, q17, rfl⟩ := OwnsC.len hO17
          go_wp2_with fail
          refine (told_any _ _ w17 ⟨_, _, _, rfl⟩).mono ?_
          rintro e wt ⟨rfl, hwt⟩
          replace hwt := hwt.symm
          subst hwt
          have c18 := Join_any l GH _ _ w17 Rf R11 (by omega) (by omega)
          rw [HU.out] at c18
          dsimp only at c18
          go_wp2_with fail
          refine c18.mono ?_
          rintro e w18 ⟨v18, rfl, hO18, hB18⟩
          clear c18
          replace hB := chain hB hB18
          replace Rf := Rf.below hB18
          replace Rg := Rg.below hB18
          replace Rh := Rh.below hB18
          replace R1 := R1.below hB18
          replace R2 := R2.below hB18
          replace R3 := R3.below hB18
          replace R4 := R4.below hB18
          replace R5 := R5.below hB18
          replace R6 := R6.below hB18
          replace R11 := R11.below hB18
          replace R12 := R12.below hB18
          replace R13 := R13.below hB18
          replace R14 := R14.below hB18
          have R15 := OwnsC.frow hO18
          obtain ⟨p18, q18, rfl⟩ := OwnsC.len hO18
          go_wp2_with fail
          refine (told_t _ _ w18 ⟨_, _, _, rfl⟩ rfl).mono ?_
          rintro e wt ⟨rfl, hwt⟩
          replace hwt := hwt.symm
          subst hwt
          have c19 := Join_any J n _ _ w18 R1 Rh (by omega) (by omega)
          rw [HV.out] at c19
          dsimp only at c19
          go_wp2_with fail
          refine c19.mono ?_
          rintro e w19 ⟨v19, rfl, hO19, hB19⟩
          clear c19
          replace hB := chain hB hB19
          replace Rf := Rf.below hB19
          replace Rg := Rg.below hB19
          replace Rh := Rh.below hB19
          replace R1 := R1.below hB19
          replace R2 := R2.below hB19
          replace R3 := R3.below hB19
          replace R4 := R4.below hB19
          replace R5 := R5.below hB19
          replace R6 := R6.below hB19
          replace R11 := R11.below hB19
          replace R12 := R12.below hB19
          replace R13 := R13.below hB19
          replace R14 := R14.below hB19
          replace R15 := R15.below hB19
          have R16 := OwnsC.frow hO19
          obtain ⟨p19, q19, rfl⟩ := OwnsC.len hO19
          go_wp2_with fail
          refine (told_t _ _ w19 ⟨_, _, _, rfl⟩ rfl).mono ?_
          rintro e wt ⟨rfl, hwt⟩
          replace hwt := hwt.symm
          subst hwt
          have c20 := same_any U U _ _ w19 R15.row R16.row (by omega)
          rw [decide_eq_true rfl] at c20
          go_wp2_with fail
          refine c20.mono ?_
          rintro e w20 ⟨rfl, hB20⟩
          clear c20
          replace hB := chain hB hB20
          replace Rf := Rf.below hB20
          replace Rg := Rg.below hB20
          replace Rh := Rh.below hB20
          replace R1 := R1.below hB20
          replace R2 := R2.below hB20
          replace R3 := R3.below hB20
          replace R4 := R4.below hB20
          replace R5 := R5.below hB20
          replace R6 := R6.below hB20
          replace R11 := R11.below hB20
          replace R12 := R12.below hB20
          replace R13 := R13.below hB20
          replace R14 := R14.below hB20
          replace R15 := R15.below hB20
          replace R16 := R16.below hB20
          go_wp2
          go_ret
          exact ⟨rfl, hB⟩
      · go_wp2_with fail
        refine c15.mono ?_
        rintro e w15 ⟨v15, rfl, hO15, hB15⟩
        clear c15
        replace hB := chain hB hB15
        replace Rf := Rf.below hB15
        replace Rg := Rg.below hB15
        replace Rh := Rh.below hB15
        replace R1 := R1.below hB15
        replace R2 := R2.below hB15
        replace R3 := R3.below hB15
        replace R4 := R4.below hB15
        replace R5 := R5.below hB15
        replace R6 := R6.below hB15
        replace R11 := R11.below hB15
        have R12 := OwnsC.frow hO15
        obtain ⟨p15, q15, rfl⟩ := OwnsC.len hO15
        go_wp2_with fail
        refine (told_f _ _ w15 ⟨_, _, _, rfl⟩ q).mono ?_
        rintro e wt ⟨rfl, hwt⟩
        replace hwt := hwt.symm
        subst hwt
        have c16 := Meet_any l n _ _ w15 Rf Rh (by omega) (by omega)
        generalize hMR : meetF l n = MR at c16
        have HMR : Hid (meetF l n = MR) := hMR
        clear hMR
        obtain ⟨MR1, MR2⟩ := MR
        dsimp only at c16
        have LMR : MR1.length ≤ 64 := by have := meetF_len l n; rw [HMR.out] at this; exact this
        go_wp2_with fail
        refine c16.mono ?_
        rintro e w16 ⟨v16, rfl, hO16, hB16⟩
        clear c16
        replace hB := chain hB hB16
        replace Rf := Rf.below hB16
        replace Rg := Rg.below hB16
        replace Rh := Rh.below hB16
        replace R1 := R1.below hB16
        replace R2 := R2.below hB16
        replace R3 := R3.below hB16
        replace R4 := R4.below hB16
        replace R5 := R5.below hB16
        replace R6 := R6.below hB16
        replace R11 := R11.below hB16
        replace R12 := R12.below hB16
        have R13 := OwnsC.frow hO16
        obtain ⟨p16, q16, rfl⟩ := OwnsC.len hO16
        go_wp2_with fail
        refine (told_any _ _ w16 ⟨_, _, _, rfl⟩).mono ?_
        rintro e wt ⟨rfl, hwt⟩
        replace hwt := hwt.symm
        subst hwt
        have c17 := Join_any MM1 MR1 _ _ w16 R3 R13 (by first | omega | simp) (by omega)
        generalize hJS : joinF MM1 MR1 = JS at c17
        have HJS : Hid (joinF MM1 MR1 = JS) := hJS
        clear hJS
        obtain ⟨JS1, JS2⟩ := JS
        dsimp only at c17
        go_wp2_with fail
        refine c17.mono ?_
        rintro e w17 ⟨v17, rfl, hO17, hB17⟩
        clear c17
        replace hB := chain hB hB17
        replace Rf := Rf.below hB17
        replace Rg := Rg.below hB17
        replace Rh := Rh.below hB17
        replace R1 := R1.below hB17
        replace R2 := R2.below hB17
        replace R3 := R3.below hB17
        replace R4 := R4.below hB17
        replace R5 := R5.below hB17
        replace R6 := R6.below hB17
        replace R11 := R11.below hB17
        replace R12 := R12.below hB17
        replace R13 := R13.below hB17
        have R14 := OwnsC.frow hO17
        obtain ⟨p17, q17, rfl⟩ := OwnsC.len hO17
        go_wp2_with fail
        refine (told_any _ _ w17 ⟨_, _, _, rfl⟩).mono ?_
        rintro e wt ⟨rfl, hwt⟩
        replace hwt := hwt.symm
        subst hwt
        have c18 := Join_any l GH _ _ w17 Rf R11 (by omega) (by omega)
        rw [HU.out] at c18
        dsimp only at c18
        go_wp2_with fail
        refine c18.mono ?_
        rintro e w18 ⟨v18, rfl, hO18, hB18⟩
        clear c18
        replace hB := chain hB hB18
        replace Rf := Rf.below hB18
        replace Rg := Rg.below hB18
        replace Rh := Rh.below hB18
        replace R1 := R1.below hB18
        replace R2 := R2.below hB18
        replace R3 := R3.below hB18
        replace R4 := R4.below hB18
        replace R5 := R5.below hB18
        replace R6 := R6.below hB18
        replace R11 := R11.below hB18
        replace R12 := R12.below hB18
        replace R13 := R13.below hB18
        replace R14 := R14.below hB18
        have R15 := OwnsC.frow hO18
        obtain ⟨p18, q18, rfl⟩ := OwnsC.len hO18
        go_wp2_with fail
        refine (told_t _ _ w18 ⟨_, _, _, rfl⟩ rfl).mono ?_
        rintro e wt ⟨rfl, hwt⟩
        replace hwt := hwt.symm
        subst hwt
        have c19 := Join_any J n _ _ w18 R1 Rh (by omega) (by omega)
        rw [HV.out] at c19
        dsimp only at c19
        go_wp2_with fail
        refine c19.mono ?_
        rintro e w19 ⟨v19, rfl, hO19, hB19⟩
        clear c19
        replace hB := chain hB hB19
        replace Rf := Rf.below hB19
        replace Rg := Rg.below hB19
        replace Rh := Rh.below hB19
        replace R1 := R1.below hB19
        replace R2 := R2.below hB19
        replace R3 := R3.below hB19
        replace R4 := R4.below hB19
        replace R5 := R5.below hB19
        replace R6 := R6.below hB19
        replace R11 := R11.below hB19
        replace R12 := R12.below hB19
        replace R13 := R13.below hB19
        replace R14 := R14.below hB19
        replace R15 := R15.below hB19
        have R16 := OwnsC.frow hO19
        obtain ⟨p19, q19, rfl⟩ := OwnsC.len hO19
        go_wp2_with fail
        refine (told_t _ _ w19 ⟨_, _, _, rfl⟩ rfl).mono ?_
        rintro e wt ⟨rfl, hwt⟩
        replace hwt := hwt.symm
        subst hwt
        have c20 := same_any U U _ _ w19 R15.row R16.row (by omega)
        rw [decide_eq_true rfl] at c20
        go_wp2_with fail
        refine c20.mono ?_
        rintro e w20 ⟨rfl, hB20⟩
        clear c20
        replace hB := chain hB hB20
        replace Rf := Rf.below hB20
        replace Rg := Rg.below hB20
        replace Rh := Rh.below hB20
        replace R1 := R1.below hB20
        replace R2 := R2.below hB20
        replace R3 := R3.below hB20
        replace R4 := R4.below hB20
        replace R5 := R5.below hB20
        replace R6 := R6.below hB20
        replace R11 := R11.below hB20
        replace R12 := R12.below hB20
        replace R13 := R13.below hB20
        replace R14 := R14.below hB20
        replace R15 := R15.below hB20
        replace R16 := R16.below hB20
        go_wp2
        go_ret
        exact ⟨rfl, hB⟩
  · have hMz : MM1 = [] := by have := meetF_no (f := l) (g := m) (by rw [HMM.out]; exact c); rw [HMM.out] at this; exact this
    subst hMz
    go_wp2_with fail
    refine c4.mono ?_
    rintro e w4 ⟨v4, rfl, hO4, hB4⟩
    clear c4
    replace hB := chain hB hB4
    replace Rf := Rf.below hB4
    replace Rg := Rg.below hB4
    replace Rh := Rh.below hB4
    replace R1 := R1.below hB4
    replace R2 := R2.below hB4
    have R3 := OwnsC.frow hO4
    obtain ⟨p4, q4, rfl⟩ := OwnsC.len hO4
    go_wp2_with fail
    refine (told_f _ _ w4 ⟨_, _, _, rfl⟩ c).mono ?_
    rintro e wt ⟨rfl, hwt⟩
    replace hwt := hwt.symm
    subst hwt
    have c5 := Meet_any m l _ _ w4 Rg Rf (by omega) (by omega)
    rw [HMm.out] at c5
    dsimp only at c5
    go_wp2_with fail
    refine c5.mono ?_
    rintro e w5 ⟨v5, rfl, hO5, hB5⟩
    clear c5
    replace hB := chain hB hB5
    replace Rf := Rf.below hB5
    replace Rg := Rg.below hB5
    replace Rh := Rh.below hB5
    replace R1 := R1.below hB5
    replace R2 := R2.below hB5
    replace R3 := R3.below hB5
    have R4 := OwnsC.frow hO5
    obtain ⟨p5, q5, rfl⟩ := OwnsC.len hO5
    go_wp2_with fail
    refine (told_f _ _ w5 ⟨_, _, _, rfl⟩ c).mono ?_
    rintro e wt ⟨rfl, hwt⟩
    replace hwt := hwt.symm
    subst hwt
    have c6 := same_any J J _ _ w5 R1.row R2.row (by omega)
    rw [decide_eq_true rfl] at c6
    go_wp2_with fail
    refine c6.mono ?_
    rintro e w6 ⟨rfl, hB6⟩
    clear c6
    replace hB := chain hB hB6
    replace Rf := Rf.below hB6
    replace Rg := Rg.below hB6
    replace Rh := Rh.below hB6
    replace R1 := R1.below hB6
    replace R2 := R2.below hB6
    replace R3 := R3.below hB6
    replace R4 := R4.below hB6
    have c7 := same_any [] [] _ _ w6 R3.row R4.row (by simp)
    rw [decide_eq_true rfl] at c7
    go_wp2_with fail
    refine c7.mono ?_
    rintro e w7 ⟨rfl, hB7⟩
    clear c7
    replace hB := chain hB hB7
    replace Rf := Rf.below hB7
    replace Rg := Rg.below hB7
    replace Rh := Rh.below hB7
    replace R1 := R1.below hB7
    replace R2 := R2.below hB7
    replace R3 := R3.below hB7
    replace R4 := R4.below hB7
    have c8 := fright_any l _ w7 Rf (by omega)
    rw [Hf.out] at c8
    go_wp2_with fail
    refine c8.mono ?_
    rintro e w8 ⟨rfl, hB8⟩
    clear c8
    replace hB := chain hB hB8
    replace Rf := Rf.below hB8
    replace Rg := Rg.below hB8
    replace Rh := Rh.below hB8
    replace R1 := R1.below hB8
    replace R2 := R2.below hB8
    replace R3 := R3.below hB8
    replace R4 := R4.below hB8
    have c9 := Meet_any l J _ _ w8 Rf R1 (by omega) (by omega)
    rw [HX.out] at c9
    dsimp only at c9
    go_wp2_with fail
    refine c9.mono ?_
    rintro e w9 ⟨v9, rfl, hO9, hB9⟩
    clear c9
    replace hB := chain hB hB9
    replace Rf := Rf.below hB9
    replace Rg := Rg.below hB9
    replace Rh := Rh.below hB9
    replace R1 := R1.below hB9
    replace R2 := R2.below hB9
    replace R3 := R3.below hB9
    replace R4 := R4.below hB9
    have R5 := OwnsC.frow hO9
    obtain ⟨p9, q9, rfl⟩ := OwnsC.len hO9
    go_wp2_with fail
    refine (told_t _ _ w9 ⟨_, _, _, rfl⟩ rfl).mono ?_
    rintro e wt ⟨rfl, hwt⟩
    replace hwt := hwt.symm
    subst hwt
    have c10 := same_any l l _ _ w9 R5.row Rf.row (by omega)
    rw [decide_eq_true rfl] at c10
    go_wp2_with fail
    refine c10.mono ?_
    rintro e w10 ⟨rfl, hB10⟩
    clear c10
    replace hB := chain hB hB10
    replace Rf := Rf.below hB10
    replace Rg := Rg.below hB10
    replace Rh := Rh.below hB10
    replace R1 := R1.below hB10
    replace R2 := R2.below hB10
    replace R3 := R3.below hB10
    replace R4 := R4.below hB10
    replace R5 := R5.below hB10
    cases hh : rightF n
    · have HG : Hid (joinF m n = ([], 2)) := by show joinF m n = ([], 2); unfold joinF; rw [hh, Bool.and_false]; rfl
      have c11 := Join_any m n _ _ w10 Rg Rh (by omega) (by omega)
      rw [HG.out] at c11
      dsimp only at c11
      go_wp2_with fail
      refine c11.mono ?_
      rintro e w11 ⟨v11, rfl, hO11, hB11⟩
      clear c11
      replace hB := chain hB hB11
      replace Rf := Rf.below hB11
      replace Rg := Rg.below hB11
      replace Rh := Rh.below hB11
      replace R1 := R1.below hB11
      replace R2 := R2.below hB11
      replace R3 := R3.below hB11
      replace R4 := R4.below hB11
      replace R5 := R5.below hB11
      have R11 := OwnsC.frow hO11
      obtain ⟨p11, q11, rfl⟩ := OwnsC.len hO11
      go_wp2_with fail
      refine (told_f _ _ w11 ⟨_, _, _, rfl⟩ (by decide)).mono ?_
      rintro e wt ⟨rfl, hwt⟩
      replace hwt := hwt.symm
      subst hwt
      have c12 := Meet_any l [] _ _ w11 Rf R11 (by omega) (by simp)
      generalize hML : meetF l [] = ML at c12
      have HML : Hid (meetF l [] = ML) := hML
      clear hML
      obtain ⟨ML1, ML2⟩ := ML
      dsimp only at c12
      go_wp2_with fail
      refine c12.mono ?_
      rintro e w12 ⟨v12, rfl, hO12, hB12⟩
      clear c12
      replace hB := chain hB hB12
      replace Rf := Rf.below hB12
      replace Rg := Rg.below hB12
      replace Rh := Rh.below hB12
      replace R1 := R1.below hB12
      replace R2 := R2.below hB12
      replace R3 := R3.below hB12
      replace R4 := R4.below hB12
      replace R5 := R5.below hB12
      replace R11 := R11.below hB12
      have R12 := OwnsC.frow hO12
      obtain ⟨p12, q12, rfl⟩ := OwnsC.len hO12
      go_wp2_with fail
      refine (told_any _ _ w12 ⟨_, _, _, rfl⟩).mono ?_
      rintro e wt ⟨rfl, hwt⟩
      replace hwt := hwt.symm
      subst hwt
      have c13 := Meet_any l n _ _ w12 Rf Rh (by omega) (by omega)
      generalize hMR : meetF l n = MR at c13
      have HMR : Hid (meetF l n = MR) := hMR
      clear hMR
      obtain ⟨MR1, MR2⟩ := MR
      dsimp only at c13
      have LMR : MR1.length ≤ 64 := by have := meetF_len l n; rw [HMR.out] at this; exact this
      go_wp2_with fail
      refine c13.mono ?_
      rintro e w13 ⟨v13, rfl, hO13, hB13⟩
      clear c13
      replace hB := chain hB hB13
      replace Rf := Rf.below hB13
      replace Rg := Rg.below hB13
      replace Rh := Rh.below hB13
      replace R1 := R1.below hB13
      replace R2 := R2.below hB13
      replace R3 := R3.below hB13
      replace R4 := R4.below hB13
      replace R5 := R5.below hB13
      replace R11 := R11.below hB13
      replace R12 := R12.below hB13
      have R13 := OwnsC.frow hO13
      obtain ⟨p13, q13, rfl⟩ := OwnsC.len hO13
      go_wp2_with fail
      refine (told_any _ _ w13 ⟨_, _, _, rfl⟩).mono ?_
      rintro e wt ⟨rfl, hwt⟩
      replace hwt := hwt.symm
      subst hwt
      have c14 := Join_any [] MR1 _ _ w13 R3 R13 (by first | omega | simp) (by omega)
      generalize hJS : joinF [] MR1 = JS at c14
      have HJS : Hid (joinF [] MR1 = JS) := hJS
      clear hJS
      obtain ⟨JS1, JS2⟩ := JS
      dsimp only at c14
      go_wp2_with fail
      refine c14.mono ?_
      rintro e w14 ⟨v14, rfl, hO14, hB14⟩
      clear c14
      replace hB := chain hB hB14
      replace Rf := Rf.below hB14
      replace Rg := Rg.below hB14
      replace Rh := Rh.below hB14
      replace R1 := R1.below hB14
      replace R2 := R2.below hB14
      replace R3 := R3.below hB14
      replace R4 := R4.below hB14
      replace R5 := R5.below hB14
      replace R11 := R11.below hB14
      replace R12 := R12.below hB14
      replace R13 := R13.below hB14
      have R14 := OwnsC.frow hO14
      obtain ⟨p14, q14, rfl⟩ := OwnsC.len hO14
      go_wp2_with fail
      refine (told_any _ _ w14 ⟨_, _, _, rfl⟩).mono ?_
      rintro e wt ⟨rfl, hwt⟩
      replace hwt := hwt.symm
      subst hwt
      have c15 := Join_any l [] _ _ w14 Rf R11 (by omega) (by simp)
      generalize hJX : joinF l [] = JX at c15
      have HJX : Hid (joinF l [] = JX) := hJX
      clear hJX
      obtain ⟨JX1, JX2⟩ := JX
      dsimp only at c15
      go_wp2_with fail
      refine c15.mono ?_
      rintro e w15 ⟨v15, rfl, hO15, hB15⟩
      clear c15
      replace hB := chain hB hB15
      replace Rf := Rf.below hB15
      replace Rg := Rg.below hB15
      replace Rh := Rh.below hB15
      replace R1 := R1.below hB15
      replace R2 := R2.below hB15
      replace R3 := R3.below hB15
      replace R4 := R4.below hB15
      replace R5 := R5.below hB15
      replace R11 := R11.below hB15
      replace R12 := R12.below hB15
      replace R13 := R13.below hB15
      replace R14 := R14.below hB15
      have R15 := OwnsC.frow hO15
      obtain ⟨p15, q15, rfl⟩ := OwnsC.len hO15
      go_wp2_with fail
      refine (told_any _ _ w15 ⟨_, _, _, rfl⟩).mono ?_
      rintro e wt ⟨rfl, hwt⟩
      replace hwt := hwt.symm
      subst hwt
      have c16 := Join_any J n _ _ w15 R1 Rh (by omega) (by omega)
      generalize hJY : joinF J n = JY at c16
      have HJY : Hid (joinF J n = JY) := hJY
      clear hJY
      obtain ⟨JY1, JY2⟩ := JY
      dsimp only at c16
      go_wp2_with fail
      refine c16.mono ?_
      rintro e w16 ⟨v16, rfl, hO16, hB16⟩
      clear c16
      replace hB := chain hB hB16
      replace Rf := Rf.below hB16
      replace Rg := Rg.below hB16
      replace Rh := Rh.below hB16
      replace R1 := R1.below hB16
      replace R2 := R2.below hB16
      replace R3 := R3.below hB16
      replace R4 := R4.below hB16
      replace R5 := R5.below hB16
      replace R11 := R11.below hB16
      replace R12 := R12.below hB16
      replace R13 := R13.below hB16
      replace R14 := R14.below hB16
      replace R15 := R15.below hB16
      have R16 := OwnsC.frow hO16
      obtain ⟨p16, q16, rfl⟩ := OwnsC.len hO16
      go_wp2_with fail
      refine (told_any _ _ w16 ⟨_, _, _, rfl⟩).mono ?_
      rintro e wt ⟨rfl, hwt⟩
      replace hwt := hwt.symm
      subst hwt
      go_wp2
      go_ret
      exact ⟨rfl, hB⟩
    · obtain ⟨GH, hGH⟩ : ∃ GH, joinF m n = (GH, 0) := ⟨_, joinF_small Hg.out hh (by omega)⟩
      have HG : Hid (joinF m n = (GH, 0)) := hGH
      have LG : GH.length ≤ 40 := by have := joinF_small Hg.out hh (by omega); rw [hGH] at this; have h2 := lstN_length (m ++ n); rw [List.length_append] at h2; rw [(Prod.mk.inj this).1]; omega
      clear hGH
      have rG : rightF GH = true := by have := joinF_right m n; rw [HG.out] at this; exact this
      have rJ : rightF J = true := by have := joinF_right l m; rw [HJ.out] at this; exact this
      obtain ⟨U, hU⟩ : ∃ U, joinF l GH = (U, 0) := ⟨_, joinF_small Hf.out rG (by omega)⟩
      have HU : Hid (joinF l GH = (U, 0)) := hU
      clear hU
      have HV : Hid (joinF J n = (U, 0)) := by
        have h0 := joinF_small rJ hh (by omega)
        have h1 := assoc (f := l) (g := m) (h := n) (by rw [HG.out]) (by rw [HG.out, HU.out]) (by rw [HJ.out]) (by rw [HJ.out, h0])
        rw [HG.out, HU.out, HJ.out] at h1
        show joinF J n = (U, 0)
        have h2 : (joinF J n).2 = 0 := by rw [h0]
        exact Prod.ext h1.symm h2
      have LU : U.length ≤ 64 := by have := joinF_len l GH; rw [HU.out] at this; exact this
      clear rG rJ
      have c11 := Join_any m n _ _ w10 Rg Rh (by omega) (by omega)
      rw [HG.out] at c11
      dsimp only at c11
      go_wp2_with fail
      refine c11.mono ?_
      rintro e w11 ⟨v11, rfl, hO11, hB11⟩
      clear c11
      replace hB := chain hB hB11
      replace Rf := Rf.below hB11
      replace Rg := Rg.below hB11
      replace Rh := Rh.below hB11
      replace R1 := R1.below hB11
      replace R2 := R2.below hB11
      replace R3 := R3.below hB11
      replace R4 := R4.below hB11
      replace R5 := R5.below hB11
      have R11 := OwnsC.frow hO11
      obtain ⟨p11, q11, rfl⟩ := OwnsC.len hO11
      go_wp2_with fail
      refine (told_t _ _ w11 ⟨_, _, _, rfl⟩ rfl).mono ?_
      rintro e wt ⟨rfl, hwt⟩
      replace hwt := hwt.symm
      subst hwt
      have c12 := Meet_any l GH _ _ w11 Rf R11 (by omega) (by omega)
      generalize hML : meetF l GH = ML at c12
      have HML : Hid (meetF l GH = ML) := hML
      clear hML
      obtain ⟨ML1, ML2⟩ := ML
      dsimp only at c12
      have LML : ML1.length ≤ 64 := by have := meetF_len l GH; rw [HML.out] at this; exact this
      by_cases q : ML2 = 0
      · obtain rfl : ML2 = 0 := q
        go_wp2_with fail
        refine c12.mono ?_
        rintro e w12 ⟨v12, rfl, hO12, hB12⟩
        clear c12
        replace hB := chain hB hB12
        replace Rf := Rf.below hB12
        replace Rg := Rg.below hB12
        replace Rh := Rh.below hB12
        replace R1 := R1.below hB12
        replace R2 := R2.below hB12
        replace R3 := R3.below hB12
        replace R4 := R4.below hB12
        replace R5 := R5.below hB12
        replace R11 := R11.below hB12
        have R12 := OwnsC.frow hO12
        obtain ⟨p12, q12, rfl⟩ := OwnsC.len hO12
        go_wp2_with fail
        refine (told_t _ _ w12 ⟨_, _, _, rfl⟩ rfl).mono ?_
        rintro e wt ⟨rfl, hwt⟩
        replace hwt := hwt.symm
        subst hwt
        have c13 := Meet_any l n _ _ w12 Rf Rh (by omega) (by omega)
        generalize hMR : meetF l n = MR at c13
        have HMR : Hid (meetF l n = MR) := hMR
        clear hMR
        obtain ⟨MR1, MR2⟩ := MR
        dsimp only at c13
        have LMR : MR1.length ≤ 64 := by have := meetF_len l n; rw [HMR.out] at this; exact this
        go_wp2_with fail
        refine c13.mono ?_
        rintro e w13 ⟨v13, rfl, hO13, hB13⟩
        clear c13
        replace hB := chain hB hB13
        replace Rf := Rf.below hB13
        replace Rg := Rg.below hB13
        replace Rh := Rh.below hB13
        replace R1 := R1.below hB13
        replace R2 := R2.below hB13
        replace R3 := R3.below hB13
        replace R4 := R4.below hB13
        replace R5 := R5.below hB13
        replace R11 := R11.below hB13
        replace R12 := R12.below hB13
        have R13 := OwnsC.frow hO13
        obtain ⟨p13, q13, rfl⟩ := OwnsC.len hO13
        go_wp2_with fail
        refine (told_any _ _ w13 ⟨_, _, _, rfl⟩).mono ?_
        rintro e wt ⟨rfl, hwt⟩
        replace hwt := hwt.symm
        subst hwt
        have c14 := Join_any [] MR1 _ _ w13 R3 R13 (by simp) (by omega)
        generalize hJS : joinF [] MR1 = JS at c14
        have HJS : Hid (joinF [] MR1 = JS) := hJS
        clear hJS
        obtain ⟨JS1, JS2⟩ := JS
        dsimp only at c14
        go_wp2_with fail
        refine c14.mono ?_
        rintro e w14 ⟨v14, rfl, hO14, hB14⟩
        clear c14
        replace hB := chain hB hB14
        replace Rf := Rf.below hB14
        replace Rg := Rg.below hB14
        replace Rh := Rh.below hB14
        replace R1 := R1.below hB14
        replace R2 := R2.below hB14
        replace R3 := R3.below hB14
        replace R4 := R4.below hB14
        replace R5 := R5.below hB14
        replace R11 := R11.below hB14
        replace R12 := R12.below hB14
        replace R13 := R13.below hB14
        have R14 := OwnsC.frow hO14
        obtain ⟨p14, q14, rfl⟩ := OwnsC.len hO14
        go_wp2_with fail
        refine (told_any _ _ w14 ⟨_, _, _, rfl⟩).mono ?_
        rintro e wt ⟨rfl, hwt⟩
        replace hwt := hwt.symm
        subst hwt
        have c15 := Join_any l GH _ _ w14 Rf R11 (by omega) (by omega)
        rw [HU.out] at c15
        dsimp only at c15
        go_wp2_with fail
        refine c15.mono ?_
        rintro e w15 ⟨v15, rfl, hO15, hB15⟩
        clear c15
        replace hB := chain hB hB15
        replace Rf := Rf.below hB15
        replace Rg := Rg.below hB15
        replace Rh := Rh.below hB15
        replace R1 := R1.below hB15
        replace R2 := R2.below hB15
        replace R3 := R3.below hB15
        replace R4 := R4.below hB15
        replace R5 := R5.below hB15
        replace R11 := R11.below hB15
        replace R12 := R12.below hB15
        replace R13 := R13.below hB15
        replace R14 := R14.below hB15
        have R15 := OwnsC.frow hO15
        obtain ⟨p15, q15, rfl⟩ := OwnsC.len hO15
        go_wp2_with fail
        refine (told_t _ _ w15 ⟨_, _, _, rfl⟩ rfl).mono ?_
        rintro e wt ⟨rfl, hwt⟩
        replace hwt := hwt.symm
        subst hwt
        have c16 := Join_any J n _ _ w15 R1 Rh (by omega) (by omega)
        rw [HV.out] at c16
        dsimp only at c16
        go_wp2_with fail
        refine c16.mono ?_
        rintro e w16 ⟨v16, rfl, hO16, hB16⟩
        clear c16
        replace hB := chain hB hB16
        replace Rf := Rf.below hB16
        replace Rg := Rg.below hB16
        replace Rh := Rh.below hB16
        replace R1 := R1.below hB16
        replace R2 := R2.below hB16
        replace R3 := R3.below hB16
        replace R4 := R4.below hB16
        replace R5 := R5.below hB16
        replace R11 := R11.below hB16
        replace R12 := R12.below hB16
        replace R13 := R13.below hB16
        replace R14 := R14.below hB16
        replace R15 := R15.below hB16
        have R16 := OwnsC.frow hO16
        obtain ⟨p16, q16, rfl⟩ := OwnsC.len hO16
        go_wp2_with fail
        refine (told_t _ _ w16 ⟨_, _, _, rfl⟩ rfl).mono ?_
        rintro e wt ⟨rfl, hwt⟩
        replace hwt := hwt.symm
        subst hwt
        have c17 := same_any U U _ _ w16 R15.row R16.row (by omega)
        rw [decide_eq_true rfl] at c17
        go_wp2_with fail
        refine c17.mono ?_
        rintro e w17 ⟨rfl, hB17⟩
        clear c17
        replace hB := chain hB hB17
        replace Rf := Rf.below hB17
        replace Rg := Rg.below hB17
        replace Rh := Rh.below hB17
        replace R1 := R1.below hB17
        replace R2 := R2.below hB17
        replace R3 := R3.below hB17
        replace R4 := R4.below hB17
        replace R5 := R5.below hB17
        replace R11 := R11.below hB17
        replace R12 := R12.below hB17
        replace R13 := R13.below hB17
        replace R14 := R14.below hB17
        replace R15 := R15.below hB17
        replace R16 := R16.below hB17
        go_wp2
        go_ret
        exact ⟨rfl, hB⟩
      · go_wp2_with fail
        refine c12.mono ?_
        rintro e w12 ⟨v12, rfl, hO12, hB12⟩
        clear c12
        replace hB := chain hB hB12
        replace Rf := Rf.below hB12
        replace Rg := Rg.below hB12
        replace Rh := Rh.below hB12
        replace R1 := R1.below hB12
        replace R2 := R2.below hB12
        replace R3 := R3.below hB12
        replace R4 := R4.below hB12
        replace R5 := R5.below hB12
        replace R11 := R11.below hB12
        have R12 := OwnsC.frow hO12
        obtain ⟨p12, q12, rfl⟩ := OwnsC.len hO12
        go_wp2_with fail
        refine (told_f _ _ w12 ⟨_, _, _, rfl⟩ q).mono ?_
        rintro e wt ⟨rfl, hwt⟩
        replace hwt := hwt.symm
        subst hwt
        have c13 := Meet_any l n _ _ w12 Rf Rh (by omega) (by omega)
        generalize hMR : meetF l n = MR at c13
        have HMR : Hid (meetF l n = MR) := hMR
        clear hMR
        obtain ⟨MR1, MR2⟩ := MR
        dsimp only at c13
        have LMR : MR1.length ≤ 64 := by have := meetF_len l n; rw [HMR.out] at this; exact this
        go_wp2_with fail
        refine c13.mono ?_
        rintro e w13 ⟨v13, rfl, hO13, hB13⟩
        clear c13
        replace hB := chain hB hB13
        replace Rf := Rf.below hB13
        replace Rg := Rg.below hB13
        replace Rh := Rh.below hB13
        replace R1 := R1.below hB13
        replace R2 := R2.below hB13
        replace R3 := R3.below hB13
        replace R4 := R4.below hB13
        replace R5 := R5.below hB13
        replace R11 := R11.below hB13
        replace R12 := R12.below hB13
        have R13 := OwnsC.frow hO13
        obtain ⟨p13, q13, rfl⟩ := OwnsC.len hO13
        go_wp2_with fail
        refine (told_any _ _ w13 ⟨_, _, _, rfl⟩).mono ?_
        rintro e wt ⟨rfl, hwt⟩
        replace hwt := hwt.symm
        subst hwt
        have c14 := Join_any [] MR1 _ _ w13 R3 R13 (by first | omega | simp) (by omega)
        generalize hJS : joinF [] MR1 = JS at c14
        have HJS : Hid (joinF [] MR1 = JS) := hJS
        clear hJS
        obtain ⟨JS1, JS2⟩ := JS
        dsimp only at c14
        go_wp2_with fail
        refine c14.mono ?_
        rintro e w14 ⟨v14, rfl, hO14, hB14⟩
        clear c14
        replace hB := chain hB hB14
        replace Rf := Rf.below hB14
        replace Rg := Rg.below hB14
        replace Rh := Rh.below hB14
        replace R1 := R1.below hB14
        replace R2 := R2.below hB14
        replace R3 := R3.below hB14
        replace R4 := R4.below hB14
        replace R5 := R5.below hB14
        replace R11 := R11.below hB14
        replace R12 := R12.below hB14
        replace R13 := R13.below hB14
        have R14 := OwnsC.frow hO14
        obtain ⟨p14, q14, rfl⟩ := OwnsC.len hO14
        go_wp2_with fail
        refine (told_any _ _ w14 ⟨_, _, _, rfl⟩).mono ?_
        rintro e wt ⟨rfl, hwt⟩
        replace hwt := hwt.symm
        subst hwt
        have c15 := Join_any l GH _ _ w14 Rf R11 (by omega) (by omega)
        rw [HU.out] at c15
        dsimp only at c15
        go_wp2_with fail
        refine c15.mono ?_
        rintro e w15 ⟨v15, rfl, hO15, hB15⟩
        clear c15
        replace hB := chain hB hB15
        replace Rf := Rf.below hB15
        replace Rg := Rg.below hB15
        replace Rh := Rh.below hB15
        replace R1 := R1.below hB15
        replace R2 := R2.below hB15
        replace R3 := R3.below hB15
        replace R4 := R4.below hB15
        replace R5 := R5.below hB15
        replace R11 := R11.below hB15
        replace R12 := R12.below hB15
        replace R13 := R13.below hB15
        replace R14 := R14.below hB15
        have R15 := OwnsC.frow hO15
        obtain ⟨p15, q15, rfl⟩ := OwnsC.len hO15
        go_wp2_with fail
        refine (told_t _ _ w15 ⟨_, _, _, rfl⟩ rfl).mono ?_
        rintro e wt ⟨rfl, hwt⟩
        replace hwt := hwt.symm
        subst hwt
        have c16 := Join_any J n _ _ w15 R1 Rh (by omega) (by omega)
        rw [HV.out] at c16
        dsimp only at c16
        go_wp2_with fail
        refine c16.mono ?_
        rintro e w16 ⟨v16, rfl, hO16, hB16⟩
        clear c16
        replace hB := chain hB hB16
        replace Rf := Rf.below hB16
        replace Rg := Rg.below hB16
        replace Rh := Rh.below hB16
        replace R1 := R1.below hB16
        replace R2 := R2.below hB16
        replace R3 := R3.below hB16
        replace R4 := R4.below hB16
        replace R5 := R5.below hB16
        replace R11 := R11.below hB16
        replace R12 := R12.below hB16
        replace R13 := R13.below hB16
        replace R14 := R14.below hB16
        replace R15 := R15.below hB16
        have R16 := OwnsC.frow hO16
        obtain ⟨p16, q16, rfl⟩ := OwnsC.len hO16
        go_wp2_with fail
        refine (told_t _ _ w16 ⟨_, _, _, rfl⟩ rfl).mono ?_
        rintro e wt ⟨rfl, hwt⟩
        replace hwt := hwt.symm
        subst hwt
        have c17 := same_any U U _ _ w16 R15.row R16.row (by omega)
        rw [decide_eq_true rfl] at c17
        go_wp2_with fail
        refine c17.mono ?_
        rintro e w17 ⟨rfl, hB17⟩
        clear c17
        replace hB := chain hB hB17
        replace Rf := Rf.below hB17
        replace Rg := Rg.below hB17
        replace Rh := Rh.below hB17
        replace R1 := R1.below hB17
        replace R2 := R2.below hB17
        replace R3 := R3.below hB17
        replace R4 := R4.below hB17
        replace R5 := R5.below hB17
        replace R11 := R11.below hB17
        replace R12 := R12.below hB17
        replace R13 := R13.below hB17
        replace R14 := R14.below hB17
        replace R15 := R15.below hB17
        replace R16 := R16.below hB17
        go_wp2
        go_ret
        exact ⟨rfl, hB⟩

theorem walk_FormulaLattice (l : List C) (vl : Value) (m : List C) (vm : Value) (n : List C) (vn : Value) (w : World) (Rf : FRow w vl l) (Rg : FRow w vm m) (Rh : FRow w vn n) :
    Calls Try.prog 6 #[vl, vm, vn] w fun e w' => e = .returned (.bool true) ∧ Below w.heap.size w w' := by
  by_cases h0 : 20 < l.length
  · exact lattice_big0 l m n vl vm vn w Rf Rg Rh h0
  by_cases h1 : 20 < m.length
  · exact lattice_big1 l m n vl vm vn w Rf Rg Rh h0 h1
  by_cases h2 : 20 < n.length
  · exact lattice_big2 l m n vl vm vn w Rf Rg Rh h0 h1 h2
  cases hf : rightF l
  · exact lattice_F l m n vl vm vn w Rf Rg Rh (by omega) (by omega) (by omega) (by rw [hf]; rfl)
  · cases hg : rightF m
    · exact lattice_F l m n vl vm vn w Rf Rg Rh (by omega) (by omega) (by omega) (by rw [hf, hg]; rfl)
    · exact lattice_T l m n vl vm vn w Rf Rg Rh (by omega) (by omega) (by omega) hf hg
end Go.Proofs.Ytkklmioejgpknaa
