/- The walk of the law FormulaPuts: the call returns true; nothing that lay before it turns. -/
import Derived.Test.YtkklmioejgpknaaRPut
import Derived.Test.YtkklmioejgpknaaWJoins
namespace Go.Proofs.Ytkklmioejgpknaa
open Go.RowKit
set_option linter.unusedVariables false
set_option linter.unusedSimpArgs false

set_option maxRecDepth 100000 in
set_option maxHeartbeats 2000000 in
theorem rPut_any (l r : List C) (i : Int) (vl vr : Value) (w : World) (hl : CRow w vl l) (hr : CRow w vr r) (hll : l.length ≤ 40000) (hrl : r.length ≤ 40000) :
    Calls Try.prog 24 #[vl, .int .i64 i, vr] w fun e w' => ∃ v, e = .returned (.tuple #[v, .int .i64 (putF l i r).2]) ∧ OwnsC w' w.heap.size v (putF l i r).1 ∧ Below w.heap.size w w' := by
  by_cases hok : rightF l = true ∧ rightF r = true ∧ ¬ i < 0 ∧ ¬ 24 ≤ i
  · obtain ⟨hf, hg, h0, h1⟩ := hok
    rw [putF_ok hf hg (isDimB_yes (by omega) (by omega))]
    exact rPut_ok l r i vl vr w hl hr hf hg h0 h1
  · have HJ : Hid (putF l i r = ([], 2)) := by
      show putF l i r = ([], 2)
      unfold putF
      refine if_neg fun h => hok ?_
      simp only [Bool.and_eq_true] at h
      have hd : 0 ≤ i ∧ i < 24 := by simpa [isDimB] using h.2
      exact ⟨h.1.1, h.1.2, by omega, by omega⟩
    have c1 := rfright_any l vl w hl (by omega)
    have c2 := fun W (h : Below w.heap.size w W) => rfright_any r vr W (hr.below h) (by omega)
    obtain ⟨pl, cl, rfl⟩ := hl.len
    obtain ⟨pr, cr, rfl⟩ := hr.len
    clear hl hr
    cases hf : rightF l
    · rw [hf] at c1
      go_enter Try.func24, Try.ntmps24
      go_wp2_with fail
      refine c1.mono ?_
      rintro e w1 ⟨rfl, hB1⟩
      clear c1
      go_wp2
      go_ret2
      rw [HJ.out]
      exact ⟨_, rfl, World.ownsRow_nil _ _ _ _, hB1⟩
    · rw [hf] at c1
      cases hg : rightF r
      · simp only [hg] at c2
        go_enter Try.func24, Try.ntmps24
        go_wp2_with fail
        refine c1.mono ?_
        rintro e w1 ⟨rfl, hB1⟩
        clear c1
        replace c2 := c2 w1 hB1
        go_wp2_with fail
        refine c2.mono ?_
        rintro e w2 ⟨rfl, hB2⟩
        clear c2
        go_wp2
        go_ret2
        rw [HJ.out]
        exact ⟨_, rfl, World.ownsRow_nil _ _ _ _, chain hB1 hB2⟩
      · simp only [hg] at c2
        have hbad : i < 0 ∨ (¬ i < 0 ∧ 24 ≤ i) := by
          by_cases h0 : i < 0
          · exact .inl h0
          · by_cases h1 : 24 ≤ i
            · exact .inr ⟨h0, h1⟩
            · exact absurd ⟨hf, hg, h0, h1⟩ hok
        clear hok
        rcases hbad with h0 | ⟨h0, h1⟩
        · go_enter Try.func24, Try.ntmps24
          go_wp2_with fail
          refine c1.mono ?_
          rintro e w1 ⟨rfl, hB1⟩
          clear c1
          replace c2 := c2 w1 hB1
          go_wp2_with fail
          refine c2.mono ?_
          rintro e w2 ⟨rfl, hB2⟩
          clear c2
          go_wp2
          go_ret2
          rw [HJ.out]
          exact ⟨_, rfl, World.ownsRow_nil _ _ _ _, chain hB1 hB2⟩
        · go_enter Try.func24, Try.ntmps24
          go_wp2_with fail
          refine c1.mono ?_
          rintro e w1 ⟨rfl, hB1⟩
          clear c1
          replace c2 := c2 w1 hB1
          go_wp2_with fail
          refine c2.mono ?_
          rintro e w2 ⟨rfl, hB2⟩
          clear c2
          go_wp2
          go_ret2
          rw [HJ.out]
          exact ⟨_, rfl, World.ownsRow_nil _ _ _ _, chain hB1 hB2⟩

set_option maxRecDepth 100000 in
set_option maxHeartbeats 4000000 in
theorem walk_FormulaPuts (l : List C) (vl : Value) (i : Int) (hi : (Lit.int .i64 i).wf = true) (m : List C) (vm : Value) (fr : Int) (hfr : (Lit.int .i64 fr).wf = true) (by_ : Int) (hby : (Lit.int .i64 by_).wf = true) (w : World) (Rf : FRow w vl l) (Rg : FRow w vm m) :
    Calls Try.prog 5 #[vl, .int .i64 i, vm, .int .i64 fr, .int .i64 by_] w fun e w' => e = .returned (.bool true) ∧ Below w.heap.size w w' := by
  clear hi hfr hby
  obtain ⟨pl, cl, rfl⟩ := Rf.len
  obtain ⟨pm, cm, rfl⟩ := Rg.len
  have hB1 := below_alloc w (.cells #[Value.slice pl l.length cl, Value.slice pm m.length cm] 22)
  have c0 := great2 pl pm l.length m.length cl cm w
  by_cases hbig : 24 < l.length ∨ 24 < m.length
  · have hbb : (decide (24 < l.length) || decide (24 < m.length)) = true := by simpa using hbig
    rw [hbb] at c0
    clear Rf Rg
    go_enter Try.func5, Try.ntmps5
    go_wp2_with fail
    refine c0.mono ?_
    rintro e w1 ⟨rfl, hw1⟩
    rw [← hw1] at hB1
    clear c0 hw1
    go_wp2_with (go_at_call 10; refine (fworks_any _).mono ?_; rintro e w2 ⟨rfl, hB2⟩)
    go_ret
    exact ⟨rfl, chain hB1 hB2⟩
  · have hbb : (decide (24 < l.length) || decide (24 < m.length)) = false := by simp; omega
    rw [hbb] at c0
    have hl : l.length ≤ 24 := by omega
    have hm : m.length ≤ 24 := by omega
    clear hbig hbb
    have HF : Hid (∀ W, Below w.heap.size w W → FRow W (.slice pl l.length cl) l) := fun W h => Rf.below h
    have HG : Hid (∀ W, Below w.heap.size w W → FRow W (.slice pm m.length cm) m) := fun W h => Rg.below h
    clear Rf Rg
    have hJl := putF_len l i m
    have hMl := liftFF_len l fr by_
    have cJ := fun a b W ha hb => Put_any l m i a b W ha hb (by omega) (by omega)
    have cRJ := fun a b W ha hb => rPut_any l m i a b W ha hb (by omega) (by omega)
    have cM := fun a W ha => Lift_any l fr by_ a W ha (by omega)
    have cRM := fun a W ha => rLift_any l fr by_ a W ha (by omega)
    have cD := fun a W ha => Dims_any l a W ha (by omega)
    have cRD := fun a W ha => rDims_any l a W ha (by omega)
    generalize putF l i m = PJ at cJ cRJ hJl
    generalize liftFF l fr by_ = PM at cM cRM hMl
    generalize dimsN l = dl at cD cRD
    obtain ⟨J, e1⟩ := PJ
    obtain ⟨M, e2⟩ := PM
    dsimp only at cJ cRJ cM cRM hJl hMl
    have hdd : ((dl : Int) == (dl : Int)) = true := by simp
    go_enter Try.func5, Try.ntmps5
    go_wp2_with fail
    refine c0.mono ?_
    rintro e w5 ⟨rfl, hw5⟩
    rw [← hw5] at hB1
    clear c0 hw5
    have hB5 := hB1
    replace cJ := cJ _ _ w5 (HF.out w5 hB5) (HG.out w5 hB5)
    go_wp2_with fail
    refine cJ.mono ?_
    rintro e w6 ⟨v6, rfl, hO6, hB6⟩
    clear cJ
    obtain ⟨p6, q6, rfl⟩ := OwnsC.len hO6
    have hB06 := chain hB5 hB6
    replace cRJ := cRJ _ _ w6 (HF.out w6 hB06).row (HG.out w6 hB06).row
    go_wp2_with fail
    refine cRJ.mono ?_
    rintro e w7 ⟨v7, rfl, hO7, hB7⟩
    clear cRJ
    obtain ⟨p7, q7, rfl⟩ := OwnsC.len hO7
    have hB57 := chain hB6 hB7
    have hB07 := chain hB5 hB57
    replace cM := cM _ w7 (HF.out w7 hB07)
    go_wp2_with fail
    refine cM.mono ?_
    rintro e w8 ⟨v8, rfl, hO8, hB8⟩
    clear cM
    obtain ⟨p8, q8, rfl⟩ := OwnsC.len hO8
    have hB08 := chain hB07 hB8
    replace cRM := cRM _ w8 (HF.out w8 hB08).row
    go_wp2_with fail
    refine cRM.mono ?_
    rintro e w9 ⟨v9, rfl, hO9, hB9⟩
    clear cRM
    obtain ⟨p9, q9, rfl⟩ := OwnsC.len hO9
    have b89 := hB9
    have b79 := chain hB8 b89
    have b69 := chain hB7 b79
    have b59 := chain hB6 b69
    have s7 : w6.heap.size ≤ w7.heap.size := hB7.size
    have s8 : w7.heap.size ≤ w8.heap.size := hB8.size
    have s5 : w5.heap.size ≤ w6.heap.size := hB6.size
    have s59 : w5.heap.size ≤ w9.heap.size := b59.size
    have g6 := own_lt hO6 (Nat.le_refl _)
    have a6 : OwnsC w9 w5.heap.size _ J := OwnsC.below hO6 b69
    have a7 : OwnsC w9 w6.heap.size _ J := OwnsC.below hO7 b79
    have a8 : OwnsC w9 w7.heap.size _ M := OwnsC.below hO8 b89
    have a9 : OwnsC w9 w8.heap.size _ M := hO9
    clear hO6 hO7 hO8 hO9
    have cS := lsame_any J e1 _ _ w5.heap.size w9 a6 (OwnsC.row a7) (by omega)
    go_wp2_with fail
    refine cS.mono ?_
    rintro e w12 ⟨rfl, hg12⟩
    clear cS
    have b12 : Below w5.heap.size w9 w12 := own_grown a6 hg12 s59
    have z8 := own_after hg12 (fun g h => Nat.lt_of_lt_of_le (g6 g h) s7) a8
    have z9 := own_after hg12 (fun g h => Nat.lt_of_lt_of_le (g6 g h) (Nat.le_trans s7 s8)) a9
    have cS := lsame_any M e2 _ _ w7.heap.size w12 z8 (OwnsC.row z9) (by omega)
    go_wp2_with fail
    refine cS.mono ?_
    rintro e w13 ⟨rfl, hg13⟩
    clear cS
    have b13 : Below w5.heap.size w12 w13 := own_grown (OwnsC.mono z8 (Nat.le_trans s5 s7)) hg13 (Nat.le_trans s59 b12.size)
    have b513 : Below w5.heap.size w5 w13 := b59.trans (b12.trans b13)
    have b013 := chain hB5 b513
    go_wp2_with fail
    refine (cD _ w13 (HF.out w13 b013).row).mono ?_
    rintro e w15 ⟨rfl, hB15⟩
    clear cD
    have b015 := chain b013 hB15
    go_wp2_with fail
    refine (cRD _ w15 (HF.out w15 b015).row).mono ?_
    rintro e w16 ⟨rfl, hB16⟩
    clear cRD
    have b016 := chain b015 hB16
    go_wp2_with (go_at_call 10; refine (fworks_any _).mono ?_; rintro e w19 ⟨rfl, hB19⟩)
    go_ret
    exact ⟨rfl, chain b016 hB19⟩
end Go.Proofs.Ytkklmioejgpknaa
