/- The walk of the law FormulaJoins: the call returns true; nothing that lay before it turns. -/
import Derived.Test.YtkklmioejgpknaaWNots
namespace Go.Proofs.Ytkklmioejgpknaa
open Go.RowKit
set_option linter.unusedVariables false
set_option linter.unusedSimpArgs false

theorem own_apart {W : World} {b : Nat} {v v' : Value} {u : List C} (h1 : ∀ g, v.ownBlock = some g → g < b) (h2 : OwnsC W b v' u) : v'.ownBlock = none ∨ v'.ownBlock ≠ v.ownBlock := by
  cases e : v'.ownBlock with
  | none => exact .inl rfl
  | some g =>
    refine .inr fun h => ?_
    have a := h1 g h.symm
    have c := (World.ownsRow.lt h2 g e).1
    omega
theorem own_after {W W' : World} {b : Nat} {v6 v : Value} {u : List C} (hg : W.grownBy W' v6.ownBlock) (h6 : ∀ g, v6.ownBlock = some g → g < b) (h : OwnsC W b v u) : OwnsC W' b v u :=
  World.ownsRow.kept h hg (own_apart h6 h)
theorem own_lt {W : World} {b : Nat} {v : Value} {u : List C} (h : OwnsC W b v u) {n : Nat} (hn : W.heap.size ≤ n) : ∀ g, v.ownBlock = some g → g < n := fun g e => Nat.lt_of_lt_of_le (World.ownsRow.lt h g e).2 hn
theorem dimF_len (i : Int) : (dimF i).1.length ≤ 64 := by unfold dimF; split <;> simp

set_option maxRecDepth 100000 in
set_option maxHeartbeats 4000000 in
theorem walk_FormulaJoins (l : List C) (vl : Value) (m : List C) (vm : Value) (i : Int) (hi : (Lit.int .i64 i).wf = true) (w : World) (Rf : FRow w vl l) (Rg : FRow w vm m) :
    Calls Try.prog 3 #[vl, vm, .int .i64 i] w fun e w' => e = .returned (.bool true) ∧ Below w.heap.size w w' := by
  clear hi
  obtain ⟨pl, cl, rfl⟩ := Rf.len
  obtain ⟨pm, cm, rfl⟩ := Rg.len
  have hB1 := below_alloc w (.cells #[Value.slice pl l.length cl, Value.slice pm m.length cm] 22)
  have c0 := great2 pl pm l.length m.length cl cm w
  by_cases hbig : 24 < l.length ∨ 24 < m.length
  · have hbb : (decide (24 < l.length) || decide (24 < m.length)) = true := by simpa using hbig
    rw [hbb] at c0
    clear Rf Rg
    go_enter Try.func3, Try.ntmps3
    go_wp2_with fail
    refine c0.mono ?_
    rintro e w1 ⟨rfl, hw1⟩
    rw [← hw1] at hB1
    clear c0 hw1
    go_wp2_with (go_at_call 10; refine (fworks_any _).mono ?_; rintro e w2 ⟨rfl, hB2⟩)
    go_ret
    exact ⟨rfl, chain hB1 hB2⟩
  · have hbb : (decide (24 < l.length) || decide (24 < m.length)) = false := by simp; omega
    rw [hbb] at c0
    have hl : l.length ≤ 24 := by omega
    have hm : m.length ≤ 24 := by omega
    clear hbig hbb
    have HF : Hid (∀ W, Below w.heap.size w W → FRow W (.slice pl l.length cl) l) := fun W h => Rf.below h
    have HG : Hid (∀ W, Below w.heap.size w W → FRow W (.slice pm m.length cm) m) := fun W h => Rg.below h
    clear Rf Rg
    have hJl := joinF_len l m
    have hMl := meetF_len l m
    have hDl := dimF_len i
    have cJ := fun a b W ha hb => Join_any l m a b W ha hb (by omega) (by omega)
    have cRJ := fun a b W ha hb => rJoin_any l m a b W ha hb (by omega) (by omega)
    have cM := fun a b W ha hb => Meet_any l m a b W ha hb (by omega) (by omega)
    have cRM := fun a b W ha hb => rMeet_any l m a b W ha hb (by omega) (by omega)
    have cD := fun W => dim_any i W
    have cRD := fun W => rDim_any i W
    have cR := fun a W ha => fright_any l a W ha (by omega)
    have cRR := fun a W ha => rfright_any l a W ha (by omega)
    generalize joinF l m = PJ at cJ cRJ hJl
    generalize meetF l m = PM at cM cRM hMl
    generalize dimF i = PD at cD cRD hDl
    generalize rightF l = r at cR cRR
    obtain ⟨J, e1⟩ := PJ
    obtain ⟨M, e2⟩ := PM
    obtain ⟨D, e3⟩ := PD
    dsimp only at cJ cRJ cM cRM cD cRD hJl hMl hDl
    have hrr : (r == r) = true := by simp
    go_enter Try.func3, Try.ntmps3
    go_wp2_with fail
    refine c0.mono ?_
    rintro e w1 ⟨rfl, hw1⟩
    rw [← hw1] at hB1
    clear c0 hw1
    have hE1 : OwnsC (w1.alloc (.cells #[] 52)) w.heap.size (.slice (some ⟨w1.heap.size, 0, none⟩) 0 0) [] := empty_row w1 _ hB1.size
    have hB2 := chain hB1 (below_alloc w1 (.cells #[] 52))
    go_wp2_with (first
      | (at_builtin; refine wpList_append_row rfl _ _ rfl w.heap.size _ _ [] l rfl rfl hE1 (HF.out _ hB2).row (by simp; omega) hB2.size ?_; intro v3 w3 hO3 hg3 hv3; have hB3 := hB2.trans (own_grown hE1 hg3 hB2.size); have hE3 : OwnsC (w3.alloc (.cells #[] 52)) w3.heap.size (.slice (some ⟨w3.heap.size, 0, none⟩) 0 0) [] := empty_row w3 _ (Nat.le_refl _); have hB4 := chain hB3 (below_alloc w3 (.cells #[] 52)))
      | (at_builtin; refine wpList_append_row rfl _ _ rfl w3.heap.size _ _ [] m rfl rfl hE3 (HG.out _ hB4).row (by simp; omega) (by simp) ?_; intro v5 w5 hO5 hg5 hv5)
      | fail)
    have hB35 : Below w3.heap.size w3 w5 := (below_alloc w3 (.cells #[] 52)).trans (own_grown hE3 hg5 (by simp))
    have hB5 : Below w.heap.size w w5 := chain hB3 hB35
    have hx : OwnsC w5 w.heap.size v3 l := OwnsC.below hO3 hB35
    have hy : OwnsC w5 w3.heap.size v5 m := hO5
    clear hE1 hE3 hg3 hg5 hv3 hv5 hO3 hO5
    have HL : Hid (l.length ≤ 24) := hl
    have HMm : Hid (m.length ≤ 24) := hm
    obtain ⟨p3, q3, rfl⟩ := OwnsC.len hx
    obtain ⟨p5, q5, rfl⟩ := OwnsC.len hy
    replace cJ := cJ _ _ w5 (OwnsC.frow hx) (OwnsC.frow hy)
    go_wp2_with fail
    refine cJ.mono ?_
    rintro e w6 ⟨v6, rfl, hO6, hB6⟩
    clear cJ
    obtain ⟨p6, q6, rfl⟩ := OwnsC.len hO6
    have hB06 := chain hB5 hB6
    replace cRJ := cRJ _ _ w6 (HF.out w6 hB06).row (HG.out w6 hB06).row
    go_wp2_with fail
    refine cRJ.mono ?_
    rintro e w7 ⟨v7, rfl, hO7, hB7⟩
    clear cRJ
    obtain ⟨p7, q7, rfl⟩ := OwnsC.len hO7
    have hB57 := chain hB6 hB7
    have hB07 := chain hB5 hB57
    replace cM := cM _ _ w7 (OwnsC.frow (OwnsC.below hx hB57)) (OwnsC.frow (OwnsC.below hy hB57))
    go_wp2_with fail
    refine cM.mono ?_
    rintro e w8 ⟨v8, rfl, hO8, hB8⟩
    clear cM
    obtain ⟨p8, q8, rfl⟩ := OwnsC.len hO8
    have hB08 := chain hB07 hB8
    replace cRM := cRM _ _ w8 (HF.out w8 hB08).row (HG.out w8 hB08).row
    go_wp2_with fail
    refine cRM.mono ?_
    rintro e w9 ⟨v9, rfl, hO9, hB9⟩
    clear cRM
    obtain ⟨p9, q9, rfl⟩ := OwnsC.len hO9
    go_wp2_with fail
    refine (cD w9).mono ?_
    rintro e w10 ⟨v10, rfl, hO10, hB10⟩
    clear cD
    obtain ⟨p10, q10, rfl⟩ := OwnsC.len hO10
    go_wp2_with fail
    refine (cRD w10).mono ?_
    rintro e w11 ⟨v11, rfl, hO11, hB11⟩
    clear cRD
    obtain ⟨p11, q11, rfl⟩ := OwnsC.len hO11
    have b1011 := hB11
    have b911 := chain hB10 b1011
    have b811 := chain hB9 b911
    have b711 := chain hB8 b811
    have b611 := chain hB7 b711
    have b511 := chain hB6 b611
    have s6 : w6.heap.size ≤ w11.heap.size := b611.size
    have s7 : w6.heap.size ≤ w7.heap.size := hB7.size
    have s8 : w7.heap.size ≤ w8.heap.size := hB8.size
    have s9 : w8.heap.size ≤ w9.heap.size := hB9.size
    have s10 : w9.heap.size ≤ w10.heap.size := hB10.size
    have s5 : w5.heap.size ≤ w6.heap.size := hB6.size
    have s511 : w5.heap.size ≤ w11.heap.size := b511.size
    have g6 := own_lt hO6 (Nat.le_refl _)
    have g8 := own_lt hO8 (Nat.le_refl _)
    have g10 := own_lt hO10 (Nat.le_refl _)
    have a6 : OwnsC w11 w5.heap.size _ J := OwnsC.below hO6 b611
    have a7 : OwnsC w11 w6.heap.size _ J := OwnsC.below hO7 b711
    have a8 : OwnsC w11 w7.heap.size _ M := OwnsC.below hO8 b811
    have a9 : OwnsC w11 w8.heap.size _ M := OwnsC.below hO9 b911
    have a10 : OwnsC w11 w9.heap.size _ D := OwnsC.below hO10 b1011
    have a11 : OwnsC w11 w10.heap.size _ D := hO11
    clear hO6 hO7 hO8 hO9 hO10 hO11
    have cS := lsame_any J e1 _ _ w5.heap.size w11 a6 (OwnsC.row a7) (by omega)
    go_wp2_with fail
    refine cS.mono ?_
    rintro e w12 ⟨rfl, hg12⟩
    clear cS
    have b12 : Below w5.heap.size w11 w12 := own_grown a6 hg12 s511
    have z8 := own_after hg12 (fun g h => Nat.lt_of_lt_of_le (g6 g h) s7) a8
    have z9 := own_after hg12 (fun g h => Nat.lt_of_lt_of_le (g6 g h) (Nat.le_trans s7 s8)) a9
    have z10 := own_after hg12 (fun g h => Nat.lt_of_lt_of_le (g6 g h) (Nat.le_trans s7 (Nat.le_trans s8 s9))) a10
    have z11 := own_after hg12 (fun g h => Nat.lt_of_lt_of_le (g6 g h) (Nat.le_trans s7 (Nat.le_trans s8 (Nat.le_trans s9 s10)))) a11
    have cS := lsame_any M e2 _ _ w7.heap.size w12 z8 (OwnsC.row z9) (by omega)
    go_wp2_with fail
    refine cS.mono ?_
    rintro e w13 ⟨rfl, hg13⟩
    clear cS
    have b13 : Below w5.heap.size w12 w13 := own_grown (OwnsC.mono z8 (Nat.le_trans s5 s7)) hg13 (Nat.le_trans s511 b12.size)
    have y10 := own_after hg13 (fun g h => Nat.lt_of_lt_of_le (g8 g h) s9) z10
    have y11 := own_after hg13 (fun g h => Nat.lt_of_lt_of_le (g8 g h) (Nat.le_trans s9 s10)) z11
    have cS := lsame_any D e3 _ _ w9.heap.size w13 y10 (OwnsC.row y11) (by omega)
    go_wp2_with fail
    refine cS.mono ?_
    rintro e w14 ⟨rfl, hg14⟩
    clear cS
    have b14 : Below w5.heap.size w13 w14 := own_grown (OwnsC.mono y10 (Nat.le_trans s5 (Nat.le_trans s7 (Nat.le_trans s8 s9)))) hg14 (Nat.le_trans s511 (Nat.le_trans b12.size b13.size))
    have b514 : Below w5.heap.size w5 w14 := b511.trans (b12.trans (b13.trans b14))
    have b014 := chain hB5 b514
    have hx14 := OwnsC.below hx b514
    have hy14 := OwnsC.below hy b514
    go_wp2_with fail
    refine (cR _ w14 (OwnsC.frow hx14)).mono ?_
    rintro e w15 ⟨rfl, hB15⟩
    clear cR
    have b015 := chain b014 hB15
    go_wp2_with fail
    refine (cRR _ w15 (HF.out w15 b015).row).mono ?_
    rintro e w16 ⟨rfl, hB16⟩
    clear cRR
    have b016 := chain b015 hB16
    have b1416 := chain hB15 hB16
    have cS := same_any l l _ _ w16 (OwnsC.row (OwnsC.below hx14 b1416)) (HF.out w16 b016).row (by have := HL.out; omega)
    rw [decide_eq_true rfl] at cS
    go_wp2_with fail
    refine cS.mono ?_
    rintro e w17 ⟨rfl, hB17⟩
    clear cS
    have b017 := chain b016 hB17
    have b1417 := chain b1416 hB17
    have cS := same_any m m _ _ w17 (OwnsC.row (OwnsC.below hy14 b1417)) (HG.out w17 b017).row (by have := HMm.out; omega)
    rw [decide_eq_true rfl] at cS
    go_wp2_with fail
    refine cS.mono ?_
    rintro e w18 ⟨rfl, hB18⟩
    clear cS
    have b018 := chain b017 hB18
    go_wp2_with (go_at_call 10; refine (fworks_any _).mono ?_; rintro e w19 ⟨rfl, hB19⟩)
    go_ret
    exact ⟨rfl, chain b018 hB19⟩
end Go.Proofs.Ytkklmioejgpknaa
