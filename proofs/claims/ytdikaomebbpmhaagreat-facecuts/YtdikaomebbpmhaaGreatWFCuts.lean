/- The walk of the law FaceCuts: the call returns true; nothing that lay before it turns. -/
import Derived.Test.YtdikaomebbpmhaaGreatAWorks
import Derived.Test.YtdikaomebbpmhaaGreatASame
import Derived.Test.YtdikaomebbpmhaaGreatAPut
import Derived.Test.YtdikaomebbpmhaaGreatRFaceP
namespace Go.Proofs.YtdikaomebbpmhaaGreat
open Go.RowKit
set_option linter.unusedVariables false
set_option linter.unusedSimpArgs false

theorem own_apart {W : World} {b : Nat} {v v' : Value} {u : List C} (h1 : ∀ g, v.ownBlock = some g → g < b) (h2 : OwnsC W b v' u) : v'.ownBlock = none ∨ v'.ownBlock ≠ v.ownBlock := by
  cases e : v'.ownBlock with
  | none => exact .inl rfl
  | some g =>
    refine .inr fun h => ?_
    have a := h1 g h.symm
    have c := (World.ownsRow.lt h2 g e).1
    omega
theorem own_after {W W' : World} {b : Nat} {v6 v : Value} {u : List C} (hg : W.grownBy W' v6.ownBlock) (h6 : ∀ g, v6.ownBlock = some g → g < b) (h : OwnsC W b v u) : OwnsC W' b v u :=
  World.ownsRow.kept h hg (own_apart h6 h)
theorem own_lt {W : World} {b : Nat} {v : Value} {u : List C} (h : OwnsC W b v u) {n : Nat} (hn : W.heap.size ≤ n) : ∀ g, v.ownBlock = some g → g < n := fun g e => Nat.lt_of_lt_of_le (World.ownsRow.lt h g e).2 hn
set_option maxRecDepth 100000 in
set_option maxHeartbeats 4000000 in
theorem walk_FaceCuts (l : List C) (vl : Value) (c : C) (i : Int) (hi0 : (Lit.int .i64 i).wf = true) (r : List C) (vr : Value) (w : World) (Rf : FRow w vl l) (Rr : FRow w vr r) :
    Calls Tryz.prog 3 #[vl, clV c, .int .i64 i, vr] w fun e w' => e = .returned (.bool true) ∧ Below w.heap.size w w' := by
  clear hi0
  obtain ⟨pl, cl, rfl⟩ := Rf.len
  obtain ⟨pr, cr, rfl⟩ := Rr.len
  have hB := below_alloc w (.cells #[.int .u32 (c.1.val : Int), .int .u32 (c.2.val : Int)] 25)
  have hA := At.made w c 25
  have cg := fun W => great_any pl pr l.length r.length cl cr W
  by_cases hbig : 24 < l.length ∨ 24 < r.length
  · have hbb : (decide (24 < l.length) || decide (24 < r.length)) = true := by simpa using hbig
    simp only [hbb] at cg
    clear Rf Rr
    go_enter Tryz.func3, Tryz.ntmps3
    go_wp2_with fail
    generalize w.alloc (.cells #[.int .u32 (c.1.val : Int), .int .u32 (c.2.val : Int)] 25) = wb at hB hA ⊢
    refine (cg wb).mono ?_
    rintro e wt ⟨rfl, hwt⟩
    replace hwt := hwt.symm
    subst hwt
    clear cg
    go_wp2_with (go_at_call 5; refine (aworks_any _).mono ?_; rintro e w2 ⟨rfl, hB2⟩)
    go_ret
    exact ⟨rfl, chain hB hB2⟩
  · have hbb : (decide (24 < l.length) || decide (24 < r.length)) = false := by simp; omega
    simp only [hbb] at cg
    have hl : l.length ≤ 24 := by omega
    have hr : r.length ≤ 24 := by omega
    clear hbig hbb
    have HF : Hid (∀ W, Below w.heap.size w W → FRow W (.slice pl l.length cl) l) := fun W h => Rf.below h
    have HR : Hid (∀ W, Below w.heap.size w W → FRow W (.slice pr r.length cr) r) := fun W h => Rr.below h
    clear Rf Rr
    have hXl := rightA_len (rstA_right l c)
    have hYl := rightA_len (allA_right l i)
    have hPl := rightA_len (ptA_right l i r)
    have cX := fun a W ha => Restrict_any l a c W ha (by omega)
    have cRX := fun a W ha => rRestrict_any l a c W ha (by omega)
    have cY := fun a W ha => All_any l a i W ha (by omega)
    have cRY := fun a W ha => rAll_any l a i W ha (by omega)
    have cP := fun a b W ha hb => APut_any l r i a b W ha hb (by omega) (by omega)
    have cRP := fun a b W ha hb => rAPut_any l r i a b W ha hb (by omega) (by omega)
    generalize rstA l c = PX at cX cRX hXl
    generalize allA l i = PY at cY cRY hYl
    generalize ptA l i r = PP at cP cRP hPl
    obtain ⟨X, e1⟩ := PX
    obtain ⟨Y, e2⟩ := PY
    obtain ⟨P, e3⟩ := PP
    dsimp only at cX cRX cY cRY cP cRP hXl hYl hPl
    go_enter Tryz.func3, Tryz.ntmps3
    go_wp2_with fail
    generalize w.alloc (.cells #[.int .u32 (c.1.val : Int), .int .u32 (c.2.val : Int)] 25) = wb at hB hA ⊢
    refine (cg wb).mono ?_
    rintro e wt ⟨rfl, hwt⟩
    replace hwt := hwt.symm
    subst hwt
    clear cg
    have hE1 : OwnsC (wb.alloc (.cells #[] 25)) wb.heap.size (.slice (some ⟨wb.heap.size, 0, none⟩) 0 0) [] := empty_row wb _ (Nat.le_refl _)
    have hB2 := below_alloc wb (.cells #[] 25)
    go_wp2_with (first
      | (at_builtin; refine wpList_append_row rfl _ _ rfl wb.heap.size _ _ [] l rfl rfl hE1 (HF.out _ (chain hB hB2)).row (by simp; omega) hB2.size ?_; intro v3 w3 hO3 hg3 hv3; have hB3 : Below wb.heap.size wb w3 := hB2.trans (own_grown hE1 hg3 hB2.size); have hA3 := hA.below hB3; have u0 := hA3.1; have u1 := hA3.2.1)
      | fail)
    clear u0 u1
    have hBase : Below w.heap.size w w3 := chain hB hB3
    have hx : OwnsC w3 wb.heap.size v3 l := hO3
    clear hE1 hg3 hv3 hO3 hB2 hA hB hB3
    obtain ⟨p3, q3, rfl⟩ := OwnsC.len hx
    have bb : Below w3.heap.size w3 w3 := Below.refl _ _
    obtain ⟨zAx, zAy, zAz⟩ := hA3.below bb
    have ct := cX _ w3 (OwnsC.frow (OwnsC.below hx bb))
    go_wp2_with fail
    refine ct.mono ?_
    rintro e w4 ⟨v4, rfl, hO4, hB4⟩
    clear ct zAx zAy zAz
    replace bb := chain bb hB4
    obtain ⟨p4, q4, rfl⟩ := OwnsC.len hO4
    obtain ⟨zAx, zAy, zAz⟩ := hA3.below bb
    have ct := cRX _ w4 (HF.out w4 (chain hBase bb)).row
    go_wp2_with fail
    refine ct.mono ?_
    rintro e w5 ⟨v5, rfl, hO5, hB5⟩
    clear ct zAx zAy zAz
    replace bb := chain bb hB5
    obtain ⟨p5, q5, rfl⟩ := OwnsC.len hO5
    have ct := cY _ w5 (OwnsC.frow (OwnsC.below hx bb))
    go_wp2_with fail
    refine ct.mono ?_
    rintro e w6 ⟨v6, rfl, hO6, hB6⟩
    clear ct
    replace bb := chain bb hB6
    obtain ⟨p6, q6, rfl⟩ := OwnsC.len hO6
    have ct := cRY _ w6 (HF.out w6 (chain hBase bb)).row
    go_wp2_with fail
    refine ct.mono ?_
    rintro e w7 ⟨v7, rfl, hO7, hB7⟩
    clear ct
    replace bb := chain bb hB7
    obtain ⟨p7, q7, rfl⟩ := OwnsC.len hO7
    have ct := cP _ _ w7 (OwnsC.frow (OwnsC.below hx bb)) (HR.out w7 (chain hBase bb))
    go_wp2_with fail
    refine ct.mono ?_
    rintro e w8 ⟨v8, rfl, hO8, hB8⟩
    clear ct
    replace bb := chain bb hB8
    obtain ⟨p8, q8, rfl⟩ := OwnsC.len hO8
    have ct := cRP _ _ w8 (HF.out w8 (chain hBase bb)).row (HR.out w8 (chain hBase bb)).row
    go_wp2_with fail
    refine ct.mono ?_
    rintro e w9 ⟨v9, rfl, hO9, hB9⟩
    clear ct
    replace bb := chain bb hB9
    obtain ⟨p9, q9, rfl⟩ := OwnsC.len hO9
    have g4 := own_lt hO4 (Nat.le_refl _)
    replace hO4 := OwnsC.below hO4 hB5
    replace hO4 := OwnsC.below hO4 hB6
    replace hO4 := OwnsC.below hO4 hB7
    replace hO4 := OwnsC.below hO4 hB8
    replace hO4 := OwnsC.below hO4 hB9
    have s4 : w3.heap.size ≤ w4.heap.size := hB4.size
    have g5 := own_lt hO5 (Nat.le_refl _)
    replace hO5 := OwnsC.below hO5 hB6
    replace hO5 := OwnsC.below hO5 hB7
    replace hO5 := OwnsC.below hO5 hB8
    replace hO5 := OwnsC.below hO5 hB9
    have s5 : w4.heap.size ≤ w5.heap.size := hB5.size
    have g6 := own_lt hO6 (Nat.le_refl _)
    replace hO6 := OwnsC.below hO6 hB7
    replace hO6 := OwnsC.below hO6 hB8
    replace hO6 := OwnsC.below hO6 hB9
    have s6 : w5.heap.size ≤ w6.heap.size := hB6.size
    have g7 := own_lt hO7 (Nat.le_refl _)
    replace hO7 := OwnsC.below hO7 hB8
    replace hO7 := OwnsC.below hO7 hB9
    have s7 : w6.heap.size ≤ w7.heap.size := hB7.size
    have g8 := own_lt hO8 (Nat.le_refl _)
    replace hO8 := OwnsC.below hO8 hB9
    have s8 : w7.heap.size ≤ w8.heap.size := hB8.size
    have g9 := own_lt hO9 (Nat.le_refl _)
    have s9 : w8.heap.size ≤ w9.heap.size := hB9.size
    have sT : w3.heap.size ≤ w9.heap.size := bb.size
    clear hB4 hB5 hB6 hB7 hB8 hB9
    have cS := lsame_any X e1 _ _ w3.heap.size w9 hO4 (OwnsC.row hO5) (by omega)
    go_wp2_with fail
    refine cS.mono ?_
    rintro e w10 ⟨rfl, hg10⟩
    clear cS
    have bs : Below w3.heap.size w9 w10 := own_grown (OwnsC.mono hO4 (by omega)) hg10 (by omega)
    replace sT : w3.heap.size ≤ w10.heap.size := Nat.le_trans sT bs.size
    replace bb := bb.trans bs
    clear bs
    replace hO6 := own_after hg10 (fun g h => Nat.lt_of_lt_of_le (g4 g h) (by omega)) hO6
    replace hO7 := own_after hg10 (fun g h => Nat.lt_of_lt_of_le (g4 g h) (by omega)) hO7
    replace hO8 := own_after hg10 (fun g h => Nat.lt_of_lt_of_le (g4 g h) (by omega)) hO8
    replace hO9 := own_after hg10 (fun g h => Nat.lt_of_lt_of_le (g4 g h) (by omega)) hO9
    have cS := lsame_any Y e2 _ _ w5.heap.size w10 hO6 (OwnsC.row hO7) (by omega)
    go_wp2_with fail
    refine cS.mono ?_
    rintro e w11 ⟨rfl, hg11⟩
    clear cS
    have bs : Below w3.heap.size w10 w11 := own_grown (OwnsC.mono hO6 (by omega)) hg11 (by omega)
    replace sT : w3.heap.size ≤ w11.heap.size := Nat.le_trans sT bs.size
    replace bb := bb.trans bs
    clear bs
    replace hO8 := own_after hg11 (fun g h => Nat.lt_of_lt_of_le (g6 g h) (by omega)) hO8
    replace hO9 := own_after hg11 (fun g h => Nat.lt_of_lt_of_le (g6 g h) (by omega)) hO9
    have cS := lsame_any P e3 _ _ w7.heap.size w11 hO8 (OwnsC.row hO9) (by omega)
    go_wp2_with fail
    refine cS.mono ?_
    rintro e w12 ⟨rfl, hg12⟩
    clear cS
    have bs : Below w3.heap.size w11 w12 := own_grown (OwnsC.mono hO8 (by omega)) hg12 (by omega)
    replace sT : w3.heap.size ≤ w12.heap.size := Nat.le_trans sT bs.size
    replace bb := bb.trans bs
    clear bs
    clear hO4 hO5 hO6 hO7 hO8 hO9 g4 g5 g6 g7 g8 g9 s4 s5 s6 s7 s8 s9 hg12 hg11 hg10 sT
    have Sx := OwnsC.frow (OwnsC.below hx bb)
    have hB := chain hBase bb
    clear hBase bb hx hA3 cX cRX cY cRY cP cRP
    have c13 := same_any l l _ _ w12 Sx.row (HF.out w12 hB).row (by omega)
    rw [decide_eq_true rfl] at c13
    try dsimp only at c13
    go_wp2_with fail
    refine c13.mono ?_
    rintro e w13 ⟨rfl, hB13⟩
    clear c13
    replace hB := chain hB hB13
    replace Sx := Sx.below hB13
    clear hB13
    have c14 := aworks_any w13
    go_wp2_with fail
    refine c14.mono ?_
    rintro e w14 ⟨rfl, hB14⟩
    clear c14
    replace hB := chain hB hB14
    replace Sx := Sx.below hB14
    clear hB14
    go_wp2
    go_ret
    exact ⟨rfl, hB⟩
end Go.Proofs.YtdikaomebbpmhaaGreat
