/- The walk of the law FaceMakes: the call returns true; nothing that lay before it turns. -/
import Derived.Test.YtdikaomebbpmhaaAWorks
import Derived.Test.YtdikaomebbpmhaaASame
import Derived.Test.YtdikaomebbpmhaaRFace
namespace Go.Proofs.Ytdikaomebbpmhaa
open Go.RowKit
set_option linter.unusedVariables false
set_option linter.unusedSimpArgs false

theorem own_apart {W : World} {b : Nat} {v v' : Value} {u : List C} (h1 : ∀ g, v.ownBlock = some g → g < b) (h2 : OwnsC W b v' u) : v'.ownBlock = none ∨ v'.ownBlock ≠ v.ownBlock := by
  cases e : v'.ownBlock with
  | none => exact .inl rfl
  | some g =>
    refine .inr fun h => ?_
    have a := h1 g h.symm
    have c := (World.ownsRow.lt h2 g e).1
    omega
theorem own_after {W W' : World} {b : Nat} {v6 v : Value} {u : List C} (hg : W.grownBy W' v6.ownBlock) (h6 : ∀ g, v6.ownBlock = some g → g < b) (h : OwnsC W b v u) : OwnsC W' b v u :=
  World.ownsRow.kept h hg (own_apart h6 h)
theorem own_lt {W : World} {b : Nat} {v : Value} {u : List C} (h : OwnsC W b v u) {n : Nat} (hn : W.heap.size ≤ n) : ∀ g, v.ownBlock = some g → g < n := fun g e => Nat.lt_of_lt_of_le (World.ownsRow.lt h g e).2 hn
set_option maxRecDepth 100000 in
set_option maxHeartbeats 4000000 in
theorem walk_FaceMakes (l : List C) (vl : Value) (m : List C) (vm : Value) (w : World) (Rf : FRow w vl l) (Rg : FRow w vm m) :
    Calls Try.prog 3 #[vl, vm] w fun e w' => e = .returned (.bool true) ∧ Below w.heap.size w w' := by
  obtain ⟨pl, cl, rfl⟩ := Rf.len
  obtain ⟨pm, cm, rfl⟩ := Rg.len
  have cg := great_any pl pm l.length m.length cl cm w
  by_cases hbig : 24 < l.length ∨ 24 < m.length
  · have hbb : (decide (24 < l.length) || decide (24 < m.length)) = true := by simpa using hbig
    rw [hbb] at cg
    clear Rf Rg
    go_enter Try.func3, Try.ntmps3
    go_wp2_with fail
    refine cg.mono ?_
    rintro e wt ⟨rfl, hwt⟩
    replace hwt := hwt.symm
    subst hwt
    clear cg
    go_wp2_with (go_at_call 9; refine (aworks_any _).mono ?_; rintro e w2 ⟨rfl, hB2⟩)
    go_ret
    exact ⟨rfl, hB2⟩
  · have hbb : (decide (24 < l.length) || decide (24 < m.length)) = false := by simp; omega
    rw [hbb] at cg
    have hl : l.length ≤ 24 := by omega
    have hm : m.length ≤ 24 := by omega
    clear hbig hbb
    have HF : Hid (∀ W, Below w.heap.size w W → FRow W (.slice pl l.length cl) l) := fun W h => Rf.below h
    have HG : Hid (∀ W, Below w.heap.size w W → FRow W (.slice pm m.length cm) m) := fun W h => Rg.below h
    clear Rf Rg
    have hOl := rightA_len (ofF_right l)
    have hZl := rightA_len (ofZ_right l)
    have hJl := rightA_len (jnA_right l m)
    have hMl := rightA_len (mtA_right l m)
    have cO := fun a W ha => Of_any l a W ha (by omega)
    have cRO := fun a W ha => rOf_any l a W ha (by omega)
    have cZ := fun a W ha => OfZero_any l a W ha (by omega)
    have cRZ := fun a W ha => rOfZero_any l a W ha (by omega)
    have cJ := fun a b W ha hb => AJoin_any l m a b W ha hb (by omega) (by omega)
    have cRJ := fun a b W ha hb => rAJoin_any l m a b W ha hb (by omega) (by omega)
    have cM := fun a b W ha hb => AMeet_any l m a b W ha hb (by omega) (by omega)
    have cRM := fun a b W ha hb => rAMeet_any l m a b W ha hb (by omega) (by omega)
    generalize ofF l = PO at cO cRO hOl
    generalize ofZ l = PZ at cZ cRZ hZl
    generalize jnA l m = PJ at cJ cRJ hJl
    generalize mtA l m = PM at cM cRM hMl
    obtain ⟨O, e1⟩ := PO
    obtain ⟨Z, e2⟩ := PZ
    obtain ⟨J, e3⟩ := PJ
    obtain ⟨M, e4⟩ := PM
    dsimp only at cO cRO cZ cRZ cJ cRJ cM cRM hOl hZl hJl hMl
    go_enter Try.func3, Try.ntmps3
    go_wp2_with fail
    refine cg.mono ?_
    rintro e w1 ⟨rfl, hw1⟩
    replace hw1 := hw1.symm
    subst hw1
    clear cg
    have hE1 : OwnsC (w.alloc (.cells #[] 35)) w.heap.size (.slice (some ⟨w.heap.size, 0, none⟩) 0 0) [] := empty_row w _ (Nat.le_refl _)
    have hB2 := below_alloc w (.cells #[] 35)
    go_wp2_with (first
      | (at_builtin; refine wpList_append_row rfl _ _ rfl w.heap.size _ _ [] l rfl rfl hE1 (HF.out _ hB2).row (by simp; omega) hB2.size ?_; intro v3 w3 hO3 hg3 hv3; have hB3 := hB2.trans (own_grown hE1 hg3 hB2.size); have hE3 : OwnsC (w3.alloc (.cells #[] 35)) w3.heap.size (.slice (some ⟨w3.heap.size, 0, none⟩) 0 0) [] := empty_row w3 _ (Nat.le_refl _); have hB4 := chain hB3 (below_alloc w3 (.cells #[] 35)))
      | (at_builtin; refine wpList_append_row rfl _ _ rfl w3.heap.size _ _ [] m rfl rfl hE3 (HG.out _ hB4).row (by simp; omega) (by simp) ?_; intro v5 w5 hO5 hg5 hv5)
      | fail)
    have hB35 : Below w3.heap.size w3 w5 := (below_alloc w3 (.cells #[] 35)).trans (own_grown hE3 hg5 (by simp))
    have hB5 : Below w.heap.size w w5 := chain hB3 hB35
    have hx : OwnsC w5 w.heap.size v3 l := OwnsC.below hO3 hB35
    have hy : OwnsC w5 w3.heap.size v5 m := hO5
    clear hE1 hE3 hg3 hg5 hv3 hv5 hO3 hO5 hB35 hB4 hB3 hB2
    obtain ⟨p3, q3, rfl⟩ := OwnsC.len hx
    obtain ⟨p5, q5, rfl⟩ := OwnsC.len hy
    have bb : Below w5.heap.size w5 w5 := Below.refl _ _
    have ct := cO _ w5 (OwnsC.frow (OwnsC.below hx bb))
    go_wp2_with fail
    refine ct.mono ?_
    rintro e w6 ⟨v6, rfl, hO6, hB6⟩
    clear ct
    replace bb := chain bb hB6
    obtain ⟨p6, q6, rfl⟩ := OwnsC.len hO6
    have ct := cRO _ w6 (HF.out w6 (chain hB5 bb)).row
    go_wp2_with fail
    refine ct.mono ?_
    rintro e w7 ⟨v7, rfl, hO7, hB7⟩
    clear ct
    replace bb := chain bb hB7
    obtain ⟨p7, q7, rfl⟩ := OwnsC.len hO7
    have ct := cZ _ w7 (OwnsC.frow (OwnsC.below hx bb))
    go_wp2_with fail
    refine ct.mono ?_
    rintro e w8 ⟨v8, rfl, hO8, hB8⟩
    clear ct
    replace bb := chain bb hB8
    obtain ⟨p8, q8, rfl⟩ := OwnsC.len hO8
    have ct := cRZ _ w8 (HF.out w8 (chain hB5 bb)).row
    go_wp2_with fail
    refine ct.mono ?_
    rintro e w9 ⟨v9, rfl, hO9, hB9⟩
    clear ct
    replace bb := chain bb hB9
    obtain ⟨p9, q9, rfl⟩ := OwnsC.len hO9
    have g6 := own_lt hO6 (Nat.le_refl _)
    replace hO6 := OwnsC.below hO6 hB7
    replace hO6 := OwnsC.below hO6 hB8
    replace hO6 := OwnsC.below hO6 hB9
    have s6 : w5.heap.size ≤ w6.heap.size := hB6.size
    have g7 := own_lt hO7 (Nat.le_refl _)
    replace hO7 := OwnsC.below hO7 hB8
    replace hO7 := OwnsC.below hO7 hB9
    have s7 : w6.heap.size ≤ w7.heap.size := hB7.size
    have g8 := own_lt hO8 (Nat.le_refl _)
    replace hO8 := OwnsC.below hO8 hB9
    have s8 : w7.heap.size ≤ w8.heap.size := hB8.size
    have g9 := own_lt hO9 (Nat.le_refl _)
    have s9 : w8.heap.size ≤ w9.heap.size := hB9.size
    have sT : w5.heap.size ≤ w9.heap.size := bb.size
    clear hB6 hB7 hB8 hB9
    have cS := lsame_any O e1 _ _ w5.heap.size w9 hO6 (OwnsC.row hO7) (by omega)
    go_wp2_with fail
    refine cS.mono ?_
    rintro e w10 ⟨rfl, hg10⟩
    clear cS
    have bs : Below w5.heap.size w9 w10 := own_grown (OwnsC.mono hO6 (by omega)) hg10 (by omega)
    replace sT : w5.heap.size ≤ w10.heap.size := Nat.le_trans sT bs.size
    replace bb := bb.trans bs
    clear bs
    replace hO8 := own_after hg10 (fun g h => Nat.lt_of_lt_of_le (g6 g h) (by omega)) hO8
    replace hO9 := own_after hg10 (fun g h => Nat.lt_of_lt_of_le (g6 g h) (by omega)) hO9
    have cS := lsame_any Z e2 _ _ w7.heap.size w10 hO8 (OwnsC.row hO9) (by omega)
    go_wp2_with fail
    refine cS.mono ?_
    rintro e w11 ⟨rfl, hg11⟩
    clear cS
    have bs : Below w5.heap.size w10 w11 := own_grown (OwnsC.mono hO8 (by omega)) hg11 (by omega)
    replace sT : w5.heap.size ≤ w11.heap.size := Nat.le_trans sT bs.size
    replace bb := bb.trans bs
    clear bs
    clear hO6 hO7 hO8 hO9 g6 g7 g8 g9 s6 s7 s8 s9 hg11 hg10 sT
    replace hx := OwnsC.below hx bb
    replace hy := OwnsC.below hy bb
    have hB6 := chain hB5 bb
    clear hB5 bb cO cRO cZ cRZ
    have bb : Below w11.heap.size w11 w11 := Below.refl _ _
    have ct := cJ _ _ w11 (OwnsC.frow (OwnsC.below hx bb)) (OwnsC.frow (OwnsC.below hy bb))
    go_wp2_with fail
    refine ct.mono ?_
    rintro e w12 ⟨v12, rfl, hO12, hB12⟩
    clear ct
    replace bb := chain bb hB12
    obtain ⟨p12, q12, rfl⟩ := OwnsC.len hO12
    have ct := cRJ _ _ w12 (HF.out w12 (chain hB6 bb)).row (HG.out w12 (chain hB6 bb)).row
    go_wp2_with fail
    refine ct.mono ?_
    rintro e w13 ⟨v13, rfl, hO13, hB13⟩
    clear ct
    replace bb := chain bb hB13
    obtain ⟨p13, q13, rfl⟩ := OwnsC.len hO13
    have ct := cM _ _ w13 (OwnsC.frow (OwnsC.below hx bb)) (OwnsC.frow (OwnsC.below hy bb))
    go_wp2_with fail
    refine ct.mono ?_
    rintro e w14 ⟨v14, rfl, hO14, hB14⟩
    clear ct
    replace bb := chain bb hB14
    obtain ⟨p14, q14, rfl⟩ := OwnsC.len hO14
    have ct := cRM _ _ w14 (HF.out w14 (chain hB6 bb)).row (HG.out w14 (chain hB6 bb)).row
    go_wp2_with fail
    refine ct.mono ?_
    rintro e w15 ⟨v15, rfl, hO15, hB15⟩
    clear ct
    replace bb := chain bb hB15
    obtain ⟨p15, q15, rfl⟩ := OwnsC.len hO15
    have g12 := own_lt hO12 (Nat.le_refl _)
    replace hO12 := OwnsC.below hO12 hB13
    replace hO12 := OwnsC.below hO12 hB14
    replace hO12 := OwnsC.below hO12 hB15
    have s12 : w11.heap.size ≤ w12.heap.size := hB12.size
    have g13 := own_lt hO13 (Nat.le_refl _)
    replace hO13 := OwnsC.below hO13 hB14
    replace hO13 := OwnsC.below hO13 hB15
    have s13 : w12.heap.size ≤ w13.heap.size := hB13.size
    have g14 := own_lt hO14 (Nat.le_refl _)
    replace hO14 := OwnsC.below hO14 hB15
    have s14 : w13.heap.size ≤ w14.heap.size := hB14.size
    have g15 := own_lt hO15 (Nat.le_refl _)
    have s15 : w14.heap.size ≤ w15.heap.size := hB15.size
    have sT : w11.heap.size ≤ w15.heap.size := bb.size
    clear hB12 hB13 hB14 hB15
    have cS := lsame_any J e3 _ _ w11.heap.size w15 hO12 (OwnsC.row hO13) (by omega)
    go_wp2_with fail
    refine cS.mono ?_
    rintro e w16 ⟨rfl, hg16⟩
    clear cS
    have bs : Below w11.heap.size w15 w16 := own_grown (OwnsC.mono hO12 (by omega)) hg16 (by omega)
    replace sT : w11.heap.size ≤ w16.heap.size := Nat.le_trans sT bs.size
    replace bb := bb.trans bs
    clear bs
    replace hO14 := own_after hg16 (fun g h => Nat.lt_of_lt_of_le (g12 g h) (by omega)) hO14
    replace hO15 := own_after hg16 (fun g h => Nat.lt_of_lt_of_le (g12 g h) (by omega)) hO15
    have cS := lsame_any M e4 _ _ w13.heap.size w16 hO14 (OwnsC.row hO15) (by omega)
    go_wp2_with fail
    refine cS.mono ?_
    rintro e w17 ⟨rfl, hg17⟩
    clear cS
    have bs : Below w11.heap.size w16 w17 := own_grown (OwnsC.mono hO14 (by omega)) hg17 (by omega)
    replace sT : w11.heap.size ≤ w17.heap.size := Nat.le_trans sT bs.size
    replace bb := bb.trans bs
    clear bs
    clear hO12 hO13 hO14 hO15 g12 g13 g14 g15 s12 s13 s14 s15 hg17 hg16 sT
    replace hx := OwnsC.below hx bb
    replace hy := OwnsC.below hy bb
    have hB := chain hB6 bb
    clear hB6 bb cJ cRJ cM cRM
    have Sx := OwnsC.frow hx
    have Sy := OwnsC.frow hy
    clear hx hy
    have c18 := same_any l l _ _ w17 Sx.row (HF.out w17 hB).row (by omega)
    rw [decide_eq_true rfl] at c18
    try dsimp only at c18
    go_wp2_with fail
    refine c18.mono ?_
    rintro e w18 ⟨rfl, hB18⟩
    clear c18
    replace hB := chain hB hB18
    replace Sx := Sx.below hB18
    replace Sy := Sy.below hB18
    clear hB18
    have c19 := same_any m m _ _ w18 Sy.row (HG.out w18 hB).row (by omega)
    rw [decide_eq_true rfl] at c19
    try dsimp only at c19
    go_wp2_with fail
    refine c19.mono ?_
    rintro e w19 ⟨rfl, hB19⟩
    clear c19
    replace hB := chain hB hB19
    replace Sx := Sx.below hB19
    replace Sy := Sy.below hB19
    clear hB19
    have c20 := aworks_any w19
    go_wp2_with fail
    refine c20.mono ?_
    rintro e w20 ⟨rfl, hB20⟩
    clear c20
    replace hB := chain hB hB20
    replace Sx := Sx.below hB20
    replace Sy := Sy.below hB20
    clear hB20
    go_wp2
    go_ret
    exact ⟨rfl, hB⟩
end Go.Proofs.Ytdikaomebbpmhaa
