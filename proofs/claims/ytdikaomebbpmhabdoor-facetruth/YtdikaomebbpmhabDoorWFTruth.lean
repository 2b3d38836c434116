/- The walk of the law FaceTruth: the call returns true; nothing that lay before it turns. -/
import Derived.Test.YtdikaomebbpmhabDoorAWorks
import Derived.Test.YtdikaomebbpmhabDoorASame
import Derived.Test.YtdikaomebbpmhabDoorAMathT
import Derived.Test.YtdikaomebbpmhabDoorTEv
import Derived.Test.YtdikaomebbpmhabDoorTAppZ
namespace Go.Proofs.YtdikaomebbpmhabDoor
open Go.RowKit
set_option linter.unusedVariables false
set_option linter.unusedSimpArgs false

set_option maxRecDepth 100000 in
set_option maxHeartbeats 4000000 in
theorem walk_FaceTruth (l : List C) (vl : Value) (c : C) (w : World) (Rf : FRow w vl l) (hT : Tabs w) :
    Calls Tryd.prog 3 #[vl, clV c] w fun e w' => e = .returned (.bool true) ∧ Below w.heap.size w w' := by
  have HT : Hid (∀ W, Below w.heap.size w W → Tabs W) := fun W h => hT.below h
  clear hT
  obtain ⟨pl, cl, rfl⟩ := Rf.len
  have hB := below_alloc w (.cells #[.int .u32 (c.1.val : Int), .int .u32 (c.2.val : Int)] 25)
  have hA := At.made w c 25
  replace Rf := Rf.below hB
  go_enter Tryd.func3, Tryd.ntmps3
  go_wp2_with fail
  generalize w.alloc (.cells #[.int .u32 (c.1.val : Int), .int .u32 (c.2.val : Int)] 25) = wb at hB hA Rf ⊢
  have c1 := aworks_any wb
  refine c1.mono ?_
  rintro e w1 ⟨rfl, hB1⟩
  clear c1
  replace hB := chain hB hB1
  replace Rf := Rf.below hB1
  replace hA := hA.below hB1
  clear hB1
  have cg := great_any pl none l.length 0 cl 0 w1
  by_cases hbig : 24 < l.length
  · have hbb : (decide (24 < l.length) || decide (24 < 0)) = true := by simpa using hbig
    rw [hbb] at cg
    have c2 := cg
    go_wp2_with fail
    refine c2.mono ?_
    rintro e wt ⟨rfl, hwt⟩
    replace hwt := hwt.symm
    subst hwt
    clear c2
    go_wp2
    go_ret
    exact ⟨rfl, hB⟩
  · have hbb : (decide (24 < l.length) || decide (24 < 0)) = false := by simp; omega
    rw [hbb] at cg
    have hl : l.length ≤ 24 := by omega
    clear hbig hbb
    have c2 := cg
    go_wp2_with fail
    refine c2.mono ?_
    rintro e wt ⟨rfl, hwt⟩
    replace hwt := hwt.symm
    subst hwt
    clear c2
    have hA0 := hA
    obtain ⟨hAx, hAy, hAz⟩ := hA0
    have cc := cright_any c w1
    cases hc : rightC c
    · rw [hc] at cc
      have c3 := cc
      go_wp2_with fail
      refine c3.mono ?_
      rintro e w3 ⟨rfl, hG3⟩
      have hB3 := hG3.below
      clear c3 hG3
      replace hB := chain hB hB3
      replace Rf := Rf.below hB3
      replace hA := hA.below hB3
      clear hB3
      go_wp2
      go_ret
      exact ⟨rfl, hB⟩
    · rw [hc] at cc
      have c3 := cc
      go_wp2_with fail
      refine c3.mono ?_
      rintro e w3 ⟨rfl, hG3⟩
      have hB3 := hG3.below
      clear c3 hG3
      replace hB := chain hB hB3
      replace Rf := Rf.below hB3
      replace hA := hA.below hB3
      clear hB3
      clear hAx hAy hAz
      have hA0 := hA
      obtain ⟨hAx, hAy, hAz⟩ := hA0
      have cc := clash_any c w3
      cases hk : clashC c
      · rw [hk] at cc
        have c4 := cc
        go_wp2_with fail
        refine c4.mono ?_
        rintro e w4 ⟨rfl, hG4⟩
        have hB4 := hG4.below
        clear c4 hG4
        replace hB := chain hB hB4
        replace Rf := Rf.below hB4
        replace hA := hA.below hB4
        clear hB4
        clear hAx hAy hAz
        have sc : Hid (singleC c = true) := singleC_iff.2 ⟨hc, by simp [okC, hk]⟩
        clear hc hk
        go_wp2
        go_loopw [5, 31] (fun v j wr => ∃ k : Nat, k ≤ 24 ∧ j = .int .i64 k ∧ OwnsZ wr w4.heap.size v ((List.range k).map (atC c)) ∧ Below w4.heap.size w4 wr) (fun _ j _ => 24 - (intOf j).toNat)
        case atStart => exact ⟨0, Nat.zero_le _, rfl, World.ownsRow_nil _ _ _ _, Below.refl _ _⟩
        case round =>
          obtain ⟨k, hk, rfl, hO, hny⟩ := hrel
          by_cases hlt : k < 24
          · have hlt' : (k : Int) < 24 := by omega
            have hb1 := has_bits c.1.val k c.1.isLt
            have hb2 := has_bits c.2.val k c.2.isLt
            obtain ⟨z0, z1, z2⟩ := hA.below hny
            have HS : Hid ((List.range (k + 1)).map (atC c) = (List.range k).map (atC c) ++ [atC c k]) := by show _ = _; simp [List.range_succ]
            have hlen : Hid (((List.range k).map (atC c)).length + 1 ≤ 200000) := by show _ ≤ _; simp; omega
            have hsz := hny.size
            cases hq : c.2.val.testBit k
            · cases hp : c.1.val.testBit k
              · have HV : Hid (atC c k = 2) := by show _ = _; simp [atC, hp, hq]
                rw [hp] at hb1
                rw [hq] at hb2
                clear hp hq
                go_wp2_with (at_builtin; refine wpList_append_rowZ rfl _ _ rfl w4.heap.size _ _ _ [2] rfl rfl (OwnsZ.below hO (below_alloc _ _)) (rowZ_one _ _) hlen.out (Nat.le_trans hsz (by simp)) ?_; intro v4 w4 hO4 hg4)
                have hX := chain hny (below_alloc wr (.cells #[.int .i64 2] 3))
                have hOX := OwnsZ.below hO (below_alloc wr (.cells #[.int .i64 2] 3))
                go_roundw
                case rel => exact ⟨k + 1, by omega, by go_num, by rw [HS.out, HV.out]; exact hO4, hX.trans (ownZ_grown hOX hg4 hX.size)⟩
                case measure => simp [intOf]; omega
              · have HV : Hid (atC c k = 1) := by show _ = _; simp [atC, hp, hq]
                rw [hp] at hb1
                rw [hq] at hb2
                clear hp hq
                go_wp2_with (at_builtin; refine wpList_append_rowZ rfl _ _ rfl w4.heap.size _ _ _ [1] rfl rfl (OwnsZ.below hO (below_alloc _ _)) (rowZ_one _ _) hlen.out (Nat.le_trans hsz (by simp)) ?_; intro v4 w4 hO4 hg4)
                have hX := chain hny (below_alloc wr (.cells #[.int .i64 1] 3))
                have hOX := OwnsZ.below hO (below_alloc wr (.cells #[.int .i64 1] 3))
                go_roundw
                case rel => exact ⟨k + 1, by omega, by go_num, by rw [HS.out, HV.out]; exact hO4, hX.trans (ownZ_grown hOX hg4 hX.size)⟩
                case measure => simp [intOf]; omega
            · have HV : Hid (atC c k = 0) := by show _ = _; simp [atC, hq]
              cases hp : c.1.val.testBit k
              · rw [hp] at hb1
                rw [hq] at hb2
                clear hp hq
                go_wp2_with (at_builtin; refine wpList_append_rowZ rfl _ _ rfl w4.heap.size _ _ _ [0] rfl rfl (OwnsZ.below hO (below_alloc _ _)) (rowZ_one _ _) hlen.out (Nat.le_trans hsz (by simp)) ?_; intro v4 w4 hO4 hg4)
                have hX := chain hny (below_alloc wr (.cells #[.int .i64 0] 3))
                have hOX := OwnsZ.below hO (below_alloc wr (.cells #[.int .i64 0] 3))
                go_roundw
                case rel => exact ⟨k + 1, by omega, by go_num, by rw [HS.out, HV.out]; exact hO4, hX.trans (ownZ_grown hOX hg4 hX.size)⟩
                case measure => simp [intOf]; omega
              · rw [hp] at hb1
                rw [hq] at hb2
                clear hp hq
                go_wp2_with (at_builtin; refine wpList_append_rowZ rfl _ _ rfl w4.heap.size _ _ _ [0] rfl rfl (OwnsZ.below hO (below_alloc _ _)) (rowZ_one _ _) hlen.out (Nat.le_trans hsz (by simp)) ?_; intro v4 w4 hO4 hg4)
                have hX := chain hny (below_alloc wr (.cells #[.int .i64 0] 3))
                have hOX := OwnsZ.below hO (below_alloc wr (.cells #[.int .i64 0] 3))
                go_roundw
                case rel => exact ⟨k + 1, by omega, by go_num, by rw [HS.out, HV.out]; exact hO4, hX.trans (ownZ_grown hOX hg4 hX.size)⟩
                case measure => simp [intOf]; omega
          · obtain rfl : k = 24 := by omega
            have hZ := hO.rowZ
            obtain ⟨pz, qz, e0⟩ := OwnsZ.len hO
            replace e0 : _ = Value.slice pz 24 qz := e0
            subst e0
            have HA0 : Hid (∀ k, k < 24 → atZ ((List.range 24).map (atC c)) k = atC c k) := fun k hk => by show _ = _; simp [atZ, hk]
            clear hO
            replace hB := chain hB hny
            replace Rf := Rf.below hny
            replace hA := hA.below hny
            clear hny
            have cE := Eval_any l ((List.range 24).map (atC c)) _ _ wr (HT.out wr hB) Rf hZ (by omega)
            cases hr : rightF l
            · have hE : evalF l (atZ ((List.range 24).map (atC c))) = (0, 2) := by simp [evalF, hr]
              rw [hE] at cE
              clear hE
              have c31 := cE
              go_wp2_with fail
              refine c31.mono ?_
              rintro e w31 ⟨rfl, hB31⟩
              clear c31
              replace hB := chain hB hB31
              replace Rf := Rf.below hB31
              replace hA := hA.below hB31
              clear hB31
              go_wp2
              go_ret
              exact ⟨rfl, hB⟩
            · have hE : evalF l (atZ ((List.range 24).map (atC c))) = (valF l (atZ ((List.range 24).map (atC c))), 0) := by simp [evalF, hr]
              have hV := of_val hr sc.out HA0.out
              have hO2 := ofF_told hr
              have rO := ofF_right l
              have rZ := ofZ_right l
              have TZ : Hid (ToldA (ofZ l)) := ToldA.ofZ hr
              rw [hE] at cE
              clear hE HA0 hZ hr
              generalize valF l (atZ ((List.range 24).map (atC c))) = val at cE hV
              obtain ⟨O, hO⟩ : ∃ O, ofF l = (O, 0) := ⟨_, Prod.ext rfl hO2⟩
              obtain ⟨Z, hZ⟩ : ∃ Z, ofZ l = Z := ⟨_, rfl⟩
              rw [hO] at hV rO
              rw [hZ] at hV rZ TZ
              obtain ⟨Z, ze⟩ := Z
              dsimp only at hV rO rZ
              have lO := rightA_len rO
              have lZ := rightA_len rZ
              have HO : Hid (ofF l = (O, 0)) := hO
              have HZ : Hid (ofZ l = (Z, ze)) := hZ
              have H1 : Hid (hldA O c = (decide (val = 1), 0)) := by show _ = _; rw [hldA_ok rO sc.out, hV.1]
              have H2 : Hid (ze = 0 → hldA Z c = (decide (val = 0), 0)) := fun h => by rw [hldA_ok rZ sc.out, hV.2 h]
              clear hV hO2 rO rZ hO hZ sc
              have c31 := cE
              go_wp2_with fail
              refine c31.mono ?_
              rintro e w31 ⟨rfl, hB31⟩
              clear c31
              replace hB := chain hB hB31
              replace Rf := Rf.below hB31
              replace hA := hA.below hB31
              clear hB31
              clear cE
              by_cases v1 : val = 1
              · subst v1
                have H3 : Hid (hldA O c = (true, 0)) := by show _ = _; rw [H1.out]; simp
                clear H1
                have c32 := Of_any l _ w31 Rf (by omega)
                rw [HO.out] at c32
                try dsimp only at c32
                go_wp2_with fail
                refine c32.mono ?_
                rintro e w32 ⟨v32, rfl, hO32, hB32⟩
                clear c32
                replace hB := chain hB hB32
                replace Rf := Rf.below hB32
                replace hA := hA.below hB32
                clear hB32
                have Ro := OwnsC.frow hO32
                obtain ⟨p32, q32, rfl⟩ := OwnsC.len hO32
                clear hO32
                have hA0 := hA
                obtain ⟨hAx, hAy, hAz⟩ := hA0
                have c33 := Holds_any O _ c w32 Ro (by omega)
                rw [H3.out] at c33
                try dsimp only at c33
                go_wp2_with fail
                refine c33.mono ?_
                rintro e w33 ⟨rfl, hB33⟩
                clear c33
                replace hB := chain hB hB33
                replace Rf := Rf.below hB33
                replace hA := hA.below hB33
                replace Ro := Ro.below hB33
                clear hB33
                clear hAx hAy hAz
                by_cases z0 : ze = 0
                · subst z0
                  have H4 : Hid (hldA Z c = (false, 0)) := by show _ = _; rw [H2.out rfl]; simp [*]
                  clear H2
                  have c34 := OfZero_any l _ w33 Rf (by omega)
                  rw [HZ.out] at c34
                  try dsimp only at c34
                  go_wp2_with fail
                  refine c34.mono ?_
                  rintro e w34 ⟨v34, rfl, hO34, hB34⟩
                  clear c34
                  replace hB := chain hB hB34
                  replace Rf := Rf.below hB34
                  replace hA := hA.below hB34
                  replace Ro := Ro.below hB34
                  clear hB34
                  have Rz := OwnsC.frow hO34
                  obtain ⟨p34, q34, rfl⟩ := OwnsC.len hO34
                  clear hO34
                  have hA0 := hA
                  obtain ⟨hAx, hAy, hAz⟩ := hA0
                  have c35 := Holds_any Z _ c w34 Rz (by omega)
                  rw [H4.out] at c35
                  try dsimp only at c35
                  go_wp2_with fail
                  refine c35.mono ?_
                  rintro e w35 ⟨rfl, hB35⟩
                  clear c35
                  replace hB := chain hB hB35
                  replace Rf := Rf.below hB35
                  replace hA := hA.below hB35
                  replace Ro := Ro.below hB35
                  replace Rz := Rz.below hB35
                  clear hB35
                  clear hAx hAy hAz
                  go_wp2
                  go_ret
                  exact ⟨rfl, hB⟩
                · have h3 : ze = 3 := by have := TZ.out.no z0; injection this with _ h
                  clear H2 TZ
                  subst h3
                  have c34 := OfZero_any l _ w33 Rf (by omega)
                  rw [HZ.out] at c34
                  try dsimp only at c34
                  go_wp2_with fail
                  refine c34.mono ?_
                  rintro e w34 ⟨v34, rfl, hO34, hB34⟩
                  clear c34
                  replace hB := chain hB hB34
                  replace Rf := Rf.below hB34
                  replace hA := hA.below hB34
                  replace Ro := Ro.below hB34
                  clear hB34
                  have Rz := OwnsC.frow hO34
                  obtain ⟨p34, q34, rfl⟩ := OwnsC.len hO34
                  clear hO34
                  go_wp2
                  go_ret
                  exact ⟨rfl, hB⟩
              · by_cases v0 : val = 0
                · subst v0
                  clear v1
                  have H3 : Hid (hldA O c = (false, 0)) := by show _ = _; rw [H1.out]; simp [*]
                  clear H1
                  have c32 := Of_any l _ w31 Rf (by omega)
                  rw [HO.out] at c32
                  try dsimp only at c32
                  go_wp2_with fail
                  refine c32.mono ?_
                  rintro e w32 ⟨v32, rfl, hO32, hB32⟩
                  clear c32
                  replace hB := chain hB hB32
                  replace Rf := Rf.below hB32
                  replace hA := hA.below hB32
                  clear hB32
                  have Ro := OwnsC.frow hO32
                  obtain ⟨p32, q32, rfl⟩ := OwnsC.len hO32
                  clear hO32
                  have hA0 := hA
                  obtain ⟨hAx, hAy, hAz⟩ := hA0
                  have c33 := Holds_any O _ c w32 Ro (by omega)
                  rw [H3.out] at c33
                  try dsimp only at c33
                  go_wp2_with fail
                  refine c33.mono ?_
                  rintro e w33 ⟨rfl, hB33⟩
                  clear c33
                  replace hB := chain hB hB33
                  replace Rf := Rf.below hB33
                  replace hA := hA.below hB33
                  replace Ro := Ro.below hB33
                  clear hB33
                  clear hAx hAy hAz
                  by_cases z0 : ze = 0
                  · subst z0
                    have H4 : Hid (hldA Z c = (true, 0)) := by show _ = _; rw [H2.out rfl]; simp
                    clear H2
                    have c34 := OfZero_any l _ w33 Rf (by omega)
                    rw [HZ.out] at c34
                    try dsimp only at c34
                    go_wp2_with fail
                    refine c34.mono ?_
                    rintro e w34 ⟨v34, rfl, hO34, hB34⟩
                    clear c34
                    replace hB := chain hB hB34
                    replace Rf := Rf.below hB34
                    replace hA := hA.below hB34
                    replace Ro := Ro.below hB34
                    clear hB34
                    have Rz := OwnsC.frow hO34
                    obtain ⟨p34, q34, rfl⟩ := OwnsC.len hO34
                    clear hO34
                    have hA0 := hA
                    obtain ⟨hAx, hAy, hAz⟩ := hA0
                    have c35 := Holds_any Z _ c w34 Rz (by omega)
                    rw [H4.out] at c35
                    try dsimp only at c35
                    go_wp2_with fail
                    refine c35.mono ?_
                    rintro e w35 ⟨rfl, hB35⟩
                    clear c35
                    replace hB := chain hB hB35
                    replace Rf := Rf.below hB35
                    replace hA := hA.below hB35
                    replace Ro := Ro.below hB35
                    replace Rz := Rz.below hB35
                    clear hB35
                    clear hAx hAy hAz
                    go_wp2
                    go_ret
                    exact ⟨rfl, hB⟩
                  · have h3 : ze = 3 := by have := TZ.out.no z0; injection this with _ h
                    clear H2 TZ
                    subst h3
                    have c34 := OfZero_any l _ w33 Rf (by omega)
                    rw [HZ.out] at c34
                    try dsimp only at c34
                    go_wp2_with fail
                    refine c34.mono ?_
                    rintro e w34 ⟨v34, rfl, hO34, hB34⟩
                    clear c34
                    replace hB := chain hB hB34
                    replace Rf := Rf.below hB34
                    replace hA := hA.below hB34
                    replace Ro := Ro.below hB34
                    clear hB34
                    have Rz := OwnsC.frow hO34
                    obtain ⟨p34, q34, rfl⟩ := OwnsC.len hO34
                    clear hO34
                    go_wp2
                    go_ret
                    exact ⟨rfl, hB⟩
                · have v2 : (val == 1) = false := by simpa using v1
                  have v3 : (val == 0) = false := by simpa using v0
                  have H3 : Hid (hldA O c = (false, 0)) := by show _ = _; rw [H1.out]; simp [*]
                  clear H1
                  have c32 := Of_any l _ w31 Rf (by omega)
                  rw [HO.out] at c32
                  try dsimp only at c32
                  go_wp2_with fail
                  refine c32.mono ?_
                  rintro e w32 ⟨v32, rfl, hO32, hB32⟩
                  clear c32
                  replace hB := chain hB hB32
                  replace Rf := Rf.below hB32
                  replace hA := hA.below hB32
                  clear hB32
                  have Ro := OwnsC.frow hO32
                  obtain ⟨p32, q32, rfl⟩ := OwnsC.len hO32
                  clear hO32
                  have hA0 := hA
                  obtain ⟨hAx, hAy, hAz⟩ := hA0
                  have c33 := Holds_any O _ c w32 Ro (by omega)
                  rw [H3.out] at c33
                  try dsimp only at c33
                  go_wp2_with fail
                  refine c33.mono ?_
                  rintro e w33 ⟨rfl, hB33⟩
                  clear c33
                  replace hB := chain hB hB33
                  replace Rf := Rf.below hB33
                  replace hA := hA.below hB33
                  replace Ro := Ro.below hB33
                  clear hB33
                  clear hAx hAy hAz
                  by_cases z0 : ze = 0
                  · subst z0
                    have H4 : Hid (hldA Z c = (false, 0)) := by show _ = _; rw [H2.out rfl]; simp [*]
                    clear H2
                    have c34 := OfZero_any l _ w33 Rf (by omega)
                    rw [HZ.out] at c34
                    try dsimp only at c34
                    go_wp2_with fail
                    refine c34.mono ?_
                    rintro e w34 ⟨v34, rfl, hO34, hB34⟩
                    clear c34
                    replace hB := chain hB hB34
                    replace Rf := Rf.below hB34
                    replace hA := hA.below hB34
                    replace Ro := Ro.below hB34
                    clear hB34
                    have Rz := OwnsC.frow hO34
                    obtain ⟨p34, q34, rfl⟩ := OwnsC.len hO34
                    clear hO34
                    have hA0 := hA
                    obtain ⟨hAx, hAy, hAz⟩ := hA0
                    have c35 := Holds_any Z _ c w34 Rz (by omega)
                    rw [H4.out] at c35
                    try dsimp only at c35
                    go_wp2_with fail
                    refine c35.mono ?_
                    rintro e w35 ⟨rfl, hB35⟩
                    clear c35
                    replace hB := chain hB hB35
                    replace Rf := Rf.below hB35
                    replace hA := hA.below hB35
                    replace Ro := Ro.below hB35
                    replace Rz := Rz.below hB35
                    clear hB35
                    clear hAx hAy hAz
                    go_wp2
                    go_ret
                    exact ⟨rfl, hB⟩
                  · have h3 : ze = 3 := by have := TZ.out.no z0; injection this with _ h
                    clear H2 TZ
                    subst h3
                    have c34 := OfZero_any l _ w33 Rf (by omega)
                    rw [HZ.out] at c34
                    try dsimp only at c34
                    go_wp2_with fail
                    refine c34.mono ?_
                    rintro e w34 ⟨v34, rfl, hO34, hB34⟩
                    clear c34
                    replace hB := chain hB hB34
                    replace Rf := Rf.below hB34
                    replace hA := hA.below hB34
                    replace Ro := Ro.below hB34
                    clear hB34
                    have Rz := OwnsC.frow hO34
                    obtain ⟨p34, q34, rfl⟩ := OwnsC.len hO34
                    clear hO34
                    go_wp2
                    go_ret
                    exact ⟨rfl, hB⟩
      · rw [hk] at cc
        have c4 := cc
        go_wp2_with fail
        refine c4.mono ?_
        rintro e w4 ⟨rfl, hG4⟩
        have hB4 := hG4.below
        clear c4 hG4
        replace hB := chain hB hB4
        replace Rf := Rf.below hB4
        replace hA := hA.below hB4
        clear hB4
        go_wp2
        go_ret
        exact ⟨rfl, hB⟩
end Go.Proofs.YtdikaomebbpmhabDoor
