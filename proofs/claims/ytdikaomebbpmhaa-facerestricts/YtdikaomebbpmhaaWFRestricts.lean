/- The walk of the law FaceRestricts: the call returns true; nothing that lay before it turns. -/
import Derived.Test.YtdikaomebbpmhaaAWorks
import Derived.Test.YtdikaomebbpmhaaASame
namespace Go.Proofs.Ytdikaomebbpmhaa
open Go.RowKit
set_option linter.unusedVariables false
set_option linter.unusedSimpArgs false

set_option maxRecDepth 100000 in
set_option maxHeartbeats 4000000 in
theorem walk_FaceRestricts (l : List C) (vl : Value) (c d : C) (w : World) (Rf : FRow w vl l) :
    Calls Try.prog 7 #[vl, clV c, clV d] w fun e w' => e = .returned (.bool true) ∧ Below w.heap.size w w' := by
  obtain ⟨pl, cl, rfl⟩ := Rf.len
  have hB : Below w.heap.size w ((w.alloc (.cells #[.int .u32 (c.1.val : Int), .int .u32 (c.2.val : Int)] 35)).alloc (.cells #[.int .u32 (d.1.val : Int), .int .u32 (d.2.val : Int)] 35)) := (below_alloc w _).alloc (by simp) _
  have hA : At ((w.alloc (.cells #[.int .u32 (c.1.val : Int), .int .u32 (c.2.val : Int)] 35)).alloc (.cells #[.int .u32 (d.1.val : Int), .int .u32 (d.2.val : Int)] 35)) w.heap.size c := (At.made w c 35).alloc _
  have hD : At ((w.alloc (.cells #[.int .u32 (c.1.val : Int), .int .u32 (c.2.val : Int)] 35)).alloc (.cells #[.int .u32 (d.1.val : Int), .int .u32 (d.2.val : Int)] 35)) (w.heap.size + 1) d := by
    have h := At.made (w.alloc (.cells #[.int .u32 (c.1.val : Int), .int .u32 (c.2.val : Int)] 35)) d 35
    rw [World.size_alloc] at h
    exact h
  replace Rf := Rf.below hB
  go_enter Try.func7, Try.ntmps7
  go_wp2_with fail
  generalize (w.alloc (.cells #[.int .u32 (c.1.val : Int), .int .u32 (c.2.val : Int)] 35)).alloc (.cells #[.int .u32 (d.1.val : Int), .int .u32 (d.2.val : Int)] 35) = wb at hB hA hD Rf ⊢
  have c1 := aworks_any wb
  refine c1.mono ?_
  rintro e w1 ⟨rfl, hB1⟩
  clear c1
  replace hB := chain hB hB1
  replace Rf := Rf.below hB1
  replace hA := hA.below hB1
  replace hD := hD.below hB1
  clear hB1
  have cg := great_any pl none l.length 0 cl 0 w1
  by_cases hbig : 24 < l.length
  · have hbb : (decide (24 < l.length) || decide (24 < 0)) = true := by simpa using hbig
    rw [hbb] at cg
    have c2 := cg
    go_wp2_with fail
    refine c2.mono ?_
    rintro e wt ⟨rfl, hwt⟩
    replace hwt := hwt.symm
    subst hwt
    clear c2
    go_wp2
    go_ret
    exact ⟨rfl, hB⟩
  · have hbb : (decide (24 < l.length) || decide (24 < 0)) = false := by simp; omega
    rw [hbb] at cg
    have hl : l.length ≤ 24 := by omega
    clear hbig hbb
    have c2 := cg
    go_wp2_with fail
    refine c2.mono ?_
    rintro e wt ⟨rfl, hwt⟩
    replace hwt := hwt.symm
    subst hwt
    clear c2
    have cc := aright_any l _ w1 Rf (by omega)
    cases hf : rightA l
    · rw [hf] at cc
      have c3 := cc
      go_wp2_with fail
      refine c3.mono ?_
      rintro e w3 ⟨rfl, hB3⟩
      clear c3
      replace hB := chain hB hB3
      replace Rf := Rf.below hB3
      replace hA := hA.below hB3
      replace hD := hD.below hB3
      clear hB3
      go_wp2
      go_ret
      exact ⟨rfl, hB⟩
    · rw [hf] at cc
      have c3 := cc
      go_wp2_with fail
      refine c3.mono ?_
      rintro e w3 ⟨rfl, hB3⟩
      clear c3
      replace hB := chain hB hB3
      replace Rf := Rf.below hB3
      replace hA := hA.below hB3
      replace hD := hD.below hB3
      clear hB3
      have hA0 := hA
      obtain ⟨hAx, hAy, hAz⟩ := hA0
      have cc := cright_any c w3
      cases hc : rightC c
      · rw [hc] at cc
        have c4 := cc
        go_wp2_with fail
        refine c4.mono ?_
        rintro e w4 ⟨rfl, hG4⟩
        have hB4 := hG4.below
        clear c4 hG4
        replace hB := chain hB hB4
        replace Rf := Rf.below hB4
        replace hA := hA.below hB4
        replace hD := hD.below hB4
        clear hB4
        go_wp2
        go_ret
        exact ⟨rfl, hB⟩
      · rw [hc] at cc
        have c4 := cc
        go_wp2_with fail
        refine c4.mono ?_
        rintro e w4 ⟨rfl, hG4⟩
        have hB4 := hG4.below
        clear c4 hG4
        replace hB := chain hB hB4
        replace Rf := Rf.below hB4
        replace hA := hA.below hB4
        replace hD := hD.below hB4
        clear hB4
        clear hAx hAy hAz
        have hD0 := hD
        obtain ⟨hDx, hDy, hDz⟩ := hD0
        have cc := cright_any d w4
        cases hd : rightC d
        · rw [hd] at cc
          have c5 := cc
          go_wp2_with fail
          refine c5.mono ?_
          rintro e w5 ⟨rfl, hG5⟩
          have hB5 := hG5.below
          clear c5 hG5
          replace hB := chain hB hB5
          replace Rf := Rf.below hB5
          replace hA := hA.below hB5
          replace hD := hD.below hB5
          clear hB5
          go_wp2
          go_ret
          exact ⟨rfl, hB⟩
        · rw [hd] at cc
          have c5 := cc
          go_wp2_with fail
          refine c5.mono ?_
          rintro e w5 ⟨rfl, hG5⟩
          have hB5 := hG5.below
          clear c5 hG5
          replace hB := chain hB hB5
          replace Rf := Rf.below hB5
          replace hA := hA.below hB5
          replace hD := hD.below hB5
          clear hB5
          clear hDx hDy hDz
          have hA0 := hA
          obtain ⟨hAx, hAy, hAz⟩ := hA0
          have hD0 := hD
          obtain ⟨hDx, hDy, hDz⟩ := hD0
          have c6 := meet_any c d w5
          go_wp2_with fail
          refine c6.mono ?_
          rintro e w6 ⟨rfl, hG6⟩
          have hB6 := hG6.below
          clear c6 hG6
          replace hB := chain hB hB6
          replace Rf := Rf.below hB6
          replace hA := hA.below hB6
          replace hD := hD.below hB6
          clear hB6
          clear hAx hAy hAz
          clear hDx hDy hDz
          have cc := clash_any (meetC c d) w6
          cases hk : clashC (meetC c d)
          · rw [hk] at cc
            have c7 := cc
            go_wp2_with fail
            refine c7.mono ?_
            rintro e w7 ⟨rfl, hG7⟩
            have hB7 := hG7.below
            clear c7 hG7
            replace hB := chain hB hB7
            replace Rf := Rf.below hB7
            replace hA := hA.below hB7
            replace hD := hD.below hB7
            clear hB7
            have hcd : okC (meetC c d) = true := by simp [okC, hk]
            have sc : singleC c = true := singleC_iff.2 ⟨hc, (meet_okl hcd).1⟩
            have sd : singleC d = true := singleC_iff.2 ⟨hd, (meet_okl hcd).2⟩
            have sm : singleC (meetC c d) = true := singleC_iff.2 ⟨meet_right c d, hcd⟩
            obtain ⟨R, hR⟩ : ∃ R, rstA l c = (R, 0) := ⟨_, Prod.ext rfl (rstA_told hf sc)⟩
            have rR : rightA R = true := by have := rstA_right l c; rw [hR] at this; exact this
            have lR := rightA_len rR
            have hFree : Hid (∀ x ∈ R, (x.1.val ||| x.2.val) &&& (c.1.val ||| c.2.val) = 0) := by
              have := rst_free hf sc
              rw [hR] at this
              exact this
            have hres := restricts hf hc hcd
            rw [hR] at hres
            dsimp only at hres
            have E1 : Hid (rstA l c = (R, 0)) := hR
            have E2 : Hid (rightA R = true) := rR
            have E3 : Hid (hldA l (meetC c d) = (undB R d, 0)) := by show _ = _; rw [hldA_ok hf sm, hres]
            have E4 : Hid (hldA R d = (undB R d, 0)) := hldA_ok rR sd
            generalize undB R d = y at E3 E4 hres
            have hyy : (y == y) = true := by simp
            clear hres hR rR sm sd sc hcd hk hc hd hf
            have hA0 := hA
            obtain ⟨hAx, hAy, hAz⟩ := hA0
            have c8 := Restrict_any l _ c w7 Rf (by omega)
            rw [E1.out] at c8
            try dsimp only at c8
            go_wp2_with fail
            refine c8.mono ?_
            rintro e w8 ⟨v8, rfl, hO8, hB8⟩
            clear c8
            replace hB := chain hB hB8
            replace Rf := Rf.below hB8
            replace hA := hA.below hB8
            replace hD := hD.below hB8
            clear hB8
            have Rr := OwnsC.frow hO8
            obtain ⟨p8, q8, rfl⟩ := OwnsC.len hO8
            clear hO8
            clear hAx hAy hAz
            have c9 := aright_any R _ w8 Rr (by omega)
            rw [E2.out] at c9
            try dsimp only at c9
            go_wp2_with fail
            refine c9.mono ?_
            rintro e w9 ⟨rfl, hB9⟩
            clear c9
            replace hB := chain hB hB9
            replace Rf := Rf.below hB9
            replace hA := hA.below hB9
            replace hD := hD.below hB9
            replace Rr := Rr.below hB9
            clear hB9
            clear E1 E2
            obtain ⟨k0, hk0⟩ : ∃ k0, k0 = R.length := ⟨_, rfl⟩
            have Hk : Hid (k0 = R.length) := hk0
            have HR : Hid (∀ W, Below w9.heap.size w9 W → FRow W _ R) := fun W h => Rr.below h
            rw [← hk0] at HR lR ⊢
            clear hk0 Rr
            go_wp2
            go_loopw [55] (fun i wr => ∃ k : Nat, k ≤ k0 ∧ i = .int .i64 k ∧ Below w9.heap.size w9 wr) (fun i _ => k0 - (intOf i).toNat)
            case atStart => exact ⟨0, Nat.zero_le _, rfl, Below.refl _ _⟩
            case round =>
              obtain ⟨k, hk, rfl, hny⟩ := hrel
              by_cases hlt : k < k0
              · obtain ⟨x, hxk⟩ := get_some (l := R) (k := k) (by rw [← Hk.out]; exact hlt)
                obtain ⟨g, off, rfl, hg, x0, x1⟩ := (HR.out _ hny).row.at hxk
                obtain ⟨z0, z1, z2⟩ := hA.below hny
                have hne : w.heap.size ≠ wr.heap.size := by omega
                have hz : bits BinOp.and IntKind.u32 (bits BinOp.or IntKind.u32 (x.1.val : Int) (x.2.val : Int)) (bits BinOp.or IntKind.u32 (c.1.val : Int) (c.2.val : Int)) = 0 := by
                  rw [bits_or32 _ _ x.1.isLt x.2.isLt, bits_or32 _ _ c.1.isLt c.2.isLt, bits_and32 _ _ (or_lt32 x.1.isLt x.2.isLt) (or_lt32 c.1.isLt c.2.isLt), hFree.out x (List.mem_of_getElem? hxk)]
                  rfl
                clear hxk
                go_wp2
                go_roundw
                case rel => exact ⟨k + 1, by omega, by go_num, chain hny (below_alloc _ _)⟩
                case measure => simp [intOf]; omega
              · obtain rfl : k = k0 := by omega
                have Rr := HR.out _ hny
                clear HR hFree
                replace hB := chain hB hny
                replace Rf := Rf.below hny
                replace hA := hA.below hny
                replace hD := hD.below hny
                clear hny
                have hA0 := hA
                obtain ⟨hAx, hAy, hAz⟩ := hA0
                have hD0 := hD
                obtain ⟨hDx, hDy, hDz⟩ := hD0
                have c10 := meet_any c d wr
                go_wp2_with fail
                refine c10.mono ?_
                rintro e w10 ⟨rfl, hG10⟩
                have hB10 := hG10.below
                clear c10 hG10
                replace hB := chain hB hB10
                replace Rf := Rf.below hB10
                replace hA := hA.below hB10
                replace hD := hD.below hB10
                replace Rr := Rr.below hB10
                clear hB10
                clear hAx hAy hAz
                clear hDx hDy hDz
                have c11 := Holds_any l _ (meetC c d) w10 Rf (by omega)
                rw [E3.out] at c11
                try dsimp only at c11
                go_wp2_with fail
                refine c11.mono ?_
                rintro e w11 ⟨rfl, hB11⟩
                clear c11
                replace hB := chain hB hB11
                replace Rf := Rf.below hB11
                replace hA := hA.below hB11
                replace hD := hD.below hB11
                replace Rr := Rr.below hB11
                clear hB11
                have hD0 := hD
                obtain ⟨hDx, hDy, hDz⟩ := hD0
                have c12 := Holds_any R _ d w11 Rr (by have := Hk.out; omega)
                rw [E4.out] at c12
                try dsimp only at c12
                go_wp2_with fail
                refine c12.mono ?_
                rintro e w12 ⟨rfl, hB12⟩
                clear c12
                replace hB := chain hB hB12
                replace Rf := Rf.below hB12
                replace hA := hA.below hB12
                replace hD := hD.below hB12
                replace Rr := Rr.below hB12
                clear hB12
                clear hDx hDy hDz
                go_wp2
                go_ret
                exact ⟨rfl, hB⟩
          · rw [hk] at cc
            have c7 := cc
            go_wp2_with fail
            refine c7.mono ?_
            rintro e w7 ⟨rfl, hG7⟩
            have hB7 := hG7.below
            clear c7 hG7
            replace hB := chain hB hB7
            replace Rf := Rf.below hB7
            replace hA := hA.below hB7
            replace hD := hD.below hB7
            clear hB7
            go_wp2
            go_ret
            exact ⟨rfl, hB⟩
end Go.Proofs.Ytdikaomebbpmhaa
