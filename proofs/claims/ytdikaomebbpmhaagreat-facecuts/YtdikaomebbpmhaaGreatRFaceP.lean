/- The document's answers of the layer face: Put. -/
import Derived.Test.YtdikaomebbpmhaaGreatRFaceB
namespace Go.Proofs.YtdikaomebbpmhaaGreat
open Go.RowKit
set_option linter.unusedVariables false
set_option linter.unusedSimpArgs false

theorem below_drewR (w : World) : Below w.heap.size w w.drew := below_drewN (Below.refl _ w) 1
theorem At.nextR {W W' : World} {g : Nat} {c : C} (hb : Below W.heap.size W W') (hg : g < W.heap.size) (h : W.cell? ⟨g, 0, none⟩ = some (.int .u32 (c.1.val : Int)) ∧ W.cell? ⟨g, 1, none⟩ = some (.int .u32 (c.2.val : Int))) : W'.cell? ⟨g, 0, none⟩ = some (.int .u32 (c.1.val : Int)) ∧ W'.cell? ⟨g, 1, none⟩ = some (.int .u32 (c.2.val : Int)) :=
  ⟨(hb.cell (p := ⟨g, 0, none⟩) hg).trans h.1, (hb.cell (p := ⟨g, 1, none⟩) hg).trans h.2⟩
theorem own_top (w : World) (o : Obj) (base : Nat) (hb : base ≤ w.heap.size) : OwnsC ((w.alloc o).alloc (.cells #[.int .u32 0, .int .u32 0] 25)) base (.slice (some ⟨w.heap.size + 1, 0, none⟩) 1 1) [top0] := by
  have h := own_one1 (w.alloc o) top0 base (by simp; omega)
  rw [World.size_alloc] at h
  exact h
set_option maxRecDepth 100000 in
set_option maxHeartbeats 8000000 in
theorem rAPut_ok (l r : List C) (i : Int) (vl vr : Value) (w : World) (hl : CRow w vl l) (hr : CRow w vr r) (hf : rightA l = true) (hg : rightF r = true) (hi0 : ¬ i < 0) (hi1 : ¬ i ≥ 24) :
    Calls Tryz.prog 11 #[vl, .int .i64 i, vr] w fun e w' => ∃ v, e = .returned (.tuple #[v, .int .i64 (ptS l i (ofF r).1 (ofZ r)).2]) ∧ OwnsC w' w.heap.size v (ptS l i (ofF r).1 (ofZ r)).1 ∧ Below w.heap.size w w' := by
  have hll := rightA_len hf
  have hrl := rightF_len hg
  have c1 := raright_any l vl w hl (by omega)
  have c2 := fun W (h : Below w.heap.size w W) => rfright_any r vr W (hr.below h) (by omega)
  have cO := fun W (h : Below w.heap.size w W) => rOf_any r vr W (hr.below h) (by omega)
  have cZ := fun W (h : Below w.heap.size w W) => rOfZero_any r vr W (hr.below h) (by omega)
  rw [hf] at c1
  simp only [hg] at c2
  have tZ := ToldA.ofZ hg
  have hO2 := ofF_told hg
  have rO := ofF_right r
  have HOk : Hid (∀ c ∈ l, okC c = true) := rightA_ok hf
  have Hl : Hid (∀ w1, Below w.heap.size w w1 → CRow w1 vl l) := fun w1 h => hl.below h
  obtain ⟨pl, cl, rfl⟩ := hl.len
  obtain ⟨pr, cr, rfl⟩ := hr.len
  clear hl hr hf hg
  generalize ofZ r = S at cZ tZ ⊢
  generalize ofF r = PO at cO hO2 rO ⊢
  obtain ⟨Z, ze⟩ := S
  obtain ⟨O, oe⟩ := PO
  obtain rfl : oe = 0 := hO2
  dsimp only at cZ cO rO ⊢
  have RZ : Hid (rightA Z = true) := tZ.right
  have RO : Hid (rightA O = true) := rO
  have lZ := rightA_len tZ.right
  have lO := rightA_len rO
  dsimp only at lZ
  have TS : Hid (ToldA (Z, ze)) := tZ
  clear tZ rO
  obtain ⟨n, hn⟩ : ∃ n, n = l.length := ⟨_, rfl⟩
  have Hn : Hid (n = l.length) := hn
  rw [← hn] at hll Hl c1 ⊢
  clear hn
  generalize r.length = n2 at *
  go_enter Tryz.func11, Tryz.ntmps11
  go_wp2_with fail
  refine c1.mono ?_
  rintro e w1 ⟨rfl, hB1⟩
  clear c1
  replace c2 := c2 w1 hB1
  go_wp2_with fail
  refine c2.mono ?_
  rintro e w2 ⟨rfl, hB2⟩
  clear c2
  have hB := chain hB1 hB2
  go_wp2_with fail
  go_loopw [8, 9] (fun v j wr => ∃ k : Nat, k ≤ n ∧ j = .int .i64 k ∧ (ptS (l.take k) i O (Z, ze)).2 = 0 ∧ OwnsC wr w.heap.size v (ptS (l.take k) i O (Z, ze)).1 ∧ Below w.heap.size w wr) (fun _ j _ => n - (intOf j).toNat)
  case atStart => exact ⟨0, Nat.zero_le _, rfl, rfl, World.ownsRow_nil _ _ _ _, hB⟩
  case round =>
    obtain ⟨k, hk, rfl, hz, hO, hny⟩ := hrel
    have HZ : Hid ((ptS (l.take k) i O (Z, ze)).2 = 0) := hz
    have HRM : Hid (rightA (ptS (l.take k) i O (Z, ze)).1 = true) := (ToldA.pts i O (fun c hc => HOk.out c (List.mem_of_mem_take hc)) TS.out).right
    clear hz hB
    by_cases hlt : k < n
    · obtain ⟨c, hck⟩ := get_some (l := l) (k := k) (by rw [← Hn.out]; exact hlt)
      obtain ⟨g, off, rfl, hg, x0, x1⟩ := (Hl.out _ hny).at hck
      have hokc : okC c = true := HOk.out c (List.mem_of_getElem? hck)
      have HStep : Hid (ptS (l.take (k + 1)) i O (Z, ze) = stpA i O (Z, ze) ((ptS (l.take k) i O (Z, ze)).1, 0) c) := ptS_take_step hck HZ.out
      have HStuck : Hid ((ptS (l.take (k + 1)) i O (Z, ze)).2 ≠ 0 → ptS (l.take (k + 1)) i O (Z, ze) = ([], 3) ∧ ptS l i O (Z, ze) = ([], 3)) := fun h => ptS_stuck HOk.out TS.out (k + 1) h
      have hc1 := c.1.isLt
      have hc2 := c.2.isLt
      clear hck
      generalize (ptS (l.take k) i O (Z, ze)).1 = M at hO HRM HStep
      have rM : rightA M = true := HRM.out
      have hMl := rightA_len rM
      have hAb := At.made wr c 25
      have hBb := below_alloc wr (.cells #[.int .u32 (c.1.val : Int), .int .u32 (c.2.val : Int)] 25)
      obtain ⟨pM, qM, rfl⟩ := OwnsC.len hO
      go_wp2
      generalize wr.alloc (.cells #[.int .u32 (c.1.val : Int), .int .u32 (c.2.val : Int)] 25) = wb at hAb hBb ⊢
      obtain ⟨z0, z1, z2⟩ := hAb
      have hBk : Below wb.heap.size wb wb.drew := below_drewR wb
      go_region_held3 (fun w' => w'.cell? ⟨wr.heap.size, 0, none⟩ = some (.int .u32 (c.1.val : Int)) ∧ w'.cell? ⟨wr.heap.size, 1, none⟩ = some (.int .u32 (c.2.val : Int))) (first | (exact At.nextR hBk z2 ⟨z0, z1⟩) | go_keep)
        (first | (go_at_call 38; refine (refWithout_any _ _ _ (by assumption)).mono ?_; rintro e w5 ⟨rfl, hB5⟩; replace hBk := chain hBk hB5))
      have hB5a := chain (chain hny hBb) hBk
      have hBx : Below w5.heap.size w5 ((w5.alloc (.cells #[.int .u32 (withoutN c.1.val i : Nat), .int .u32 (withoutN c.2.val i : Nat)] 25)).alloc (.cells #[.int .u32 0, .int .u32 0] 25)) := (below_alloc w5 _).alloc (by simp) _
      have hA7 := At.below ⟨z0, z1, z2⟩ (chain hBk hBx)
      have hB7 := chain hB5a hBx
      have hOM := OwnsC.below hO (chain hBb (chain hBk hBx))
      have hOg : OwnsC ((w5.alloc (.cells #[.int .u32 (withoutN c.1.val i : Nat), .int .u32 (withoutN c.2.val i : Nat)] 25)).alloc (.cells #[.int .u32 0, .int .u32 0] 25)) w.heap.size (.slice (some ⟨w5.heap.size, 0, none⟩) 1 1) [outC c i] := OwnsC.below (own_one1 w5 (outC c i) _ hB5a.size) (below_alloc _ _)
      have hOt : OwnsC ((w5.alloc (.cells #[.int .u32 (withoutN c.1.val i : Nat), .int .u32 (withoutN c.2.val i : Nat)] 25)).alloc (.cells #[.int .u32 0, .int .u32 0] 25)) w.heap.size (.slice (some ⟨w5.heap.size + 1, 0, none⟩) 1 1) [top0] := own_top w5 _ _ hB5a.size
      clear z0 z1
      have z0 := hA7.1
      have z1 := hA7.2.1
      go_wp2_with fail
      generalize hw7 : (w5.alloc (.cells #[.int .u32 (withoutN c.1.val i : Nat), .int .u32 (withoutN c.2.val i : Nat)] 25)).alloc (.cells #[.int .u32 0, .int .u32 0] 25) = w7 at hA7 hB7 hOM hOg hOt z0 z1 ⊢
      clear hw7 hBx
      refine (refHas_any _ _ _ hc1).mono ?_
      rintro e w0 ⟨rfl, hw0⟩
      replace hw0 := hw0.symm
      subst hw0
      have hB7a := hB7
      cases hp : hasB c.1.val i
      · cases hq : hasB c.2.val i
        · have HF : Hid (prtA c i O (Z, ze) = ([outC c i], 0)) := prt_o hp hq
          have cM := rAMeet_any [outC c i] [top0] _ _ w7 (OwnsC.row hOg) (OwnsC.row hOt) (by simp) (by simp)
          rw [mtA_top (out_right c i) (out_ok hokc)] at cM
          clear hOg
          dsimp only at cM
          go_wp2_with (go_at_call 31; refine (refHas_any _ _ _ (by assumption)).mono ?_; rintro e w0 ⟨rfl, hw0⟩; replace hw0 := hw0.symm; subst hw0; first | rw [hp] | rw [hq])
          refine cM.mono ?_
          rintro e w14 ⟨v14, rfl, hOg, hB14⟩
          clear cM
          replace hB7 := chain hB7 hB14
          replace hOM := OwnsC.below hOM hB14
          obtain ⟨p14, q14, rfl⟩ := OwnsC.len hOg
          have rG : rightA ([outC c i]) = true := rightA_out i hokc
          have hGl := rightA_len rG
          have cJ := rAJoin_any M ([outC c i]) _ _ w14 (OwnsC.row hOM) (OwnsC.row hOg) (by omega) (by omega)
          rw [jnA_ok rM rG] at cJ
          have HST : Hid (ptS (l.take (k + 1)) i O (Z, ze) = leastF (M ++ ([outC c i]))) := HStep.out.trans (by rw [stpA_some, HF.out]; simp)
          generalize leastF (M ++ ([outC c i])) = PJ at cJ HST
          obtain ⟨J, je⟩ := PJ
          dsimp only at cJ HST
          go_wp2_with fail
          refine cJ.mono ?_
          rintro e w20 ⟨v20, rfl, hO20, hB20⟩
          clear cJ
          have hBf := chain hB7 hB20
          obtain ⟨p20, q20, rfl⟩ := OwnsC.len hO20
          by_cases j0 : je = 0
          · subst j0
            go_wp2
            go_roundw
            case rel => exact ⟨k + 1, by omega, by go_num, by rw [HST.out], by rw [HST.out]; exact OwnsC.mono hO20 hB7.size, hBf⟩
            case measure => simp [intOf]; omega
          · have HE := HStuck.out (by rw [HST.out]; exact j0)
            have h3 : je = 3 := by have := HST.out; rw [HE.1] at this; injection this with _ h; exact h.symm
            have HE2 : Hid (ptS l i O (Z, ze) = ([], 3)) := HE.2
            clear HE
            subst h3
            go_wp2
            go_ret2
            rw [HE2.out]
            exact ⟨_, rfl, World.ownsRow_nil _ _ _ _, hBf⟩
        · have cZ2 := cZ w7 hB7
          go_wp2_with (go_at_call 31; refine (refHas_any _ _ _ (by assumption)).mono ?_; rintro e w0 ⟨rfl, hw0⟩; replace hw0 := hw0.symm; subst hw0; first | rw [hp] | rw [hq])
          refine cZ2.mono ?_
          rintro e w12 ⟨v12, rfl, hO12, hB12⟩
          clear cZ2
          replace hB7 := chain hB7 hB12
          replace hB7a := hB7
          replace hOM := OwnsC.below hOM hB12
          replace hOg := OwnsC.below hOg hB12
          obtain ⟨p12, q12, rfl⟩ := OwnsC.len hO12
          by_cases s0 : ze = 0
          · subst s0
            have cM := rAMeet_any [outC c i] Z _ _ w12 (OwnsC.row hOg) (OwnsC.row hO12) (by simp) (by omega)
            rw [mtA_ok (rightA_out i hokc) RZ.out] at cM
            have HF : Hid (prtA c i O (Z, 0) = mtR [outC c i] Z) := (prt_n hp hq).trans (if_pos rfl)
            have tG : ToldA (mtR [outC c i] Z) := ToldA.mt _ _
            clear hOg
            generalize mtR [outC c i] Z = PG at cM HF tG
            obtain ⟨Gr, pe⟩ := PG
            dsimp only at cM
            go_wp2_with fail
            refine cM.mono ?_
            rintro e w14 ⟨v14, rfl, hOg, hB14⟩
            clear cM
            replace hB7 := chain hB7 hB14
            replace hOM := OwnsC.below hOM hB14
            replace hOg := OwnsC.mono hOg (Nat.le_trans hB7a.size (Nat.le_refl _))
            obtain ⟨p14, q14, rfl⟩ := OwnsC.len hOg
            by_cases m0 : pe = 0
            · subst m0
              have rG : rightA (Gr) = true := tG.right
              have hGl := rightA_len rG
              have cJ := rAJoin_any M (Gr) _ _ w14 (OwnsC.row hOM) (OwnsC.row hOg) (by omega) (by omega)
              rw [jnA_ok rM rG] at cJ
              have HST : Hid (ptS (l.take (k + 1)) i O (Z, 0) = leastF (M ++ (Gr))) := HStep.out.trans (by rw [stpA_some, HF.out]; simp)
              generalize leastF (M ++ (Gr)) = PJ at cJ HST
              obtain ⟨J, je⟩ := PJ
              dsimp only at cJ HST
              go_wp2_with fail
              refine cJ.mono ?_
              rintro e w20 ⟨v20, rfl, hO20, hB20⟩
              clear cJ
              have hBf := chain hB7 hB20
              obtain ⟨p20, q20, rfl⟩ := OwnsC.len hO20
              by_cases j0 : je = 0
              · subst j0
                go_wp2
                go_roundw
                case rel => exact ⟨k + 1, by omega, by go_num, by rw [HST.out], by rw [HST.out]; exact OwnsC.mono hO20 hB7.size, hBf⟩
                case measure => simp [intOf]; omega
              · have HE := HStuck.out (by rw [HST.out]; exact j0)
                have h3 : je = 3 := by have := HST.out; rw [HE.1] at this; injection this with _ h; exact h.symm
                have HE2 : Hid (ptS l i O (Z, 0) = ([], 3)) := HE.2
                clear HE
                subst h3
                go_wp2
                go_ret2
                rw [HE2.out]
                exact ⟨_, rfl, World.ownsRow_nil _ _ _ _, hBf⟩
            · have HST : Hid (ptS (l.take (k + 1)) i O (Z, 0) = ([], pe)) := HStep.out.trans (by rw [stpA_some, HF.out]; simp [m0])
              have HE := HStuck.out (by rw [HST.out]; exact m0)
              have h3 : pe = 3 := by have := HST.out; rw [HE.1] at this; injection this with _ h; exact h.symm
              have HE2 : Hid (ptS l i O (Z, 0) = ([], 3)) := HE.2
              clear HE
              subst h3
              go_wp2
              go_ret2
              rw [HE2.out]
              exact ⟨_, rfl, World.ownsRow_nil _ _ _ _, hB7⟩
          · have HF : Hid (prtA c i O (Z, ze) = (Z, ze)) := (prt_n hp hq).trans (if_neg s0)
            have HST : Hid (ptS (l.take (k + 1)) i O (Z, ze) = ([], ze)) := HStep.out.trans (by rw [stpA_some, HF.out]; simp [s0])
            have HE := HStuck.out (by rw [HST.out]; exact s0)
            have h3 : ze = 3 := by have := HST.out; rw [HE.1] at this; injection this with _ h; exact h.symm
            have HE2 : Hid (ptS l i O (Z, ze) = ([], 3)) := HE.2
            clear HE HST HF HStep HStuck TS HZ
            subst h3
            go_wp2
            go_ret2
            rw [HE2.out]
            exact ⟨_, rfl, World.ownsRow_nil _ _ _ _, hB7⟩
      · have hq : hasB c.2.val i = false := not_both hokc hp
        have cO2 := cO w7 hB7
        go_wp2_with fail
        refine cO2.mono ?_
        rintro e w12 ⟨v12, rfl, hO12, hB12⟩
        clear cO2
        replace hB7 := chain hB7 hB12
        replace hB7a := hB7
        replace hOM := OwnsC.below hOM hB12
        replace hOg := OwnsC.below hOg hB12
        replace hA7 := hA7.below hB12
        clear z0 z1
        have z0 := hA7.1
        have z1 := hA7.2.1
        obtain ⟨p12, q12, rfl⟩ := OwnsC.len hO12
        have cM := rAMeet_any [outC c i] O _ _ w12 (OwnsC.row hOg) (OwnsC.row hO12) (by simp) (by omega)
        rw [mtA_ok (rightA_out i hokc) RO.out] at cM
        have HF : Hid (prtA c i O (Z, ze) = mtR [outC c i] O) := prt_p hp
        have tG : ToldA (mtR [outC c i] O) := ToldA.mt _ _
        clear hOg
        generalize mtR [outC c i] O = PG at cM HF tG
        obtain ⟨Gr, pe⟩ := PG
        dsimp only at cM
        go_wp2_with (go_at_call 31; refine (refHas_any _ _ _ (by assumption)).mono ?_; rintro e w0 ⟨rfl, hw0⟩; replace hw0 := hw0.symm; subst hw0; first | rw [hp] | rw [hq])
        refine cM.mono ?_
        rintro e w14 ⟨v14, rfl, hOg, hB14⟩
        clear cM
        replace hB7 := chain hB7 hB14
        replace hOM := OwnsC.below hOM hB14
        replace hOg := OwnsC.mono hOg (Nat.le_trans hB7a.size (Nat.le_refl _))
        obtain ⟨p14, q14, rfl⟩ := OwnsC.len hOg
        by_cases m0 : pe = 0
        · subst m0
          have rG : rightA (Gr) = true := tG.right
          have hGl := rightA_len rG
          have cJ := rAJoin_any M (Gr) _ _ w14 (OwnsC.row hOM) (OwnsC.row hOg) (by omega) (by omega)
          rw [jnA_ok rM rG] at cJ
          have HST : Hid (ptS (l.take (k + 1)) i O (Z, ze) = leastF (M ++ (Gr))) := HStep.out.trans (by rw [stpA_some, HF.out]; simp)
          generalize leastF (M ++ (Gr)) = PJ at cJ HST
          obtain ⟨J, je⟩ := PJ
          dsimp only at cJ HST
          go_wp2_with fail
          refine cJ.mono ?_
          rintro e w20 ⟨v20, rfl, hO20, hB20⟩
          clear cJ
          have hBf := chain hB7 hB20
          obtain ⟨p20, q20, rfl⟩ := OwnsC.len hO20
          by_cases j0 : je = 0
          · subst j0
            go_wp2
            go_roundw
            case rel => exact ⟨k + 1, by omega, by go_num, by rw [HST.out], by rw [HST.out]; exact OwnsC.mono hO20 hB7.size, hBf⟩
            case measure => simp [intOf]; omega
          · have HE := HStuck.out (by rw [HST.out]; exact j0)
            have h3 : je = 3 := by have := HST.out; rw [HE.1] at this; injection this with _ h; exact h.symm
            have HE2 : Hid (ptS l i O (Z, ze) = ([], 3)) := HE.2
            clear HE
            subst h3
            go_wp2
            go_ret2
            rw [HE2.out]
            exact ⟨_, rfl, World.ownsRow_nil _ _ _ _, hBf⟩
        · have HST : Hid (ptS (l.take (k + 1)) i O (Z, ze) = ([], pe)) := HStep.out.trans (by rw [stpA_some, HF.out]; simp [m0])
          have HE := HStuck.out (by rw [HST.out]; exact m0)
          have h3 : pe = 3 := by have := HST.out; rw [HE.1] at this; injection this with _ h; exact h.symm
          have HE2 : Hid (ptS l i O (Z, ze) = ([], 3)) := HE.2
          clear HE
          subst h3
          go_wp2
          go_ret2
          rw [HE2.out]
          exact ⟨_, rfl, World.ownsRow_nil _ _ _ _, hB7⟩
    · obtain rfl : k = n := by omega
      have e : l.take k = l := List.take_of_length_le (by rw [← Hn.out]; exact Nat.le_refl _)
      have HZ2 : Hid ((ptS l i O (Z, ze)).2 = 0) := by rw [← e]; exact HZ.out
      rw [e] at hO
      go_wp2
      go_ret2
      rw [HZ2.out]
      exact ⟨_, rfl, hO, hny⟩
set_option maxHeartbeats 2000000 in
theorem rAPut_any (l r : List C) (i : Int) (vl vr : Value) (w : World) (hl : CRow w vl l) (hr : CRow w vr r) (hll : l.length ≤ 40000) (hrl : r.length ≤ 40000) :
    Calls Tryz.prog 11 #[vl, .int .i64 i, vr] w fun e w' => ∃ v, e = .returned (.tuple #[v, .int .i64 (ptA l i r).2]) ∧ OwnsC w' w.heap.size v (ptA l i r).1 ∧ Below w.heap.size w w' := by
  have c1 := raright_any l vl w hl (by omega)
  have c2 := fun W (h : Below w.heap.size w W) => rfright_any r vr W (hr.below h) (by omega)
  cases hf : rightA l
  · have HJ : Hid (ptA l i r = ([], 2)) := by show _ = _; simp [ptA, hf]
    rw [hf] at c1
    obtain ⟨pl, cl, rfl⟩ := hl.len
    obtain ⟨pr, cr, rfl⟩ := hr.len
    clear hl hr c2
    go_enter Tryz.func11, Tryz.ntmps11
    go_wp2_with fail
    refine c1.mono ?_
    rintro e w1 ⟨rfl, hB1⟩
    clear c1
    go_wp2
    go_ret2
    rw [HJ.out]
    exact ⟨_, rfl, World.ownsRow_nil _ _ _ _, hB1⟩
  · by_cases hneg : i < 0
    · have HJ : Hid (ptA l i r = ([], 2)) := by show _ = _; simp [ptA, isDimB_lo hneg]
      rw [hf] at c1
      obtain ⟨pl, cl, rfl⟩ := hl.len
      obtain ⟨pr, cr, rfl⟩ := hr.len
      clear hl hr c2
      go_enter Tryz.func11, Tryz.ntmps11
      go_wp2_with fail
      refine c1.mono ?_
      rintro e w1 ⟨rfl, hB1⟩
      clear c1
      go_wp2
      go_ret2
      rw [HJ.out]
      exact ⟨_, rfl, World.ownsRow_nil _ _ _ _, hB1⟩
    · by_cases hge : i ≥ 24
      · have HJ : Hid (ptA l i r = ([], 2)) := by show _ = _; simp [ptA, isDimB_hi hge]
        rw [hf] at c1
        obtain ⟨pl, cl, rfl⟩ := hl.len
        obtain ⟨pr, cr, rfl⟩ := hr.len
        clear hl hr c2
        go_enter Tryz.func11, Tryz.ntmps11
        go_wp2_with fail
        refine c1.mono ?_
        rintro e w1 ⟨rfl, hB1⟩
        clear c1
        go_wp2
        go_ret2
        rw [HJ.out]
        exact ⟨_, rfl, World.ownsRow_nil _ _ _ _, hB1⟩
      · cases hg : rightF r
        · have HJ : Hid (ptA l i r = ([], 2)) := by show _ = _; simp [ptA, hg]
          rw [hf] at c1
          simp only [hg] at c2
          obtain ⟨pl, cl, rfl⟩ := hl.len
          obtain ⟨pr, cr, rfl⟩ := hr.len
          clear hl hr
          go_enter Tryz.func11, Tryz.ntmps11
          go_wp2_with fail
          refine c1.mono ?_
          rintro e w1 ⟨rfl, hB1⟩
          clear c1
          replace c2 := c2 w1 hB1
          go_wp2_with fail
          refine c2.mono ?_
          rintro e w2 ⟨rfl, hB2⟩
          clear c2
          go_wp2
          go_ret2
          rw [HJ.out]
          exact ⟨_, rfl, World.ownsRow_nil _ _ _ _, chain hB1 hB2⟩
        · have e : ptA l i r = ptS l i (ofF r).1 (ofZ r) := by simp [ptA, hf, hg, isDimB_yes (show 0 ≤ i by omega) (show i < 24 by omega)]
          rw [e]
          exact rAPut_ok l r i vl vr w hl hr hf hg hneg hge
end Go.Proofs.YtdikaomebbpmhaaGreat
