/- The document's answers of the layer formula: Put. -/
import Derived.Test.YtkklmioejgpknaaRDims
namespace Go.Proofs.Ytkklmioejgpknaa
open Go.RowKit
set_option linter.unusedVariables false
set_option linter.unusedSimpArgs false

theorem At.next {W W' : World} {g : Nat} {c : C} (hb : Below W.heap.size W W') (hg : g < W.heap.size) (h : W.cell? ⟨g, 0, none⟩ = some (.int .u32 (c.1.val : Int)) ∧ W.cell? ⟨g, 1, none⟩ = some (.int .u32 (c.2.val : Int))) : W'.cell? ⟨g, 0, none⟩ = some (.int .u32 (c.1.val : Int)) ∧ W'.cell? ⟨g, 1, none⟩ = some (.int .u32 (c.2.val : Int)) :=
  ⟨(hb.cell (p := ⟨g, 0, none⟩) hg).trans h.1, (hb.cell (p := ⟨g, 1, none⟩) hg).trans h.2⟩
set_option maxRecDepth 100000 in
set_option maxHeartbeats 8000000 in
theorem rPut_ok (l r : List C) (i : Int) (vl vr : Value) (w : World) (hl : CRow w vl l) (hr : CRow w vr r) (hf : rightF l = true) (hg : rightF r = true) (hi0 : ¬ i < 0) (hi1 : ¬ 24 ≤ i) :
    Calls Try.prog 24 #[vl, .int .i64 i, vr] w fun e w' => ∃ v, e = .returned (.tuple #[v, .int .i64 (putR l i r).2]) ∧ OwnsC w' w.heap.size v (putR l i r).1 ∧ Below w.heap.size w w' := by
  have hll := rightF_len hf
  have hrl := rightF_len hg
  have c1 := rfright_any l vl w hl (by omega)
  have c2 := fun W (h : Below w.heap.size w W) => rfright_any r vr W (hr.below h) (by omega)
  have cN := fun W (h : Below w.heap.size w W) => rNot_any r vr W (hr.below h) (by omega)
  have hNF : notF r = notR r := by unfold notF; rw [hg]; rfl
  rw [hf] at c1
  simp only [hg] at c2
  simp only [hNF] at cN
  have tS := Told.not r
  have HJ : Hid (putR l i r = putS l i r (notR r)) := rfl
  have Hl : Hid (∀ w1, Below w.heap.size w w1 → CRow w1 vl l) := fun w1 h => hl.below h
  have Hr : Hid (∀ w1, Below w.heap.size w w1 → CRow w1 vr r) := fun w1 h => hr.below h
  have rR : Hid (rightF r = true) := hg
  obtain ⟨pl, cl, rfl⟩ := hl.len
  obtain ⟨pr, cr, rfl⟩ := hr.len
  clear hl hr hf hg hNF
  generalize notR r = S at cN tS HJ
  obtain ⟨N, se⟩ := S
  dsimp only at cN
  have rN : Hid (rightF N = true) := tS.right
  have TS : Hid (Told (N, se)) := tS
  clear tS
  obtain ⟨n, hn⟩ : ∃ n, n = l.length := ⟨_, rfl⟩
  have Hn : Hid (n = l.length) := hn
  rw [← hn] at hll Hl c1 ⊢
  clear hn
  go_enter Try.func24, Try.ntmps24
  go_wp2_with fail
  refine c1.mono ?_
  rintro e w1 ⟨rfl, hB1⟩
  clear c1
  replace c2 := c2 w1 hB1
  go_wp2_with fail
  refine c2.mono ?_
  rintro e w2 ⟨rfl, hB2⟩
  clear c2
  have hB := chain hB1 hB2
  go_wp2_with fail
  go_loopw [8, 9] (fun v j wr => ∃ k : Nat, k ≤ n ∧ j = .int .i64 k ∧ (putS (l.take k) i r (N, se)).2 = 0 ∧ OwnsC wr w.heap.size v (putS (l.take k) i r (N, se)).1 ∧ Below w.heap.size w wr) (fun _ j _ => n - (intOf j).toNat)
  case atStart => exact ⟨0, Nat.zero_le _, rfl, rfl, World.ownsRow_nil _ _ _ _, hB⟩
  case round =>
    obtain ⟨k, hk, rfl, hz, hO, hny⟩ := hrel
    have HZ : Hid ((putS (l.take k) i r (N, se)).2 = 0) := hz
    have HRM : Hid (rightF (putS (l.take k) i r (N, se)).1 = true) := (Told.put (l.take k) i r TS.out).right
    clear hz hB
    by_cases hlt : k < n
    · obtain ⟨c, hck⟩ := get_some (l := l) (k := k) (by rw [← Hn.out]; exact hlt)
      obtain ⟨g, off, rfl, hg, x0, x1⟩ := (Hl.out _ hny).at hck
      have HStep : Hid (putS (l.take (k + 1)) i r (N, se) = stepP i r (N, se) ((putS (l.take k) i r (N, se)).1, 0) c) := putS_take_step hck HZ.out
      have HStuck : Hid ((putS (l.take (k + 1)) i r (N, se)).2 ≠ 0 → putS (l.take (k + 1)) i r (N, se) = ([], 3) ∧ putS l i r (N, se) = ([], 3)) := fun h => ⟨(Told.put (l.take (k + 1)) i r TS.out).no h, putS_stuck TS.out (k + 1) h⟩
      have hc1 := c.1.isLt
      have hc2 := c.2.isLt
      clear hck
      generalize (putS (l.take k) i r (N, se)).1 = M at hO HRM HStep
      have rM : rightF M = true := HRM.out
      have hMl := rightF_len rM
      have hAb := At.made wr c 52
      have hBb := below_alloc wr (.cells #[.int .u32 (c.1.val : Int), .int .u32 (c.2.val : Int)] 52)
      obtain ⟨pM, qM, rfl⟩ := OwnsC.len hO
      go_wp2
      generalize wr.alloc (.cells #[.int .u32 (c.1.val : Int), .int .u32 (c.2.val : Int)] 52) = wb at hAb hBb ⊢
      obtain ⟨z0, z1, z2⟩ := hAb
      have hBk : Below wb.heap.size wb wb.drew := below_drew wb
      go_region_held3 (fun w' => w'.cell? ⟨wr.heap.size, 0, none⟩ = some (.int .u32 (c.1.val : Int)) ∧ w'.cell? ⟨wr.heap.size, 1, none⟩ = some (.int .u32 (c.2.val : Int))) (first | (exact At.next hBk z2 ⟨z0, z1⟩) | go_keep)
        (first | (go_at_call 49; refine (refWithout_any _ _ _ (by assumption)).mono ?_; rintro e w5 ⟨rfl, hB5⟩; replace hBk := chain hBk hB5))
      go_wp2_with fail
      have hA7 := (At.below ⟨z0, z1, z2⟩ (chain hBk (below_alloc w5 (.cells #[.int .u32 (withoutN c.1.val i : Nat), .int .u32 (withoutN c.2.val i : Nat)] 52))))
      have hB7 := chain (chain hny hBb) (chain hBk (below_alloc w5 (.cells #[.int .u32 (withoutN c.1.val i : Nat), .int .u32 (withoutN c.2.val i : Nat)] 52)))
      have hOM := OwnsC.below hO (chain hBb (chain hBk (below_alloc w5 (.cells #[.int .u32 (withoutN c.1.val i : Nat), .int .u32 (withoutN c.2.val i : Nat)] 52))))
      have hOg : OwnsC (w5.alloc (.cells #[.int .u32 (withoutN c.1.val i : Nat), .int .u32 (withoutN c.2.val i : Nat)] 52)) w.heap.size (.slice (some ⟨w5.heap.size, 0, none⟩) 1 1) [outC c i] := own_one1 w5 (outC c i) _ (chain (chain hny hBb) hBk).size
      generalize hw7 : w5.alloc (.cells #[.int .u32 (withoutN c.1.val i : Nat), .int .u32 (withoutN c.2.val i : Nat)] 52) = w7 at hA7 hB7 hOM hOg ⊢
      clear hw7 z0 z1
      have z0 := hA7.1
      have z1 := hA7.2.1
      have hbb := hBb
      cases hp : hasB c.1.val i
      · have HA : Hid (partA c i r = ([outC c i], 0)) := by show partA c i r = ([outC c i], 0); unfold partA; rw [hp]; simp
        cases hq : hasB c.2.val i
        · have HF : Hid (partF c i r (N, se) = ([outC c i], 0)) := by show partF c i r (N, se) = ([outC c i], 0); unfold partF; rw [HA.out, hq]; simp
          have rG : rightF ([outC c i]) = true := (rightF_one (out_right c i))
          go_wp2_with (go_at_call 50; refine (refHas_any _ _ _ (by assumption)).mono ?_; rintro e w0 ⟨rfl, hw0⟩; replace hw0 := hw0.symm; subst hw0; first | rw [hp] | rw [hq])
          have cJ := rJoin_any M ([outC c i]) _ _ w7 (OwnsC.row hOM) (OwnsC.row hOg) (by omega) (by have := rightF_len rG; omega)
          rw [joinF_ok rM rG] at cJ
          have HST : Hid (putS (l.take (k + 1)) i r (N, se) = joinR M ([outC c i])) := HStep.out.trans (by rw [stepP_some, HF.out]; simp)
          generalize joinR M ([outC c i]) = PJ at cJ HST
          obtain ⟨J, je⟩ := PJ
          dsimp only at cJ HST
          refine cJ.mono ?_
          rintro e w20 ⟨v20, rfl, hO20, hB20⟩
          clear cJ
          have hBf := chain hB7 hB20
          obtain ⟨p20, q20, rfl⟩ := OwnsC.len hO20
          by_cases j0 : je = 0
          · subst j0
            go_wp2
            go_roundw
            case rel => exact ⟨k + 1, by omega, by go_num, by rw [HST.out], by rw [HST.out]; exact OwnsC.mono hO20 hB7.size, hBf⟩
            case measure => simp [intOf]; omega
          · have HE := HStuck.out (by rw [HST.out]; exact j0)
            have h3 : je = 3 := by have := HST.out; rw [HE.1] at this; injection this with _ h; exact h.symm
            have HE2 : Hid (putS l i r (N, se) = ([], 3)) := HE.2
            subst h3
            go_wp2
            go_ret2
            rw [HJ.out, HE2.out]
            exact ⟨_, rfl, World.ownsRow_nil _ _ _ _, hBf⟩
        · have cN2 := cN w7 hB7
          go_wp2_with (go_at_call 50; refine (refHas_any _ _ _ (by assumption)).mono ?_; rintro e w0 ⟨rfl, hw0⟩; replace hw0 := hw0.symm; subst hw0; first | rw [hp] | rw [hq])
          refine cN2.mono ?_
          rintro e w12 ⟨v12, rfl, hO12, hB12⟩
          clear cN2
          replace hB7 := chain hB7 hB12
          replace hOM := OwnsC.below hOM hB12
          replace hOg := OwnsC.below hOg hB12
          replace hA7 := hA7.below hB12
          clear z0 z1
          have z0 := hA7.1
          have z1 := hA7.2.1
          obtain ⟨p12, q12, rfl⟩ := OwnsC.len hO12
          by_cases s0 : se = 0
          · subst s0
            have cM2 := rMeet_ok ([outC c i]) N _ _ w12 (OwnsC.row hOg) (OwnsC.row hO12) ((rightF_one (out_right c i))) rN.out
            have HF : Hid (partF c i r (N, 0) = meetR ([outC c i]) N) := by show partF c i r (N, 0) = meetR ([outC c i]) N; unfold partF; rw [HA.out, hq]; simp
            have tG : Told (meetR ([outC c i]) N) := Told.meet _ _
            generalize meetR ([outC c i]) N = PG at cM2 HF tG
            obtain ⟨G, pe⟩ := PG
            dsimp only at cM2 HF
            go_wp2_with (go_at_call 50; refine (refHas_any _ _ _ (by assumption)).mono ?_; rintro e w0 ⟨rfl, hw0⟩; replace hw0 := hw0.symm; subst hw0; first | rw [hp] | rw [hq])
            refine cM2.mono ?_
            rintro e w13 ⟨v13, rfl, hO13, hB13⟩
            clear cM2
            replace hB7 := chain hB7 hB13
            replace hOM := OwnsC.below hOM hB13
            replace hOg := OwnsC.below hOg hB13
            replace hA7 := hA7.below hB13
            clear z0 z1
            have z0 := hA7.1
            have z1 := hA7.2.1
            obtain ⟨p13, q13, rfl⟩ := OwnsC.len hO13
            by_cases pe0 : pe = 0
            · subst pe0
              have rG : rightF G = true := tG.right
              go_wp2_with fail
              have cJ := rJoin_any M G _ _ w13 (OwnsC.row hOM) (OwnsC.row hO13) (by omega) (by have := rightF_len rG; omega)
              rw [joinF_ok rM rG] at cJ
              have HST : Hid (putS (l.take (k + 1)) i r (N, 0) = joinR M G) := HStep.out.trans (by rw [stepP_some, HF.out]; simp)
              generalize joinR M G = PJ at cJ HST
              obtain ⟨J, je⟩ := PJ
              dsimp only at cJ HST
              refine cJ.mono ?_
              rintro e w20 ⟨v20, rfl, hO20, hB20⟩
              clear cJ
              have hBf := chain hB7 hB20
              obtain ⟨p20, q20, rfl⟩ := OwnsC.len hO20
              by_cases j0 : je = 0
              · subst j0
                go_wp2
                go_roundw
                case rel => exact ⟨k + 1, by omega, by go_num, by rw [HST.out], by rw [HST.out]; exact OwnsC.mono hO20 hB7.size, hBf⟩
                case measure => simp [intOf]; omega
              · have HE := HStuck.out (by rw [HST.out]; exact j0)
                have h3 : je = 3 := by have := HST.out; rw [HE.1] at this; injection this with _ h; exact h.symm
                have HE2 : Hid (putS l i r (N, 0) = ([], 3)) := HE.2
                subst h3
                go_wp2
                go_ret2
                rw [HJ.out, HE2.out]
                exact ⟨_, rfl, World.ownsRow_nil _ _ _ _, hBf⟩
            · skip
              have HST : Hid (putS (l.take (k + 1)) i r (N, 0) = ([], pe)) := HStep.out.trans (by rw [stepP_some, HF.out]; simp [pe0])
              have HE := HStuck.out (by rw [HST.out]; exact pe0)
              have h3 : pe = 3 := by have := HST.out; rw [HE.1] at this; injection this with _ h; exact h.symm
              have HE2 : Hid (putS l i r (N, 0) = ([], 3)) := HE.2
              subst h3
              go_wp2_with (go_at_call 50; refine (refHas_any _ _ _ (by assumption)).mono ?_; rintro e w0 ⟨rfl, hw0⟩; replace hw0 := hw0.symm; subst hw0; first | rw [hp] | rw [hq])
              go_ret2
              rw [HJ.out, HE2.out]
              exact ⟨_, rfl, World.ownsRow_nil _ _ _ _, hB7⟩
          · have HF : Hid (partF c i r (N, se) = ([], se)) := by show partF c i r (N, se) = ([], se); unfold partF; rw [HA.out, hq]; simp [s0]
            have pe0 : se ≠ 0 := s0
            have HST : Hid (putS (l.take (k + 1)) i r (N, se) = ([], se)) := HStep.out.trans (by rw [stepP_some, HF.out]; simp [pe0])
            have HE := HStuck.out (by rw [HST.out]; exact pe0)
            have h3 : se = 3 := by have := HST.out; rw [HE.1] at this; injection this with _ h; exact h.symm
            have HE2 : Hid (putS l i r (N, se) = ([], 3)) := HE.2
            subst h3
            go_wp2_with (go_at_call 50; refine (refHas_any _ _ _ (by assumption)).mono ?_; rintro e w0 ⟨rfl, hw0⟩; replace hw0 := hw0.symm; subst hw0; first | rw [hp] | rw [hq])
            go_ret2
            rw [HJ.out, HE2.out]
            exact ⟨_, rfl, World.ownsRow_nil _ _ _ _, hB7⟩
      · have cM1 := rMeet_ok [outC c i] r _ _ w7 (OwnsC.row hOg) (Hr.out w7 hB7) (rightF_one (out_right c i)) rR.out
        have HA0 : Hid (partA c i r = meetR [outC c i] r) := by show partA c i r = meetR [outC c i] r; unfold partA; rw [hp]; simp
        have tA : Told (meetR [outC c i] r) := Told.meet _ _
        generalize meetR [outC c i] r = PA at cM1 HA0 tA
        obtain ⟨A, ae⟩ := PA
        dsimp only at cM1 HA0
        go_wp2_with (go_at_call 50; refine (refHas_any _ _ _ (by assumption)).mono ?_; rintro e w0 ⟨rfl, hw0⟩; replace hw0 := hw0.symm; subst hw0; first | rw [hp] | rw [hq])
        refine cM1.mono ?_
        rintro e w9 ⟨v9, rfl, hO9, hB9⟩
        clear cM1
        replace hB7 := chain hB7 hB9
        replace hOM := OwnsC.below hOM hB9
        replace hOg := OwnsC.below hOg hB9
        replace hA7 := hA7.below hB9
        clear z0 z1
        have z0 := hA7.1
        have z1 := hA7.2.1
        obtain ⟨p9, q9, rfl⟩ := OwnsC.len hO9
        by_cases a0 : ae = 0
        · subst a0
          have rA : rightF A = true := tA.right
          cases hq : hasB c.2.val i
          · have HF : Hid (partF c i r (N, se) = (A, 0)) := by show partF c i r (N, se) = (A, 0); unfold partF; rw [HA0.out, hq]; simp
            have rG : rightF (A) = true := rA
            go_wp2_with (go_at_call 50; refine (refHas_any _ _ _ (by assumption)).mono ?_; rintro e w0 ⟨rfl, hw0⟩; replace hw0 := hw0.symm; subst hw0; first | rw [hp] | rw [hq])
            have cJ := rJoin_any M (A) _ _ w9 (OwnsC.row hOM) (OwnsC.row hO9) (by omega) (by have := rightF_len rG; omega)
            rw [joinF_ok rM rG] at cJ
            have HST : Hid (putS (l.take (k + 1)) i r (N, se) = joinR M (A)) := HStep.out.trans (by rw [stepP_some, HF.out]; simp)
            generalize joinR M (A) = PJ at cJ HST
            obtain ⟨J, je⟩ := PJ
            dsimp only at cJ HST
            refine cJ.mono ?_
            rintro e w20 ⟨v20, rfl, hO20, hB20⟩
            clear cJ
            have hBf := chain hB7 hB20
            obtain ⟨p20, q20, rfl⟩ := OwnsC.len hO20
            by_cases j0 : je = 0
            · subst j0
              go_wp2
              go_roundw
              case rel => exact ⟨k + 1, by omega, by go_num, by rw [HST.out], by rw [HST.out]; exact OwnsC.mono hO20 hB7.size, hBf⟩
              case measure => simp [intOf]; omega
            · have HE := HStuck.out (by rw [HST.out]; exact j0)
              have h3 : je = 3 := by have := HST.out; rw [HE.1] at this; injection this with _ h; exact h.symm
              have HE2 : Hid (putS l i r (N, se) = ([], 3)) := HE.2
              subst h3
              go_wp2
              go_ret2
              rw [HJ.out, HE2.out]
              exact ⟨_, rfl, World.ownsRow_nil _ _ _ _, hBf⟩
          · have cN2 := cN w9 hB7
            go_wp2_with (go_at_call 50; refine (refHas_any _ _ _ (by assumption)).mono ?_; rintro e w0 ⟨rfl, hw0⟩; replace hw0 := hw0.symm; subst hw0; first | rw [hp] | rw [hq])
            refine cN2.mono ?_
            rintro e w12 ⟨v12, rfl, hO12, hB12⟩
            clear cN2
            replace hB7 := chain hB7 hB12
            replace hOM := OwnsC.below hOM hB12
            replace hO9 := OwnsC.below hO9 hB12
            replace hA7 := hA7.below hB12
            clear z0 z1
            have z0 := hA7.1
            have z1 := hA7.2.1
            obtain ⟨p12, q12, rfl⟩ := OwnsC.len hO12
            by_cases s0 : se = 0
            · subst s0
              have cM2 := rMeet_ok (A) N _ _ w12 (OwnsC.row hO9) (OwnsC.row hO12) (rA) rN.out
              have HF : Hid (partF c i r (N, 0) = meetR (A) N) := by show partF c i r (N, 0) = meetR (A) N; unfold partF; rw [HA0.out, hq]; simp
              have tG : Told (meetR (A) N) := Told.meet _ _
              generalize meetR (A) N = PG at cM2 HF tG
              obtain ⟨G, pe⟩ := PG
              dsimp only at cM2 HF
              go_wp2_with (go_at_call 50; refine (refHas_any _ _ _ (by assumption)).mono ?_; rintro e w0 ⟨rfl, hw0⟩; replace hw0 := hw0.symm; subst hw0; first | rw [hp] | rw [hq])
              refine cM2.mono ?_
              rintro e w13 ⟨v13, rfl, hO13, hB13⟩
              clear cM2
              replace hB7 := chain hB7 hB13
              replace hOM := OwnsC.below hOM hB13
              replace hO9 := OwnsC.below hO9 hB13
              replace hA7 := hA7.below hB13
              clear z0 z1
              have z0 := hA7.1
              have z1 := hA7.2.1
              obtain ⟨p13, q13, rfl⟩ := OwnsC.len hO13
              by_cases pe0 : pe = 0
              · subst pe0
                have rG : rightF G = true := tG.right
                go_wp2_with fail
                have cJ := rJoin_any M G _ _ w13 (OwnsC.row hOM) (OwnsC.row hO13) (by omega) (by have := rightF_len rG; omega)
                rw [joinF_ok rM rG] at cJ
                have HST : Hid (putS (l.take (k + 1)) i r (N, 0) = joinR M G) := HStep.out.trans (by rw [stepP_some, HF.out]; simp)
                generalize joinR M G = PJ at cJ HST
                obtain ⟨J, je⟩ := PJ
                dsimp only at cJ HST
                refine cJ.mono ?_
                rintro e w20 ⟨v20, rfl, hO20, hB20⟩
                clear cJ
                have hBf := chain hB7 hB20
                obtain ⟨p20, q20, rfl⟩ := OwnsC.len hO20
                by_cases j0 : je = 0
                · subst j0
                  go_wp2
                  go_roundw
                  case rel => exact ⟨k + 1, by omega, by go_num, by rw [HST.out], by rw [HST.out]; exact OwnsC.mono hO20 hB7.size, hBf⟩
                  case measure => simp [intOf]; omega
                · have HE := HStuck.out (by rw [HST.out]; exact j0)
                  have h3 : je = 3 := by have := HST.out; rw [HE.1] at this; injection this with _ h; exact h.symm
                  have HE2 : Hid (putS l i r (N, 0) = ([], 3)) := HE.2
                  subst h3
                  go_wp2
                  go_ret2
                  rw [HJ.out, HE2.out]
                  exact ⟨_, rfl, World.ownsRow_nil _ _ _ _, hBf⟩
              · skip
                have HST : Hid (putS (l.take (k + 1)) i r (N, 0) = ([], pe)) := HStep.out.trans (by rw [stepP_some, HF.out]; simp [pe0])
                have HE := HStuck.out (by rw [HST.out]; exact pe0)
                have h3 : pe = 3 := by have := HST.out; rw [HE.1] at this; injection this with _ h; exact h.symm
                have HE2 : Hid (putS l i r (N, 0) = ([], 3)) := HE.2
                subst h3
                go_wp2_with (go_at_call 50; refine (refHas_any _ _ _ (by assumption)).mono ?_; rintro e w0 ⟨rfl, hw0⟩; replace hw0 := hw0.symm; subst hw0; first | rw [hp] | rw [hq])
                go_ret2
                rw [HJ.out, HE2.out]
                exact ⟨_, rfl, World.ownsRow_nil _ _ _ _, hB7⟩
            · have HF : Hid (partF c i r (N, se) = ([], se)) := by show partF c i r (N, se) = ([], se); unfold partF; rw [HA0.out, hq]; simp [s0]
              have pe0 : se ≠ 0 := s0
              have HST : Hid (putS (l.take (k + 1)) i r (N, se) = ([], se)) := HStep.out.trans (by rw [stepP_some, HF.out]; simp [pe0])
              have HE := HStuck.out (by rw [HST.out]; exact pe0)
              have h3 : se = 3 := by have := HST.out; rw [HE.1] at this; injection this with _ h; exact h.symm
              have HE2 : Hid (putS l i r (N, se) = ([], 3)) := HE.2
              subst h3
              go_wp2_with (go_at_call 50; refine (refHas_any _ _ _ (by assumption)).mono ?_; rintro e w0 ⟨rfl, hw0⟩; replace hw0 := hw0.symm; subst hw0; first | rw [hp] | rw [hq])
              go_ret2
              rw [HJ.out, HE2.out]
              exact ⟨_, rfl, World.ownsRow_nil _ _ _ _, hB7⟩
        · have HF : Hid (partF c i r (N, se) = ([], ae)) := by
            have h3 := tA.no a0
            show partF c i r (N, se) = ([], ae)
            injection h3 with h4 h5
            unfold partF; rw [HA0.out]; simp [a0, h4]
          have pe0 : ae ≠ 0 := a0
          have HST : Hid (putS (l.take (k + 1)) i r (N, se) = ([], ae)) := HStep.out.trans (by rw [stepP_some, HF.out]; simp [pe0])
          have HE := HStuck.out (by rw [HST.out]; exact pe0)
          have h3 : ae = 3 := by have := HST.out; rw [HE.1] at this; injection this with _ h; exact h.symm
          have HE2 : Hid (putS l i r (N, se) = ([], 3)) := HE.2
          subst h3
          go_wp2_with (go_at_call 50; refine (refHas_any _ _ _ (by assumption)).mono ?_; rintro e w0 ⟨rfl, hw0⟩; replace hw0 := hw0.symm; subst hw0; first | rw [hp] | rw [hq])
          go_ret2
          rw [HJ.out, HE2.out]
          exact ⟨_, rfl, World.ownsRow_nil _ _ _ _, hB7⟩
    · obtain rfl : k = n := by omega
      have e : l.take k = l := List.take_of_length_le (by rw [← Hn.out]; exact Nat.le_refl _)
      rw [e] at hO HZ
      have HE : Hid (putR l i r = ((putS l i r (N, se)).1, 0)) := HJ.out.trans (by rw [← HZ.out])
      obtain ⟨pM, qM, rfl⟩ := OwnsC.len hO
      go_wp2
      go_ret2
      rw [HE.out]
      exact ⟨_, rfl, hO, hny⟩
end Go.Proofs.Ytkklmioejgpknaa
