/- Which dimensions a term has, by the document. -/
import Derived.Test.YthhnkpgagfjdbaaYKinds
import Derived.Test.YthhnkpgagfjdbaaYUses
namespace Go.Proofs.Ythhnkpgagfjdbaa
open Go.RowKit
set_option linter.unusedVariables false
set_option linter.unusedSimpArgs false

def RHsC (N : Nat) : Prop := ∀ (t : Tm) (v : Value) (jj : Nat) (w : World), blk t ≤ N → blk t ≤ 40000 → jj ≤ 1000 → TmIn Tt w t v → Calls Try.prog 49 #[v, .int .i64 (jj : Int)] w fun e w' => e = .returned (.bool (hsT t jj)) ∧ Below w.heap.size w w'
set_option maxRecDepth 100000 in
set_option maxHeartbeats 5000000 in
theorem rhas_step (N : Nat) (IH : RHsC N) : RHsC (N + 1) := by
  intro t v jj w hbN hbb hjj h
  have HU0 : Hid (24 ≤ jj → hsT t jj = false) := fun hm => hs_hi _ t (Nat.le_refl _) _ hm
  obtain ⟨ra, rc, ka, kc, sa, sc, rfl, ht⟩ := h.form
  obtain ⟨w1, hw1⟩ : ∃ w1, w1 = w.alloc (.cells #[.int .i64 t.kind, .int .i64 t.n, .string t.name, .slice ra t.r.length rc, .slice ka t.kids.length kc, .slice sa t.sys.length sc] 26) := ⟨_, rfl⟩
  have b1 : Below w.heap.size w w1 := by rw [hw1]; exact belowA _ _
  have HC : Hid (Cs6 w1 w.heap.size 0 t ra rc ka kc sa sc) := by rw [hw1]; exact cs6_new w t ra rc ka kc sa sc
  have HT : Hid (TmTop Tt w1 t ra rc ka kc sa sc) := ht.blw b1
  have hlen := blk_lens t
  obtain ⟨R, hR⟩ : ∃ L, L = t.r.length := ⟨_, rfl⟩
  have HR : Hid (R = t.r.length) := hR
  obtain ⟨L, hL⟩ : ∃ L, L = t.kids.length := ⟨_, rfl⟩
  have HL : Hid (L = t.kids.length) := hL
  obtain ⟨M, hM⟩ : ∃ M, M = t.sys.length := ⟨_, rfl⟩
  have HM : Hid (M = t.sys.length) := hM
  rw [← hL, ← hM, ← hR] at hlen
  have HE := hs_eq t jj
  obtain ⟨ans, hans⟩ : ∃ a, a = hsT t jj := ⟨_, rfl⟩
  rw [← hans] at HE HU0 ⊢
  have HEh : Hid (_ = _) := HE
  have HW : Hid (_ = _) := hw1
  clear hw1 h ht hL hM hR hans HE
  go_enter Try.func49, Try.ntmps49
  go_upto_region 1 with fail
  rw [← HW.out]
  clear HW
  by_cases hm0 : 24 ≤ jj
  · have HF : Hid (ans = false) := HU0.out hm0
    have hmI : (24 : Int) ≤ (jj : Int) := by omega
    go_wp2_with fail
    go_ret
    exact ⟨ret_bool HF.out.symm, b1⟩
  · have hm1 : jj < 24 := by omega
    have hmI : ¬ (24 : Int) ≤ (jj : Int) := by omega
    have hLb : L ≤ 100000 := by omega
    have hMb : M ≤ 100000 := by omega
    have cD := rDims_any t.r (.slice ra R rc) w1 (by rw [HR.out]; exact HT.out.row.row) (by rw [← HR.out]; omega)
    have hdl := dimsN_lt t.r
    obtain ⟨d, hd⟩ : ∃ d, d = dimsN t.r := ⟨_, rfl⟩
    obtain ⟨c0, hc0⟩ : ∃ c, c = (dimsN t.r).testBit jj := ⟨_, rfl⟩
    have HC0 : Hid (c0 = (dimsN t.r).testBit jj) := hc0
    have hhb : hasB d (jj : Int) = c0 := by rw [hd, hc0]; exact hasB_nat hm1
    rw [← hd] at cD hdl
    clear hd hc0
    obtain ⟨_, x0, x1, x2, x3, x4, x5⟩ := HC.out.blw (Below.refl _ _)
    simp only [Nat.zero_add] at x1 x2 x3 x4 x5
    rw [← HR.out] at x3
    rw [← HL.out] at x4
    rw [← HM.out] at x5
    go_wp2_with fail
    refine cD.mono ?_
    rintro e w2 ⟨rfl, b2⟩
    clear cD
    have cH := refHas_any d (jj : Int) w2 (by omega)
    rw [hhb] at cH
    go_wp2_with fail
    refine cH.mono ?_
    rintro e w' ⟨rfl, hw'⟩
    replace hw' := hw'.symm
    subst hw'
    clear cH hhb
    clear x0 x1 x2 x3 x4 x5
    go_wp2_with fail
    go_loopw [5, 6] (fun s i wr => ∃ (k : Nat) (b : Bool), k ≤ L ∧ i = .int .i64 k ∧ s = .bool b ∧ Hid (b = true ↔ (c0 = true ∨ ∃ j x, j < k ∧ t.kids[j]? = some x ∧ hsT x (jj + bdK t.kind j) = true)) ∧ Below w1.heap.size w1 wr) (fun _ i _ => L - (intOf i).toNat)
    case atStart => exact ⟨0, c0, Nat.zero_le _, rfl, rfl, ⟨fun h => .inl h, fun h => h.elim id (fun ⟨j, _, hj, _⟩ => by omega)⟩, b2⟩
    case round =>
      obtain ⟨wo, hwo⟩ : ∃ wo, wo = wr := ⟨_, rfl⟩
      subst hwo
      obtain ⟨k, b, hk, rfl, rfl, HS, hBr⟩ := hrel
      obtain ⟨_, x0, x1, x2, x3, x4, x5⟩ := HC.out.blw (hBr)
      simp only [Nat.zero_add] at x1 x2 x3 x4 x5
      rw [← HR.out] at x3
      rw [← HL.out] at x4
      rw [← HM.out] at x5
      by_cases hlt : k < L
      · have hkI : (k : Int) < (L : Int) := by omega
        obtain ⟨y, hy⟩ := someL (l := t.kids) (k := k) (by rw [← HL.out]; exact hlt)
        have hby : blk y < blk t := blk_kid (List.mem_of_getElem? hy)
        have HYs : Hid (t.kids[k]? = some y) := hy
        obtain ⟨g, off, ra1, rc1, ka1, kc1, sa1, sc1, rfl, hg, q6, qt⟩ := (HT.out.blw hBr).kids.at hy
        have cB := rBinds_any t.kind (k : Int) wo
        rw [bvI_nat, bdI_nat] at cB
        have hv1 := bdK_le t.kind k
        have hv2 := bvK_le t.kind k
        obtain ⟨v1, hv1e⟩ : ∃ v, v = bdK t.kind k := ⟨_, rfl⟩
        obtain ⟨v2, hv2e⟩ : ∃ v, v = bvK t.kind k := ⟨_, rfl⟩
        have HVD : Hid (v1 = bdK t.kind k) := hv1e
        rw [← hv1e] at cB hv1
        rw [← hv2e] at cB hv2
        clear hv1e hv2e hy
        obtain ⟨kb, hkb⟩ : ∃ b, b = hsT y (jj + v1) := ⟨_, rfl⟩
        have HKb : Hid (kb = hsT y (jj + v1)) := hkb
        have cc := IH y _ (jj + v1) wo (by omega) (by omega) (by omega) qt.value
        rw [← hkb, show ((jj + v1 : Nat) : Int) = (jj : Int) + (v1 : Int) by omega] at cc
        clear hkb qt
        obtain ⟨_, d0, d1, d2, d3, d4, d5⟩ := q6
        have HN : Hid (∀ b2 : Bool, b2 = (b || kb) → (b2 = true ↔ (c0 = true ∨ ∃ j x, j < (k + 1) ∧ t.kids[j]? = some x ∧ hsT x (jj + bdK t.kind j) = true))) := fun b2 e => by
          rw [e, Bool.or_eq_true, HS.out]
          constructor
          · rintro ((h | ⟨j, x, h1, h2, h3⟩) | h)
            · exact .inl h
            · exact .inr ⟨j, x, by omega, h2, h3⟩
            · exact .inr ⟨k, y, by omega, HYs.out, by rw [← HVD.out, ← HKb.out]; exact h⟩
          · rintro (h | ⟨j, x, h1, h2, h3⟩)
            · exact .inl (.inl h)
            · rcases Nat.lt_or_ge j k with h4 | h4
              · exact .inl (.inr ⟨j, x, h4, h2, h3⟩)
              · have ej : j = k := by omega
                rw [ej] at h2 h3; rw [HYs.out] at h2; cases h2
                right; rw [HKb.out, HVD.out]; exact h3
        clear HS HKb
        cases b with
        | true =>
          have HS2 : Hid (true = true ↔ (c0 = true ∨ ∃ j x, j < (k + 1) ∧ t.kids[j]? = some x ∧ hsT x (jj + bdK t.kind j) = true)) := HN.out true (by simp)
          clear HN cc
          go_wp2_with fail
          refine cB.mono ?_
          rintro e w' ⟨rfl, hw'⟩
          replace hw' := hw'.symm
          subst hw'
          clear cB
          go_wp2_with fail
          go_roundw
          case rel => exact ⟨k + 1, true, by omega, by go_num, rfl, ⟨fun _ => HS2.out.1 (by first | trivial | rfl), fun _ => rfl⟩, hBr⟩
          case measure => simp [intOf]; omega
        | false =>
          have HS3 : Hid (kb = true ↔ (c0 = true ∨ ∃ j x, j < (k + 1) ∧ t.kids[j]? = some x ∧ hsT x (jj + bdK t.kind j) = true)) := HN.out kb (by simp)
          clear HN
          go_wp2_with fail
          refine cB.mono ?_
          rintro e w' ⟨rfl, hw'⟩
          replace hw' := hw'.symm
          subst hw'
          clear cB
          go_wp2_with fail
          refine cc.mono ?_
          rintro e w6 ⟨rfl, hb6⟩
          clear cc d0 d1 d2 d3 d4 d5
          clear x0 x1 x2 x3 x4 x5
          go_wp2_with fail
          go_roundw
          case rel => exact ⟨k + 1, kb, by omega, by go_num, rfl, HS3, bchain hBr hb6⟩
          case measure => simp [intOf]; omega
      · have hkI : ¬ (k : Int) < (L : Int) := by omega
        have HS1 : Hid (b = true ↔ (c0 = true ∨ ∃ j x, t.kids[j]? = some x ∧ hsT x (jj + bdK t.kind j) = true)) := (by
          rw [HS.out]
          constructor
          · rintro (h | ⟨j, x, _, h2, h3⟩)
            · exact .inl h
            · exact .inr ⟨j, x, h2, h3⟩
          · rintro (h | ⟨j, x, h2, h3⟩)
            · exact .inl h
            · exact .inr ⟨j, x, by have := some_lt h2; rw [← HL.out] at this; omega, h2, h3⟩ : b = true ↔ (c0 = true ∨ ∃ j x, t.kids[j]? = some x ∧ hsT x (jj + bdK t.kind j) = true))
        clear HS
        go_wp2_with fail
        clear x0 x1 x2 x3 x4 x5
        go_loopw [5, 9] (fun s i wr => ∃ (k : Nat) (b : Bool), k ≤ M ∧ i = .int .i64 k ∧ s = .bool b ∧ Hid (b = true ↔ ((c0 = true ∨ ∃ j x, t.kids[j]? = some x ∧ hsT x (jj + bdK t.kind j) = true) ∨ ∃ j c, j < k ∧ t.sys[j]? = some c ∧ ((dimsN c.1).testBit jj = true ∨ ∃ x ∈ c.2, hsT x (jj + moreK t.kind) = true))) ∧ Below w1.heap.size w1 wr) (fun _ i _ => M - (intOf i).toNat)
        case atStart => exact ⟨0, b, Nat.zero_le _, rfl, rfl, ⟨fun h => .inl (HS1.out.1 h), fun h => h.elim HS1.out.2 (fun ⟨j, _, hj, _⟩ => by omega)⟩, hBr⟩
        case round =>
          obtain ⟨wp, hwp⟩ : ∃ wp, wp = wr := ⟨_, rfl⟩
          subst hwp
          clear hkI hBr HS1
          obtain ⟨k, b, hk, rfl, rfl, HS, hBr⟩ := hrel
          obtain ⟨_, x0, x1, x2, x3, x4, x5⟩ := HC.out.blw (hBr)
          simp only [Nat.zero_add] at x1 x2 x3 x4 x5
          rw [← HR.out] at x3
          rw [← HL.out] at x4
          rw [← HM.out] at x5
          by_cases hlt : k < M
          · have hkI : (k : Int) < (M : Int) := by omega
            obtain ⟨c, hc⟩ := someL (l := t.sys) (k := k) (by rw [← HM.out]; exact hlt)
            have HMm : Hid (c ∈ t.sys) := List.mem_of_getElem? hc
            have HYs : Hid (t.sys[k]? = some c) := hc
            have hbl := blk_br (List.mem_of_getElem? hc)
            have hbl2 := blkL_len c.2
            obtain ⟨g, off, fa, fc, ka1, kc1, rfl, hg, q2, qf, qk⟩ := (HT.out.blw hBr).sys.at hc
            obtain ⟨K, hK⟩ : ∃ K, K = c.2.length := ⟨_, rfl⟩
            have HKl : Hid (K = c.2.length) := hK
            have hKb : K ≤ 100000 := by omega
            obtain ⟨Fl, hFl⟩ : ∃ K, K = c.1.length := ⟨_, rfl⟩
            have HFl : Hid (Fl = c.1.length) := hFl
            have HQ2 : Hid (Cs2 wp g (off + k * 2) c fa fc ka1 kc1) := q2
            have HKd : Hid (KdT Tt wp (TmIn Tt wp) c.2 (.slice ka1 c.2.length kc1)) := qk
            have cF := rDims_any c.1 (.slice fa Fl fc) wp (by rw [hFl]; exact qf.row) (by omega)
            have hdl := dimsN_lt c.1
            obtain ⟨d, hd⟩ : ∃ d, d = dimsN c.1 := ⟨_, rfl⟩
            obtain ⟨fb, hfb⟩ : ∃ c2, c2 = (dimsN c.1).testBit jj := ⟨_, rfl⟩
            have HFb : Hid (fb = (dimsN c.1).testBit jj) := hfb
            have hhb : hasB d (jj : Int) = fb := by rw [hd, hfb]; exact hasB_nat hm1
            rw [← hd] at cF hdl
            obtain ⟨_, e0, e1⟩ := q2
            rw [← hK] at e1
            rw [← hFl] at e0
            clear hK hc qf qk hbl hbl2 hd hfb hFl
            have HG : Hid (∀ b2 : Bool, b2 = (b || fb) → (b2 = true ↔ (((c0 = true ∨ ∃ j x, t.kids[j]? = some x ∧ hsT x (jj + bdK t.kind j) = true) ∨ ∃ j c, j < k ∧ t.sys[j]? = some c ∧ ((dimsN c.1).testBit jj = true ∨ ∃ x ∈ c.2, hsT x (jj + moreK t.kind) = true)) ∨ fb = true))) := fun b2 e => by rw [e, Bool.or_eq_true, HS.out]
            clear HS
            cases b with
            | true =>
              have HS0 : Hid (true = true ↔ (((c0 = true ∨ ∃ j x, t.kids[j]? = some x ∧ hsT x (jj + bdK t.kind j) = true) ∨ ∃ j c, j < k ∧ t.sys[j]? = some c ∧ ((dimsN c.1).testBit jj = true ∨ ∃ x ∈ c.2, hsT x (jj + moreK t.kind) = true)) ∨ fb = true)) := HG.out true (by simp)
              clear HG cF hhb
              go_wp2_with fail
              clear e0 e1 x0 x1 x2 x3 x4 x5
              go_loopw [5, 10] (fun s i wr => ∃ (j : Nat) (b : Bool), j ≤ K ∧ i = .int .i64 j ∧ s = .bool b ∧ Hid (b = true ↔ ((((c0 = true ∨ ∃ j x, t.kids[j]? = some x ∧ hsT x (jj + bdK t.kind j) = true) ∨ ∃ j c, j < k ∧ t.sys[j]? = some c ∧ ((dimsN c.1).testBit jj = true ∨ ∃ x ∈ c.2, hsT x (jj + moreK t.kind) = true)) ∨ fb = true) ∨ ∃ q x, q < j ∧ c.2[q]? = some x ∧ hsT x (jj + moreK t.kind) = true)) ∧ Below wp.heap.size wp wr) (fun _ i _ => K - (intOf i).toNat)
              case atStart => exact ⟨0, true, Nat.zero_le _, rfl, rfl, ⟨fun h => .inl (HS0.out.1 (by first | exact h | trivial)), fun h => by first | rfl | exact h.elim HS0.out.2 (fun ⟨q, _, hq, _⟩ => by omega)⟩, Below.refl _ _⟩
              case round =>
                obtain ⟨wq, hwq⟩ : ∃ wq, wq = wr := ⟨_, rfl⟩
                subst hwq
                clear HS0
                obtain ⟨j, b, hj, rfl, rfl, HS, hBq⟩ := hrel
                have hB7 := bchain hBr hBq
                by_cases hlt2 : j < K
                · have hjI : (j : Int) < (K : Int) := by omega
                  obtain ⟨y, hy⟩ := someL (l := c.2) (k := j) (by rw [← HKl.out]; exact hlt2)
                  have hby : blk y < blk t := blk_sub HMm.out (List.mem_of_getElem? hy)
                  have HYj : Hid (c.2[j]? = some y) := hy
                  obtain ⟨g2, off2, ra2, rc2, ka2, kc2, sa2, sc2, rfl, hg2, q6, qt⟩ := (HKd.out.blw hBq).at hy
                  have HQ6 : Hid (Cs6 wq g2 (off2 + j * 6) y ra2 rc2 ka2 kc2 sa2 sc2) := q6
                  have HQt : Hid (TmTop Tt wq y ra2 rc2 ka2 kc2 sa2 sc2) := qt
                  have hml := moreK_le t.kind
                  obtain ⟨mK, hmK⟩ : ∃ m, m = moreK t.kind := ⟨_, rfl⟩
                  have HmK : Hid (mK = moreK t.kind) := hmK
                  rw [← hmK] at hml
                  obtain ⟨kb, hkb⟩ : ∃ b, b = hsT y (jj + mK) := ⟨_, rfl⟩
                  have HKb : Hid (kb = hsT y (jj + moreK t.kind)) := by rw [← HmK.out]; exact hkb
                  obtain ⟨JM, hJM⟩ : ∃ x, x = jj + mK := ⟨_, rfl⟩
                  have wr1 : IntKind.i64.wrap ((jj : Int) + (mK : Int)) = (JM : Int) := by rw [hJM]; simp [IntKind.wrap, IntKind.bits, IntKind.signed]; omega
                  have rM : Hid (∀ x : Cw wq, Calls Try.prog 60 #[.int .i64 t.kind] x.1 fun e w' => e = .returned (.int .i64 (mK : Int)) ∧ ∃ x' : Cw wq, w' = x'.1) := fun x => (rMore_any t.kind x.1).mono fun e w' ⟨he, hw⟩ => ⟨by rw [HmK.out]; exact he, x, hw⟩
                  have rC : Hid (∀ x : Cw wq, Calls Try.prog 49 #[.agg #[.int .i64 y.kind, .int .i64 y.n, .string y.name, .slice ra2 y.r.length rc2, .slice ka2 y.kids.length kc2, .slice sa2 y.sys.length sc2], .int .i64 (JM : Int)] x.1 fun e w' => e = .returned (.bool kb) ∧ ∃ x' : Cw wq, w' = x'.1) := fun x => cw_call x (by rw [hkb, ← hJM]; exact IH y _ JM x.1 (by omega) (by omega) (by omega) (HQt.out.blw x.2).value)
                  clear hy q6 qt hmK hkb hJM
                  have HN : Hid (∀ b2 : Bool, b2 = (b || kb) → (b2 = true ↔ ((((c0 = true ∨ ∃ j x, t.kids[j]? = some x ∧ hsT x (jj + bdK t.kind j) = true) ∨ ∃ j c, j < k ∧ t.sys[j]? = some c ∧ ((dimsN c.1).testBit jj = true ∨ ∃ x ∈ c.2, hsT x (jj + moreK t.kind) = true)) ∨ fb = true) ∨ ∃ q x, q < (j + 1) ∧ c.2[q]? = some x ∧ hsT x (jj + moreK t.kind) = true))) := fun b2 e => by
                    rw [e, Bool.or_eq_true, HS.out]
                    constructor
                    · rintro ((h | ⟨q, x, h1, h2, h3⟩) | h)
                      · exact .inl h
                      · exact .inr ⟨q, x, by omega, h2, h3⟩
                      · exact .inr ⟨j, y, by omega, HYj.out, by rw [← HKb.out]; exact h⟩
                    · rintro (h | ⟨q, x, h1, h2, h3⟩)
                      · exact .inl (.inl h)
                      · rcases Nat.lt_or_ge q j with h4 | h4
                        · exact .inl (.inr ⟨q, x, h4, h2, h3⟩)
                        · have ej : q = j := by omega
                          rw [ej, HYj.out] at h2; cases h2
                          right; rw [HKb.out]; exact h3
                  clear HS HKb HYj
                  obtain ⟨_, x0, x1, x2, x3, x4, x5⟩ := HC.out.blw (hB7)
                  simp only [Nat.zero_add] at x1 x2 x3 x4 x5
                  rw [← HM.out] at x5
                  obtain ⟨_, e0, e1⟩ := HQ2.out.blw hBq
                  rw [← HKl.out] at e1
                  go_upto_region 16 with fail
                  clear e0 e1 x0 x1 x2 x3 x4 x5
                  have hne := cw_any wq
                  have y0 : ∀ x : Cw wq, x.1.cell? ⟨w.heap.size, 0, none⟩ = some (.int .i64 t.kind) := fun x => by have := (HC.out.blw (bchain hB7 x.2)).c0; simpa only [Nat.zero_add] using this
                  have y5 : ∀ x : Cw wq, x.1.cell? ⟨w.heap.size, 5, none⟩ = some (.slice (some ⟨g, off, none⟩) M sc) := fun x => by have := (HC.out.blw (bchain hB7 x.2)).c5; rw [← HM.out] at this; simpa only [Nat.zero_add] using this
                  have z1 : ∀ x : Cw wq, x.1.cell? ⟨g, off + k * 2 + 1, none⟩ = some (.slice (some ⟨g2, off2, none⟩) K kc1) := fun x => by have := (HQ2.out.blw (bchain hBq x.2)).c1; rw [← HKl.out] at this; exact this
                  have d0 : ∀ x : Cw wq, x.1.cell? ⟨g2, off2 + j * 6, none⟩ = some (.int .i64 y.kind) := fun x => (HQ6.out.blw x.2).c0
                  have d1 : ∀ x : Cw wq, x.1.cell? ⟨g2, off2 + j * 6 + 1, none⟩ = some (.int .i64 y.n) := fun x => (HQ6.out.blw x.2).c1
                  have d2 : ∀ x : Cw wq, x.1.cell? ⟨g2, off2 + j * 6 + 2, none⟩ = some (.string y.name) := fun x => (HQ6.out.blw x.2).c2
                  have d3 : ∀ x : Cw wq, x.1.cell? ⟨g2, off2 + j * 6 + 3, none⟩ = some (.slice ra2 y.r.length rc2) := fun x => (HQ6.out.blw x.2).c3
                  have d4 : ∀ x : Cw wq, x.1.cell? ⟨g2, off2 + j * 6 + 4, none⟩ = some (.slice ka2 y.kids.length kc2) := fun x => (HQ6.out.blw x.2).c4
                  have d5 : ∀ x : Cw wq, x.1.cell? ⟨g2, off2 + j * 6 + 5, none⟩ = some (.slice sa2 y.sys.length sc2) := fun x => (HQ6.out.blw x.2).c5
                  cases b with
                  | true =>
                    have HS2 : Hid (true = true ↔ ((((c0 = true ∨ ∃ j x, t.kids[j]? = some x ∧ hsT x (jj + bdK t.kind j) = true) ∨ ∃ j c, j < k ∧ t.sys[j]? = some c ∧ ((dimsN c.1).testBit jj = true ∨ ∃ x ∈ c.2, hsT x (jj + moreK t.kind) = true)) ∨ fb = true) ∨ ∃ q x, q < (j + 1) ∧ c.2[q]? = some x ∧ hsT x (jj + moreK t.kind) = true)) := HN.out true (by simp)
                    clear HN
                    refine wp_region_cw (by kernel_rfl) (by kernel_rfl) ?_
                    repeat (first | go_big_quiet_step (fail) | quiet_step (fail))
                    refine wpQuiet_nil ?_
                    rintro _ ⟨x, rfl⟩
                    obtain ⟨w8, b8⟩ := x
                    dsimp only
                    clear rM rC hne y0 y5 z1 d0 d1 d2 d3 d4 d5 wr1
                    go_wp2_with fail
                    go_roundw
                    case rel => exact ⟨j + 1, true, by omega, by go_num, rfl, ⟨fun _ => HS2.out.1 (by first | trivial | rfl), fun _ => rfl⟩, bchain hBq b8⟩
                    case measure => simp [intOf]; omega
                  | false =>
                    have HS3 : Hid (kb = true ↔ ((((c0 = true ∨ ∃ j x, t.kids[j]? = some x ∧ hsT x (jj + bdK t.kind j) = true) ∨ ∃ j c, j < k ∧ t.sys[j]? = some c ∧ ((dimsN c.1).testBit jj = true ∨ ∃ x ∈ c.2, hsT x (jj + moreK t.kind) = true)) ∨ fb = true) ∨ ∃ q x, q < (j + 1) ∧ c.2[q]? = some x ∧ hsT x (jj + moreK t.kind) = true)) := HN.out kb (by simp)
                    clear HN
                    refine wp_region_cw (by kernel_rfl) (by kernel_rfl) ?_
                    repeat (first | go_big_quiet_step (fail) | quiet_step (fail))
                    first | go_big_quiet_step (exact rM.out _) | quiet_step (exact rM.out _)
                    repeat (first | go_big_quiet_step (fail) | quiet_step (fail))
                    first | go_big_quiet_step (exact rC.out _) | quiet_step (exact rC.out _)
                    repeat (first | go_big_quiet_step (fail) | quiet_step (fail))
                    refine wpQuiet_nil ?_
                    rintro _ ⟨x, rfl⟩
                    obtain ⟨w8, b8⟩ := x
                    dsimp only
                    clear rM rC hne y0 y5 z1 d0 d1 d2 d3 d4 d5 wr1
                    go_wp2_with fail
                    go_roundw
                    case rel => exact ⟨j + 1, kb, by omega, by go_num, rfl, HS3, bchain hBq b8⟩
                    case measure => simp [intOf]; omega
                · have hjI : ¬ (j : Int) < (K : Int) := by omega
                  have HS2 : Hid (b = true ↔ ((c0 = true ∨ ∃ j x, t.kids[j]? = some x ∧ hsT x (jj + bdK t.kind j) = true) ∨ ∃ j c, j < (k + 1) ∧ t.sys[j]? = some c ∧ ((dimsN c.1).testBit jj = true ∨ ∃ x ∈ c.2, hsT x (jj + moreK t.kind) = true))) := (by
                    rw [HS.out]
                    constructor
                    · rintro (((h | ⟨i, d, h1, h2, h3⟩) | h) | ⟨q, x, _, h2, h3⟩)
                      · exact .inl h
                      · exact .inr ⟨i, d, by omega, h2, h3⟩
                      · exact .inr ⟨k, c, by omega, HYs.out, .inl (by rw [← HFb.out]; exact h)⟩
                      · exact .inr ⟨k, c, by omega, HYs.out, .inr ⟨x, List.mem_of_getElem? h2, h3⟩⟩
                    · rintro (h | ⟨i, d, h1, h2, h3⟩)
                      · exact .inl (.inl (.inl h))
                      · rcases Nat.lt_or_ge i k with h5 | h5
                        · exact .inl (.inl (.inr ⟨i, d, h5, h2, h3⟩))
                        · have ei : i = k := by omega
                          rw [ei, HYs.out] at h2; cases h2
                          rcases h3 with h3 | ⟨x, hx, h4⟩
                          · exact .inl (.inr (by rw [HFb.out]; exact h3))
                          · obtain ⟨q, hq⟩ := List.mem_iff_getElem?.1 hx
                            exact .inr ⟨q, x, by have := some_lt hq; rw [← HKl.out] at this; omega, hq, h4⟩ : b = true ↔ ((c0 = true ∨ ∃ j x, t.kids[j]? = some x ∧ hsT x (jj + bdK t.kind j) = true) ∨ ∃ j c, j < (k + 1) ∧ t.sys[j]? = some c ∧ ((dimsN c.1).testBit jj = true ∨ ∃ x ∈ c.2, hsT x (jj + moreK t.kind) = true)))
                  clear HS
                  obtain ⟨_, x0, x1, x2, x3, x4, x5⟩ := HC.out.blw (hB7)
                  simp only [Nat.zero_add] at x1 x2 x3 x4 x5
                  rw [← HM.out] at x5
                  obtain ⟨_, e0, e1⟩ := HQ2.out.blw hBq
                  rw [← HKl.out] at e1
                  go_wp2_with fail
                  go_roundw
                  case rel => exact ⟨k + 1, b, by omega, by go_num, rfl, HS2, hB7⟩
                  case measure => simp [intOf]; omega
            | false =>
              have HS0 : Hid (fb = true ↔ (((c0 = true ∨ ∃ j x, t.kids[j]? = some x ∧ hsT x (jj + bdK t.kind j) = true) ∨ ∃ j c, j < k ∧ t.sys[j]? = some c ∧ ((dimsN c.1).testBit jj = true ∨ ∃ x ∈ c.2, hsT x (jj + moreK t.kind) = true)) ∨ fb = true)) := HG.out fb (by simp)
              clear HG
              go_wp2_with fail
              refine cF.mono ?_
              rintro e w3 ⟨rfl, b3⟩
              clear cF
              have cH := refHas_any d (jj : Int) w3 (by omega)
              rw [hhb] at cH
              go_wp2_with fail
              refine cH.mono ?_
              rintro e w' ⟨rfl, hw'⟩
              replace hw' := hw'.symm
              subst hw'
              clear cH hhb e0 e1 x0 x1 x2 x3 x4 x5
              go_wp2_with fail
              go_loopw [5, 10] (fun s i wr => ∃ (j : Nat) (b : Bool), j ≤ K ∧ i = .int .i64 j ∧ s = .bool b ∧ Hid (b = true ↔ ((((c0 = true ∨ ∃ j x, t.kids[j]? = some x ∧ hsT x (jj + bdK t.kind j) = true) ∨ ∃ j c, j < k ∧ t.sys[j]? = some c ∧ ((dimsN c.1).testBit jj = true ∨ ∃ x ∈ c.2, hsT x (jj + moreK t.kind) = true)) ∨ fb = true) ∨ ∃ q x, q < j ∧ c.2[q]? = some x ∧ hsT x (jj + moreK t.kind) = true)) ∧ Below wp.heap.size wp wr) (fun _ i _ => K - (intOf i).toNat)
              case atStart => exact ⟨0, fb, Nat.zero_le _, rfl, rfl, ⟨fun h => .inl (HS0.out.1 (by first | exact h | trivial)), fun h => by first | rfl | exact h.elim HS0.out.2 (fun ⟨q, _, hq, _⟩ => by omega)⟩, b3⟩
              case round =>
                obtain ⟨wq, hwq⟩ : ∃ wq, wq = wr := ⟨_, rfl⟩
                subst hwq
                clear HS0
                obtain ⟨j, b, hj, rfl, rfl, HS, hBq⟩ := hrel
                have hB7 := bchain hBr hBq
                by_cases hlt2 : j < K
                · have hjI : (j : Int) < (K : Int) := by omega
                  obtain ⟨y, hy⟩ := someL (l := c.2) (k := j) (by rw [← HKl.out]; exact hlt2)
                  have hby : blk y < blk t := blk_sub HMm.out (List.mem_of_getElem? hy)
                  have HYj : Hid (c.2[j]? = some y) := hy
                  obtain ⟨g2, off2, ra2, rc2, ka2, kc2, sa2, sc2, rfl, hg2, q6, qt⟩ := (HKd.out.blw hBq).at hy
                  have HQ6 : Hid (Cs6 wq g2 (off2 + j * 6) y ra2 rc2 ka2 kc2 sa2 sc2) := q6
                  have HQt : Hid (TmTop Tt wq y ra2 rc2 ka2 kc2 sa2 sc2) := qt
                  have hml := moreK_le t.kind
                  obtain ⟨mK, hmK⟩ : ∃ m, m = moreK t.kind := ⟨_, rfl⟩
                  have HmK : Hid (mK = moreK t.kind) := hmK
                  rw [← hmK] at hml
                  obtain ⟨kb, hkb⟩ : ∃ b, b = hsT y (jj + mK) := ⟨_, rfl⟩
                  have HKb : Hid (kb = hsT y (jj + moreK t.kind)) := by rw [← HmK.out]; exact hkb
                  obtain ⟨JM, hJM⟩ : ∃ x, x = jj + mK := ⟨_, rfl⟩
                  have wr1 : IntKind.i64.wrap ((jj : Int) + (mK : Int)) = (JM : Int) := by rw [hJM]; simp [IntKind.wrap, IntKind.bits, IntKind.signed]; omega
                  have rM : Hid (∀ x : Cw wq, Calls Try.prog 60 #[.int .i64 t.kind] x.1 fun e w' => e = .returned (.int .i64 (mK : Int)) ∧ ∃ x' : Cw wq, w' = x'.1) := fun x => (rMore_any t.kind x.1).mono fun e w' ⟨he, hw⟩ => ⟨by rw [HmK.out]; exact he, x, hw⟩
                  have rC : Hid (∀ x : Cw wq, Calls Try.prog 49 #[.agg #[.int .i64 y.kind, .int .i64 y.n, .string y.name, .slice ra2 y.r.length rc2, .slice ka2 y.kids.length kc2, .slice sa2 y.sys.length sc2], .int .i64 (JM : Int)] x.1 fun e w' => e = .returned (.bool kb) ∧ ∃ x' : Cw wq, w' = x'.1) := fun x => cw_call x (by rw [hkb, ← hJM]; exact IH y _ JM x.1 (by omega) (by omega) (by omega) (HQt.out.blw x.2).value)
                  clear hy q6 qt hmK hkb hJM
                  have HN : Hid (∀ b2 : Bool, b2 = (b || kb) → (b2 = true ↔ ((((c0 = true ∨ ∃ j x, t.kids[j]? = some x ∧ hsT x (jj + bdK t.kind j) = true) ∨ ∃ j c, j < k ∧ t.sys[j]? = some c ∧ ((dimsN c.1).testBit jj = true ∨ ∃ x ∈ c.2, hsT x (jj + moreK t.kind) = true)) ∨ fb = true) ∨ ∃ q x, q < (j + 1) ∧ c.2[q]? = some x ∧ hsT x (jj + moreK t.kind) = true))) := fun b2 e => by
                    rw [e, Bool.or_eq_true, HS.out]
                    constructor
                    · rintro ((h | ⟨q, x, h1, h2, h3⟩) | h)
                      · exact .inl h
                      · exact .inr ⟨q, x, by omega, h2, h3⟩
                      · exact .inr ⟨j, y, by omega, HYj.out, by rw [← HKb.out]; exact h⟩
                    · rintro (h | ⟨q, x, h1, h2, h3⟩)
                      · exact .inl (.inl h)
                      · rcases Nat.lt_or_ge q j with h4 | h4
                        · exact .inl (.inr ⟨q, x, h4, h2, h3⟩)
                        · have ej : q = j := by omega
                          rw [ej, HYj.out] at h2; cases h2
                          right; rw [HKb.out]; exact h3
                  clear HS HKb HYj
                  obtain ⟨_, x0, x1, x2, x3, x4, x5⟩ := HC.out.blw (hB7)
                  simp only [Nat.zero_add] at x1 x2 x3 x4 x5
                  rw [← HM.out] at x5
                  obtain ⟨_, e0, e1⟩ := HQ2.out.blw hBq
                  rw [← HKl.out] at e1
                  go_upto_region 16 with fail
                  clear e0 e1 x0 x1 x2 x3 x4 x5
                  have hne := cw_any wq
                  have y0 : ∀ x : Cw wq, x.1.cell? ⟨w.heap.size, 0, none⟩ = some (.int .i64 t.kind) := fun x => by have := (HC.out.blw (bchain hB7 x.2)).c0; simpa only [Nat.zero_add] using this
                  have y5 : ∀ x : Cw wq, x.1.cell? ⟨w.heap.size, 5, none⟩ = some (.slice (some ⟨g, off, none⟩) M sc) := fun x => by have := (HC.out.blw (bchain hB7 x.2)).c5; rw [← HM.out] at this; simpa only [Nat.zero_add] using this
                  have z1 : ∀ x : Cw wq, x.1.cell? ⟨g, off + k * 2 + 1, none⟩ = some (.slice (some ⟨g2, off2, none⟩) K kc1) := fun x => by have := (HQ2.out.blw (bchain hBq x.2)).c1; rw [← HKl.out] at this; exact this
                  have d0 : ∀ x : Cw wq, x.1.cell? ⟨g2, off2 + j * 6, none⟩ = some (.int .i64 y.kind) := fun x => (HQ6.out.blw x.2).c0
                  have d1 : ∀ x : Cw wq, x.1.cell? ⟨g2, off2 + j * 6 + 1, none⟩ = some (.int .i64 y.n) := fun x => (HQ6.out.blw x.2).c1
                  have d2 : ∀ x : Cw wq, x.1.cell? ⟨g2, off2 + j * 6 + 2, none⟩ = some (.string y.name) := fun x => (HQ6.out.blw x.2).c2
                  have d3 : ∀ x : Cw wq, x.1.cell? ⟨g2, off2 + j * 6 + 3, none⟩ = some (.slice ra2 y.r.length rc2) := fun x => (HQ6.out.blw x.2).c3
                  have d4 : ∀ x : Cw wq, x.1.cell? ⟨g2, off2 + j * 6 + 4, none⟩ = some (.slice ka2 y.kids.length kc2) := fun x => (HQ6.out.blw x.2).c4
                  have d5 : ∀ x : Cw wq, x.1.cell? ⟨g2, off2 + j * 6 + 5, none⟩ = some (.slice sa2 y.sys.length sc2) := fun x => (HQ6.out.blw x.2).c5
                  cases b with
                  | true =>
                    have HS2 : Hid (true = true ↔ ((((c0 = true ∨ ∃ j x, t.kids[j]? = some x ∧ hsT x (jj + bdK t.kind j) = true) ∨ ∃ j c, j < k ∧ t.sys[j]? = some c ∧ ((dimsN c.1).testBit jj = true ∨ ∃ x ∈ c.2, hsT x (jj + moreK t.kind) = true)) ∨ fb = true) ∨ ∃ q x, q < (j + 1) ∧ c.2[q]? = some x ∧ hsT x (jj + moreK t.kind) = true)) := HN.out true (by simp)
                    clear HN
                    refine wp_region_cw (by kernel_rfl) (by kernel_rfl) ?_
                    repeat (first | go_big_quiet_step (fail) | quiet_step (fail))
                    refine wpQuiet_nil ?_
                    rintro _ ⟨x, rfl⟩
                    obtain ⟨w8, b8⟩ := x
                    dsimp only
                    clear rM rC hne y0 y5 z1 d0 d1 d2 d3 d4 d5 wr1
                    go_wp2_with fail
                    go_roundw
                    case rel => exact ⟨j + 1, true, by omega, by go_num, rfl, ⟨fun _ => HS2.out.1 (by first | trivial | rfl), fun _ => rfl⟩, bchain hBq b8⟩
                    case measure => simp [intOf]; omega
                  | false =>
                    have HS3 : Hid (kb = true ↔ ((((c0 = true ∨ ∃ j x, t.kids[j]? = some x ∧ hsT x (jj + bdK t.kind j) = true) ∨ ∃ j c, j < k ∧ t.sys[j]? = some c ∧ ((dimsN c.1).testBit jj = true ∨ ∃ x ∈ c.2, hsT x (jj + moreK t.kind) = true)) ∨ fb = true) ∨ ∃ q x, q < (j + 1) ∧ c.2[q]? = some x ∧ hsT x (jj + moreK t.kind) = true)) := HN.out kb (by simp)
                    clear HN
                    refine wp_region_cw (by kernel_rfl) (by kernel_rfl) ?_
                    repeat (first | go_big_quiet_step (fail) | quiet_step (fail))
                    first | go_big_quiet_step (exact rM.out _) | quiet_step (exact rM.out _)
                    repeat (first | go_big_quiet_step (fail) | quiet_step (fail))
                    first | go_big_quiet_step (exact rC.out _) | quiet_step (exact rC.out _)
                    repeat (first | go_big_quiet_step (fail) | quiet_step (fail))
                    refine wpQuiet_nil ?_
                    rintro _ ⟨x, rfl⟩
                    obtain ⟨w8, b8⟩ := x
                    dsimp only
                    clear rM rC hne y0 y5 z1 d0 d1 d2 d3 d4 d5 wr1
                    go_wp2_with fail
                    go_roundw
                    case rel => exact ⟨j + 1, kb, by omega, by go_num, rfl, HS3, bchain hBq b8⟩
                    case measure => simp [intOf]; omega
                · have hjI : ¬ (j : Int) < (K : Int) := by omega
                  have HS2 : Hid (b = true ↔ ((c0 = true ∨ ∃ j x, t.kids[j]? = some x ∧ hsT x (jj + bdK t.kind j) = true) ∨ ∃ j c, j < (k + 1) ∧ t.sys[j]? = some c ∧ ((dimsN c.1).testBit jj = true ∨ ∃ x ∈ c.2, hsT x (jj + moreK t.kind) = true))) := (by
                    rw [HS.out]
                    constructor
                    · rintro (((h | ⟨i, d, h1, h2, h3⟩) | h) | ⟨q, x, _, h2, h3⟩)
                      · exact .inl h
                      · exact .inr ⟨i, d, by omega, h2, h3⟩
                      · exact .inr ⟨k, c, by omega, HYs.out, .inl (by rw [← HFb.out]; exact h)⟩
                      · exact .inr ⟨k, c, by omega, HYs.out, .inr ⟨x, List.mem_of_getElem? h2, h3⟩⟩
                    · rintro (h | ⟨i, d, h1, h2, h3⟩)
                      · exact .inl (.inl (.inl h))
                      · rcases Nat.lt_or_ge i k with h5 | h5
                        · exact .inl (.inl (.inr ⟨i, d, h5, h2, h3⟩))
                        · have ei : i = k := by omega
                          rw [ei, HYs.out] at h2; cases h2
                          rcases h3 with h3 | ⟨x, hx, h4⟩
                          · exact .inl (.inr (by rw [HFb.out]; exact h3))
                          · obtain ⟨q, hq⟩ := List.mem_iff_getElem?.1 hx
                            exact .inr ⟨q, x, by have := some_lt hq; rw [← HKl.out] at this; omega, hq, h4⟩ : b = true ↔ ((c0 = true ∨ ∃ j x, t.kids[j]? = some x ∧ hsT x (jj + bdK t.kind j) = true) ∨ ∃ j c, j < (k + 1) ∧ t.sys[j]? = some c ∧ ((dimsN c.1).testBit jj = true ∨ ∃ x ∈ c.2, hsT x (jj + moreK t.kind) = true)))
                  clear HS
                  obtain ⟨_, x0, x1, x2, x3, x4, x5⟩ := HC.out.blw (hB7)
                  simp only [Nat.zero_add] at x1 x2 x3 x4 x5
                  rw [← HM.out] at x5
                  obtain ⟨_, e0, e1⟩ := HQ2.out.blw hBq
                  rw [← HKl.out] at e1
                  go_wp2_with fail
                  go_roundw
                  case rel => exact ⟨k + 1, b, by omega, by go_num, rfl, HS2, hB7⟩
                  case measure => simp [intOf]; omega
          · have hkI : ¬ (k : Int) < (M : Int) := by omega
            have HR2 : Hid (ans = b) := (by
              rw [HEh.out, ← HC0.out, Bool.eq_iff_iff, HS.out, Bool.or_eq_true, Bool.or_eq_true, List.any_eq_true, List.any_eq_true]
              constructor
              · rintro ((h | ⟨c, hc, h⟩) | ⟨p, hp, h⟩)
                · exact .inl (.inl h)
                · obtain ⟨q, hq⟩ := List.mem_iff_getElem?.1 hc
                  exact .inr ⟨q, c, by have := some_lt hq; rw [← HM.out] at this; omega, hq, .inl h⟩
                · rcases mem_pts hp with ⟨j, h1, h2⟩ | ⟨c, h1, h2, h3⟩
                  · rw [h2] at h; exact .inl (.inr ⟨j, p.1, h1, h⟩)
                  · rw [h3] at h
                    obtain ⟨q, hq⟩ := List.mem_iff_getElem?.1 h1
                    exact .inr ⟨q, c, by have := some_lt hq; rw [← HM.out] at this; omega, hq, .inr ⟨p.1, h2, h⟩⟩
              · rintro ((h | ⟨j, x, h1, h2⟩) | ⟨j, c, _, h1, h2 | ⟨x, h2, h3⟩⟩)
                · exact .inl (.inl h)
                · exact .inr ⟨_, pts_kid h1, h2⟩
                · exact .inl (.inr ⟨c, List.mem_of_getElem? h1, h2⟩)
                · exact .inr ⟨_, pts_sys (List.mem_of_getElem? h1) h2, h3⟩ : ans = b)
            clear HS
            go_wp2_with fail
            go_ret
            exact ⟨ret_bool HR2.out.symm, bchain b1 hBr⟩
theorem rhas_any (N : Nat) : RHsC N := by
  induction N with
  | zero => intro t v jj w hb; have := blk_pos t; omega
  | succ N ih => exact rhas_step N ih
end Go.Proofs.Ythhnkpgagfjdbaa
