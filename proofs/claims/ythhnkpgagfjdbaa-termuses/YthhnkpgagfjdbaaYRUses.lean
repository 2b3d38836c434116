/- Which variables a term has, by the document. -/
import Derived.Deep.DeepCutAuto
import Derived.Test.YthhnkpgagfjdbaaYKinds
import Derived.Test.YthhnkpgagfjdbaaYUses
namespace Go.Proofs.Ythhnkpgagfjdbaa
open Go.RowKit
set_option linter.unusedVariables false
set_option linter.unusedSimpArgs false

theorem us_neg {n : Int} (hn : n < 0) (N : Nat) : ∀ t : Tm, blk t ≤ N → ∀ bv, usT n t bv = false := by
  induction N with
  | zero => intro t h; have := blk_pos t; omega
  | succ N ih =>
    intro t h bv
    rw [us_eq, decide_eq_false (show ¬ 0 ≤ n by omega)]
    simp only [Bool.and_false, Bool.false_and, Bool.false_or, List.any_eq_false]
    intro p hp
    rw [ih p.1 (by have := blk_pts hp; omega)]; simp
theorem us_big {ok : Nat → Prop} {w : World} {t : Tm} {v : Value} (h : TmIn ok w t v) : ∀ (n : Int) (bv : Nat), 9223372036854775807 < n + bv → usT n t bv = false := by
  refine h (fun t _ => ∀ (n : Int) (bv : Nat), 9223372036854775807 < n + bv → usT n t bv = false) ?_
  intro k m nm r kids sys vr vk vs hk hm h1 h2 h3 n bv hb
  rw [us_eq]
  have e : decide (m = n + bv) = false := by have := hm.2; simp; omega
  show ((decide (k = 1) && decide (0 ≤ n) && decide (m = n + bv)) || _) = false
  rw [e, Bool.and_false, Bool.false_or, List.any_eq_false]
  intro p hp
  rcases mem_pts hp with ⟨j, h4, h5⟩ | ⟨b, h4, h5, h6⟩
  · obtain ⟨_, _, _, _, h7⟩ := h2
    obtain ⟨g, off, u0, u1, u2, u3, u4, u5, _, _, _, hP, _⟩ := h7 j p.1 h4
    rw [hP n _ (by rw [h5]; simp only; omega)]; simp
  · obtain ⟨_, _, _, _, h7⟩ := h3
    obtain ⟨j, hj⟩ := List.mem_iff_getElem?.1 h4
    obtain ⟨g, off, vf, vk', _, _, _, _, h8, _⟩ := h7 j b hj
    obtain ⟨_, _, _, _, h9⟩ := h8
    obtain ⟨q, hq⟩ := List.mem_iff_getElem?.1 h5
    obtain ⟨_, _, _, _, _, _, _, _, _, _, _, hP, _⟩ := h9 q p.1 hq
    rw [hP n _ (by rw [h6]; simp only; omega)]; simp
/-- The number that is asked for, behind so many binders. -/
def URel (n : Int) (bv : Nat) (m : Int) : Prop := I64 m ∧ ((m < 0 ∧ (n < 0 ∨ 9223372036854775807 < n + bv)) ∨ (0 ≤ m ∧ 0 ≤ n ∧ m = n + bv))
theorem w64_id' {x : Int} (h : I64 x) : wrap64 x = x := by
  obtain ⟨h1, h2⟩ := h
  unfold wrap64; omega
theorem URel.step {n : Int} {bv : Nat} {m : Int} (h : URel n bv m) (h0 : 0 ≤ m) (b : Nat) (hb : b ≤ 1) : URel n (bv + b) (wrap64 (m + (b : Int))) := by
  obtain ⟨⟨i1, i2⟩, h1 | ⟨_, h2, h3⟩⟩ := h
  · omega
  · unfold URel I64 wrap64
    refine ⟨by omega, ?_⟩
    omega
def RUsC (N : Nat) : Prop := ∀ (n : Int) (t : Tm) (v : Value) (bv : Nat) (m : Int) (w : World), blk t ≤ N → blk t ≤ 100000 → URel n bv m → TmIn Tt w t v → Calls Try.prog 25 #[v, .int .i64 m] w fun e w' => e = .returned (.bool (usT n t bv)) ∧ Below w.heap.size w w'
set_option maxRecDepth 100000 in
set_option maxHeartbeats 3000000 in
theorem ruses_step (N : Nat) (IH : RUsC N) : RUsC (N + 1) := by
  intro n t v bv m w hbN hbb hUR h
  have HU0 : Hid (m < 0 → usT n t bv = false) := fun hm => by
    obtain ⟨_, ⟨_, h1 | h1⟩ | h1⟩ := hUR
    · exact us_neg h1 _ t (Nat.le_refl _) bv
    · exact us_big h n bv h1
    · omega
  obtain ⟨ra, rc, ka, kc, sa, sc, rfl, ht⟩ := h.form
  obtain ⟨w1, hw1⟩ : ∃ w1, w1 = w.alloc (.cells #[.int .i64 t.kind, .int .i64 t.n, .string t.name, .slice ra t.r.length rc, .slice ka t.kids.length kc, .slice sa t.sys.length sc] 26) := ⟨_, rfl⟩
  have b1 : Below w.heap.size w w1 := by rw [hw1]; exact belowA _ _
  have HC : Hid (Cs6 w1 w.heap.size 0 t ra rc ka kc sa sc) := by rw [hw1]; exact cs6_new w t ra rc ka kc sa sc
  have HT : Hid (TmTop Tt w1 t ra rc ka kc sa sc) := ht.blw b1
  obtain ⟨i1, i2⟩ := ht.inn
  have hlen := blk_lens t
  obtain ⟨L, hL⟩ : ∃ L, L = t.kids.length := ⟨_, rfl⟩
  have HL : Hid (L = t.kids.length) := hL
  obtain ⟨M, hM⟩ : ∃ M, M = t.sys.length := ⟨_, rfl⟩
  have HM : Hid (M = t.sys.length) := hM
  rw [← hL, ← hM] at hlen
  have HE := us_eq n t bv
  obtain ⟨ans, hans⟩ : ∃ a, a = usT n t bv := ⟨_, rfl⟩
  rw [← hans] at HE HU0 ⊢
  have HEh : Hid (_ = _) := HE
  have HW : Hid (_ = _) := hw1
  clear hw1 h ht hL hM hans HE
  go_enter Try.func25, Try.ntmps25
  go_upto_region 1 with fail
  rw [← HW.out]
  clear HW
  by_cases hm0 : m < 0
  · have HF : Hid (ans = false) := HU0.out hm0
    go_wp2_with fail
    go_ret
    exact ⟨ret_bool HF.out.symm, b1⟩
  · have hm1 : 0 ≤ m := by omega
    have Hn0 : Hid (0 ≤ n ∧ m = n + bv) := (by obtain ⟨_, h1 | h1⟩ := hUR <;> omega : 0 ≤ n ∧ m = n + bv)
    obtain ⟨k, hk⟩ : ∃ k, k = t.kind := ⟨_, rfl⟩
    have HK : Hid (k = t.kind) := hk
    obtain ⟨tn, htn⟩ : ∃ k, k = t.n := ⟨_, rfl⟩
    have HTn : Hid (tn = t.n) := htn
    obtain ⟨c0, hc0⟩ := bool_of (k = 1 ∧ tn = m)
    have HC0 : Hid (c0 = (decide (t.kind = 1) && decide (0 ≤ n) && decide (t.n = n + bv))) := by
      show _ = _
      rw [Bool.eq_iff_iff, hc0, decide_eq_true Hn0.out.1, ← Hn0.out.2, HK.out, HTn.out]; simp
    have hLb : L ≤ 100000 := by omega
    have hMb : M ≤ 100000 := by omega
    obtain ⟨_, x0, x1, x2, x3, x4, x5⟩ := HC.out.blw (Below.refl _ _)
    simp only [Nat.zero_add] at x1 x2 x3 x4 x5
    rw [← HL.out] at x4
    rw [← HM.out] at x5
    rw [← hk] at x0
    rw [← htn] at x1
    clear hk htn
    go_upto_region 3 with fail
    go_cut [5] (fun s wx => s = .bool c0 ∧ wx = w1)
    case first => as_aux_lemma =>
      by_cases hk1 : k = 1
      · have e : c0 = (tn == m) := by rw [Bool.eq_iff_iff, hc0]; simp [hk1]
        clear hc0
        subst hk1
        go_wp2_with fail
        go_meet
        exact ⟨by rw [e], rfl⟩
      · have e : c0 = false := by rw [Bool.eq_false_iff]; intro h; exact hk1 (hc0.1 h).1
        have q1 : (k == 1) = false := by simpa using hk1
        clear hc0
        go_wp2_with fail
        go_meet
        exact ⟨by rw [e], rfl⟩
    case rest =>
    obtain ⟨rfl, hcut⟩ := hcut
    replace hcut := hcut.symm
    subst hcut
    clear x0 x1 x2 x3 x4 x5
    clear hc0
    go_wp2_with fail
    go_loopw [5, 6] (fun s i wr => ∃ (k : Nat) (b : Bool), k ≤ L ∧ i = .int .i64 k ∧ s = .bool b ∧ Hid (b = true ↔ (c0 = true ∨ ∃ j x, j < k ∧ t.kids[j]? = some x ∧ usT n x (bv + bvK t.kind j) = true)) ∧ Below w1.heap.size w1 wr) (fun _ i _ => L - (intOf i).toNat)
    case atStart => exact ⟨0, c0, Nat.zero_le _, rfl, rfl, ⟨fun h => .inl h, fun h => h.elim id (fun ⟨j, _, hj, _⟩ => by omega)⟩, Below.refl _ _⟩
    case round =>
      obtain ⟨wo, hwo⟩ : ∃ wo, wo = wr := ⟨_, rfl⟩
      subst hwo
      obtain ⟨k, b, hk, rfl, rfl, HS, hBr⟩ := hrel
      obtain ⟨_, x0, x1, x2, x3, x4, x5⟩ := HC.out.blw (hBr)
      simp only [Nat.zero_add] at x1 x2 x3 x4 x5
      rw [← HL.out] at x4
      rw [← HM.out] at x5
      by_cases hlt : k < L
      · have hkI : (k : Int) < (L : Int) := by omega
        obtain ⟨y, hy⟩ := someL (l := t.kids) (k := k) (by rw [← HL.out]; exact hlt)
        have hby : blk y < blk t := blk_kid (List.mem_of_getElem? hy)
        have HYs : Hid (t.kids[k]? = some y) := hy
        obtain ⟨g, off, ra1, rc1, ka1, kc1, sa1, sc1, rfl, hg, q6, qt⟩ := (HT.out.blw hBr).kids.at hy
        have cB := rBinds_any t.kind (k : Int) wo
        rw [bvI_nat, bdI_nat] at cB
        have hv1 := bvK_le t.kind k
        obtain ⟨v1, hv1e⟩ : ∃ v, v = bvK t.kind k := ⟨_, rfl⟩
        have HVD : Hid (v1 = bvK t.kind k) := hv1e
        rw [← hv1e] at cB hv1
        clear hv1e hy
        obtain ⟨kb, hkb⟩ : ∃ b, b = usT n y (bv + v1) := ⟨_, rfl⟩
        have HKb : Hid (kb = usT n y (bv + v1)) := hkb
        have hUR2 := hUR.step hm1 v1 hv1
        obtain ⟨mw, Hmw⟩ : ∃ x, Hid (wrap64 (m + (v1 : Int)) = x) := ⟨_, rfl⟩
        rw [Hmw.out] at hUR2
        have cc := IH n y _ (bv + v1) mw wo (by omega) (by omega) hUR2 qt.value
        rw [← hkb] at cc
        clear hUR2 hkb qt
        obtain ⟨_, d0, d1, d2, d3, d4, d5⟩ := q6
        have HN : Hid (∀ b2 : Bool, b2 = (b || kb) → (b2 = true ↔ (c0 = true ∨ ∃ j x, j < (k + 1) ∧ t.kids[j]? = some x ∧ usT n x (bv + bvK t.kind j) = true))) := fun b2 e => by
          rw [e, Bool.or_eq_true, HS.out]
          constructor
          · rintro ((h | ⟨j, x, h1, h2, h3⟩) | h)
            · exact .inl h
            · exact .inr ⟨j, x, by omega, h2, h3⟩
            · exact .inr ⟨k, y, by omega, HYs.out, by rw [← HVD.out, ← HKb.out]; exact h⟩
          · rintro (h | ⟨j, x, h1, h2, h3⟩)
            · exact .inl (.inl h)
            · rcases Nat.lt_or_ge j k with h4 | h4
              · exact .inl (.inr ⟨j, x, h4, h2, h3⟩)
              · have ej : j = k := by omega
                rw [ej] at h2 h3; rw [HYs.out] at h2; cases h2
                right; rw [HKb.out, HVD.out]; exact h3
        clear HS HKb
        cases b with
        | true =>
          have HS2 : Hid (true = true ↔ (c0 = true ∨ ∃ j x, j < (k + 1) ∧ t.kids[j]? = some x ∧ usT n x (bv + bvK t.kind j) = true)) := HN.out true (by simp)
          clear HN cc
          go_wp2_with fail
          refine cB.mono ?_
          rintro e w' ⟨rfl, hw'⟩
          replace hw' := hw'.symm
          subst hw'
          clear cB
          have wr1 := Hmw.out
          go_wp2_with fail
          go_roundw
          case rel => exact ⟨k + 1, true, by omega, by go_num, rfl, ⟨fun _ => HS2.out.1 (by first | trivial | rfl), fun _ => rfl⟩, hBr⟩
          case measure => simp [intOf]; omega
        | false =>
          have HS3 : Hid (kb = true ↔ (c0 = true ∨ ∃ j x, j < (k + 1) ∧ t.kids[j]? = some x ∧ usT n x (bv + bvK t.kind j) = true)) := HN.out kb (by simp)
          clear HN
          go_wp2_with fail
          refine cB.mono ?_
          rintro e w' ⟨rfl, hw'⟩
          replace hw' := hw'.symm
          subst hw'
          clear cB
          have wr1 := Hmw.out
          go_wp2_with fail
          refine cc.mono ?_
          rintro e w6 ⟨rfl, hb6⟩
          clear cc d0 d1 d2 d3 d4 d5
          clear x0 x1 x2 x3 x4 x5
          go_wp2_with fail
          go_roundw
          case rel => exact ⟨k + 1, kb, by omega, by go_num, rfl, HS3, bchain hBr hb6⟩
          case measure => simp [intOf]; omega
      · have hkI : ¬ (k : Int) < (L : Int) := by omega
        have HS1 : Hid (b = true ↔ (c0 = true ∨ ∃ j x, t.kids[j]? = some x ∧ usT n x (bv + bvK t.kind j) = true)) := (by
          rw [HS.out]
          constructor
          · rintro (h | ⟨j, x, _, h2, h3⟩)
            · exact .inl h
            · exact .inr ⟨j, x, h2, h3⟩
          · rintro (h | ⟨j, x, h2, h3⟩)
            · exact .inl h
            · exact .inr ⟨j, x, by have := some_lt h2; rw [← HL.out] at this; omega, h2, h3⟩ : b = true ↔ (c0 = true ∨ ∃ j x, t.kids[j]? = some x ∧ usT n x (bv + bvK t.kind j) = true))
        clear HS
        go_wp2_with fail
        clear x0 x1 x2 x3 x4 x5
        go_loopw [5, 9] (fun s i wr => ∃ (k : Nat) (b : Bool), k ≤ M ∧ i = .int .i64 k ∧ s = .bool b ∧ Hid (b = true ↔ ((c0 = true ∨ ∃ j x, t.kids[j]? = some x ∧ usT n x (bv + bvK t.kind j) = true) ∨ ∃ j c x, j < k ∧ t.sys[j]? = some c ∧ x ∈ c.2 ∧ usT n x bv = true)) ∧ Below w1.heap.size w1 wr) (fun _ i _ => M - (intOf i).toNat)
        case atStart => exact ⟨0, b, Nat.zero_le _, rfl, rfl, ⟨fun h => .inl (HS1.out.1 h), fun h => h.elim HS1.out.2 (fun ⟨j, _, _, hj, _⟩ => by omega)⟩, hBr⟩
        case round =>
          obtain ⟨wp, hwp⟩ : ∃ wp, wp = wr := ⟨_, rfl⟩
          subst hwp
          clear hkI hBr HS1
          obtain ⟨k, b, hk, rfl, rfl, HS, hBr⟩ := hrel
          obtain ⟨_, x0, x1, x2, x3, x4, x5⟩ := HC.out.blw (hBr)
          simp only [Nat.zero_add] at x1 x2 x3 x4 x5
          rw [← HL.out] at x4
          rw [← HM.out] at x5
          by_cases hlt : k < M
          · have hkI : (k : Int) < (M : Int) := by omega
            obtain ⟨c, hc⟩ := someL (l := t.sys) (k := k) (by rw [← HM.out]; exact hlt)
            have HMm : Hid (c ∈ t.sys) := List.mem_of_getElem? hc
            have HYs : Hid (t.sys[k]? = some c) := hc
            have hbl := blk_br (List.mem_of_getElem? hc)
            have hbl2 := blkL_len c.2
            obtain ⟨g, off, fa, fc, ka1, kc1, rfl, hg, q2, qf, qk⟩ := (HT.out.blw hBr).sys.at hc
            obtain ⟨K, hK⟩ : ∃ K, K = c.2.length := ⟨_, rfl⟩
            have HKl : Hid (K = c.2.length) := hK
            have hKb : K ≤ 100000 := by omega
            have HQ2 : Hid (Cs2 wp g (off + k * 2) c fa fc ka1 kc1) := q2
            have HKd : Hid (KdT Tt wp (TmIn Tt wp) c.2 (.slice ka1 c.2.length kc1)) := qk
            obtain ⟨_, e0, e1⟩ := q2
            rw [← hK] at e1
            clear hK hc qf qk hbl hbl2
            go_wp2_with fail
            clear e0 e1 x0 x1 x2 x3 x4 x5
            go_loopw [5, 10] (fun s i wr => ∃ (j : Nat) (b : Bool), j ≤ K ∧ i = .int .i64 j ∧ s = .bool b ∧ Hid (b = true ↔ (((c0 = true ∨ ∃ j x, t.kids[j]? = some x ∧ usT n x (bv + bvK t.kind j) = true) ∨ ∃ j c x, j < k ∧ t.sys[j]? = some c ∧ x ∈ c.2 ∧ usT n x bv = true) ∨ ∃ q x, q < j ∧ c.2[q]? = some x ∧ usT n x bv = true)) ∧ Below wp.heap.size wp wr) (fun _ i _ => K - (intOf i).toNat)
            case atStart => exact ⟨0, b, Nat.zero_le _, rfl, rfl, ⟨fun h => .inl (HS.out.1 h), fun h => h.elim HS.out.2 (fun ⟨q, _, hq, _⟩ => by omega)⟩, Below.refl _ _⟩
            case round =>
              obtain ⟨wq, hwq⟩ : ∃ wq, wq = wr := ⟨_, rfl⟩
              subst hwq
              clear HS
              obtain ⟨j, b, hj, rfl, rfl, HS, hBq⟩ := hrel
              have hB7 := bchain hBr hBq
              obtain ⟨_, x0, x1, x2, x3, x4, x5⟩ := HC.out.blw (hB7)
              simp only [Nat.zero_add] at x1 x2 x3 x4 x5
              rw [← HL.out] at x4
              rw [← HM.out] at x5
              obtain ⟨_, e0, e1⟩ := HQ2.out.blw hBq
              rw [← HKl.out] at e1
              by_cases hlt2 : j < K
              · have hjI : (j : Int) < (K : Int) := by omega
                obtain ⟨y, hy⟩ := someL (l := c.2) (k := j) (by rw [← HKl.out]; exact hlt2)
                have hby : blk y < blk t := blk_sub HMm.out (List.mem_of_getElem? hy)
                have HYj : Hid (c.2[j]? = some y) := hy
                obtain ⟨g2, off2, ra2, rc2, ka2, kc2, sa2, sc2, rfl, hg2, q6, qt⟩ := (HKd.out.blw hBq).at hy
                obtain ⟨kb, hkb⟩ : ∃ b, b = usT n y bv := ⟨_, rfl⟩
                have HKb : Hid (kb = usT n y bv) := hkb
                have cc := IH n y _ bv m wq (by omega) (by omega) hUR qt.value
                rw [← hkb] at cc
                clear hkb qt hy
                obtain ⟨_, d0, d1, d2, d3, d4, d5⟩ := q6
                have HN : Hid (∀ b2 : Bool, b2 = (b || kb) → (b2 = true ↔ (((c0 = true ∨ ∃ j x, t.kids[j]? = some x ∧ usT n x (bv + bvK t.kind j) = true) ∨ ∃ j c x, j < k ∧ t.sys[j]? = some c ∧ x ∈ c.2 ∧ usT n x bv = true) ∨ ∃ q x, q < (j + 1) ∧ c.2[q]? = some x ∧ usT n x bv = true))) := fun b2 e => by
                  rw [e, Bool.or_eq_true, HS.out]
                  constructor
                  · rintro ((h | ⟨q, x, h1, h2, h3⟩) | h)
                    · exact .inl h
                    · exact .inr ⟨q, x, by omega, h2, h3⟩
                    · exact .inr ⟨j, y, by omega, HYj.out, by rw [← HKb.out]; exact h⟩
                  · rintro (h | ⟨q, x, h1, h2, h3⟩)
                    · exact .inl (.inl h)
                    · rcases Nat.lt_or_ge q j with h4 | h4
                      · exact .inl (.inr ⟨q, x, h4, h2, h3⟩)
                      · have ej : q = j := by omega
                        rw [ej, HYj.out] at h2; cases h2
                        right; rw [HKb.out]; exact h3
                clear HS HKb HYj
                cases b with
                | true =>
                  have HS2 : Hid (true = true ↔ (((c0 = true ∨ ∃ j x, t.kids[j]? = some x ∧ usT n x (bv + bvK t.kind j) = true) ∨ ∃ j c x, j < k ∧ t.sys[j]? = some c ∧ x ∈ c.2 ∧ usT n x bv = true) ∨ ∃ q x, q < (j + 1) ∧ c.2[q]? = some x ∧ usT n x bv = true)) := HN.out true (by simp)
                  clear HN cc
                  go_wp2_with fail
                  go_roundw
                  case rel => exact ⟨j + 1, true, by omega, by go_num, rfl, ⟨fun _ => HS2.out.1 (by first | trivial | rfl), fun _ => rfl⟩, hBq⟩
                  case measure => simp [intOf]; omega
                | false =>
                  have HS3 : Hid (kb = true ↔ (((c0 = true ∨ ∃ j x, t.kids[j]? = some x ∧ usT n x (bv + bvK t.kind j) = true) ∨ ∃ j c x, j < k ∧ t.sys[j]? = some c ∧ x ∈ c.2 ∧ usT n x bv = true) ∨ ∃ q x, q < (j + 1) ∧ c.2[q]? = some x ∧ usT n x bv = true)) := HN.out kb (by simp)
                  clear HN
                  go_wp2_with fail
                  refine cc.mono ?_
                  rintro e w6 ⟨rfl, hb6⟩
                  clear cc d0 d1 d2 d3 d4 d5 e0 e1 x0 x1 x2 x3 x4 x5
                  go_wp2_with fail
                  go_roundw
                  case rel => exact ⟨j + 1, kb, by omega, by go_num, rfl, HS3, bchain hBq hb6⟩
                  case measure => simp [intOf]; omega
              · have hjI : ¬ (j : Int) < (K : Int) := by omega
                have HS2 : Hid (b = true ↔ ((c0 = true ∨ ∃ j x, t.kids[j]? = some x ∧ usT n x (bv + bvK t.kind j) = true) ∨ ∃ j c x, j < (k + 1) ∧ t.sys[j]? = some c ∧ x ∈ c.2 ∧ usT n x bv = true)) := (by
                  rw [HS.out]
                  constructor
                  · rintro ((h | ⟨i, d, x, h1, h2, h3, h4⟩) | ⟨q, x, _, h2, h3⟩)
                    · exact .inl h
                    · exact .inr ⟨i, d, x, by omega, h2, h3, h4⟩
                    · exact .inr ⟨k, c, x, by omega, HYs.out, List.mem_of_getElem? h2, h3⟩
                  · rintro (h | ⟨i, d, x, h1, h2, h3, h4⟩)
                    · exact .inl (.inl h)
                    · rcases Nat.lt_or_ge i k with h5 | h5
                      · exact .inl (.inr ⟨i, d, x, h5, h2, h3, h4⟩)
                      · have ei : i = k := by omega
                        rw [ei, HYs.out] at h2; cases h2
                        obtain ⟨q, hq⟩ := List.mem_iff_getElem?.1 h3
                        exact .inr ⟨q, x, by have := some_lt hq; rw [← HKl.out] at this; omega, hq, h4⟩ : b = true ↔ ((c0 = true ∨ ∃ j x, t.kids[j]? = some x ∧ usT n x (bv + bvK t.kind j) = true) ∨ ∃ j c x, j < (k + 1) ∧ t.sys[j]? = some c ∧ x ∈ c.2 ∧ usT n x bv = true))
                clear HS
                go_wp2_with fail
                go_roundw
                case rel => exact ⟨k + 1, b, by omega, by go_num, rfl, HS2, hB7⟩
                case measure => simp [intOf]; omega
          · have hkI : ¬ (k : Int) < (M : Int) := by omega
            have HR : Hid (ans = b) := (by
              rw [HEh.out, ← HC0.out, Bool.eq_iff_iff, HS.out, Bool.or_eq_true, List.any_eq_true]
              constructor
              · rintro (h | ⟨p, hp, h⟩)
                · exact .inl (.inl h)
                · rcases mem_pts hp with ⟨j, h1, h2⟩ | ⟨c, h1, h2, h3⟩
                  · rw [h2] at h; exact .inl (.inr ⟨j, p.1, h1, h⟩)
                  · rw [h3] at h
                    obtain ⟨q, hq⟩ := List.mem_iff_getElem?.1 h1
                    exact .inr ⟨q, c, p.1, by have := some_lt hq; rw [← HM.out] at this; omega, hq, h2, h⟩
              · rintro ((h | ⟨j, x, h1, h2⟩) | ⟨j, c, x, _, h1, h2, h3⟩)
                · exact .inl h
                · exact .inr ⟨_, pts_kid h1, h2⟩
                · exact .inr ⟨_, pts_sys (List.mem_of_getElem? h1) h2, h3⟩ : ans = b)
            clear HS
            go_wp2_with fail
            go_ret
            exact ⟨ret_bool HR.out.symm, bchain b1 hBr⟩
theorem ruses_any (N : Nat) : RUsC N := by
  induction N with
  | zero => intro n t v bv m w hb; have := blk_pos t; omega
  | succ N ih => exact ruses_step N ih
end Go.Proofs.Ythhnkpgagfjdbaa
