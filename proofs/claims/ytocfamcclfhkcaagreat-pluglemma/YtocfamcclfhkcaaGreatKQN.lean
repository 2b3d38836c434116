/- The lemma of substitution: what the statement wants of it. The lemma of substitution, of the program. -/
import Derived.Test.YtocfamcclfhkcaaGreatKQm
import Derived.Test.YtocfamcclfhkcaaGreatKQu
import Derived.Test.YtocfamcclfhkcaaGreatYLfN
import Derived.Test.YtocfamcclfhkcaaGreatKQw
import Derived.Test.YtocfamcclfhkcaaGreatKQs
import Derived.Test.YtocfamcclfhkcaaGreatYBulk
import Derived.Test.YtocfamcclfhkcaaGreatYLfD
namespace Go.Proofs.YtocfamcclfhkcaaGreat
open Go.RowKit
set_option linter.unusedVariables false
set_option linter.unusedSimpArgs false

theorem ple_zero {n : Int} {t u : Tm} (h : plE n t u = 0) : wrongN true 0 0 t = 0 ∧ wrongN true 0 0 u = 0 ∧ ¬ 20000 < (sizeT t : Int) + cnP n t 0 * ((sizeT u : Int) - 1) ∧ eP n u t 0 0 = 0 ∧ plT n t u = putT n u t 0 0 := by
  have e : plT n t u = putT n u t 0 0 := by unfold plT; rw [if_pos h]
  unfold plE at h
  by_cases h1 : wrongN true 0 0 t ≠ 0
  · rw [if_pos h1] at h; omega
  · rw [if_neg h1] at h
    by_cases h2 : wrongN true 0 0 u ≠ 0
    · rw [if_pos h2] at h; omega
    · rw [if_neg h2] at h
      by_cases h3 : n < 0
      · rw [if_pos h3] at h; omega
      · rw [if_neg h3] at h
        by_cases h4 : 20000 < (sizeT t : Int) + cnP n t 0 * ((sizeT u : Int) - 1)
        · rw [if_pos h4] at h; omega
        · rw [if_neg h4] at h
          by_cases h5 : eP n u t 0 0 ≠ 0
          · rw [if_pos h5] at h; exact absurd h h5
          · exact ⟨by omega, by omega, h4, by omega, e⟩
theorem wt_pl {n : Int} {t u : Tm} (ht : WtP 100 t) (hu : WtP 100 u) : WtP 100 (plT n t u) := by
  unfold plT
  split
  · exact wt_put (by omega) hu _ t 0 0 (Nat.le_refl _) ht
  · exact wt_zero (by omega)
theorem blk_pl {n : Int} {t u : Tm} (ht : blk t ≤ 100) (hu : blk u ≤ 100) : blk (plT n t u) ≤ 10100 := by
  unfold plT
  split
  · have h1 := blk_put (n := n) (u := u) _ t 0 0 (Nat.le_refl _)
    have h2 := cn_blk n _ t 0 (Nat.le_refl _)
    have h3 : cnP n t 0 * blk u ≤ 100 * 100 := Nat.mul_le_mul (by omega) hu
    omega
  · rw [zero_t.1]; omega
theorem vars_up {w : Tm} (hw : blk w ≤ 100) : blk (varsT 0 1 w) ≤ 100 ∧ WtP 100 (varsT 0 1 w) ∧ (varsE 0 1 w = 0 → varsT 0 1 w = liT (sf 1 0) w 0 0) := by
  have hW := wt_of_blk (K := 100) _ w (Nat.le_refl _) hw
  refine ⟨?_, ?_, fun h => ?_⟩
  · unfold varsT apT ansL
    split
    · split
      · exact Nat.le_trans (blk_li _ w 0 0 (Nat.le_refl _)) hw
      · rw [zero_t.1]; omega
    · rw [zero_t.1]; omega
  · unfold varsT apT ansL
    split
    · split
      · exact wt_li _ w 0 0 (Nat.le_refl _) hW
      · exact wt_zero (by omega)
    · exact wt_zero (by omega)
  · unfold varsE apE at h
    by_cases q : wrL 0 1 w = 0
    · rw [if_pos q] at h
      unfold varsT apT ansL
      rw [if_pos q, if_pos h]
      rfl
    · rw [if_neg q] at h; exact absurd h q
theorem hsm_any {n : Int} {t u : Tm} (ht : WtP 100 t) (hu : WtP 100 u) (h1 : wrongN true 0 0 t = 0) (h2 : eP n u t 0 0 = 0) (h3 : ¬ 20000 < (sizeT t : Int) + cnP n t 0 * ((sizeT u : Int) - 1)) : blk (putT n u t 0 0) ≤ 10000000 := by
  have q1 := size_put _ t 0 0 (Nat.le_refl _) (fp_of_wrong h1) h2
  have q2 := blk_wt (K := 100) _ _ (Nat.le_refl _) (wt_put (n := n) (by omega) hu _ t 0 0 (Nat.le_refl _) ht)
  have q3 : (cnP n t 0 : Int) * ((sizeT u : Int) - 1) = ((cnP n t 0 * sizeT u : Nat) : Int) - cnP n t 0 := by
    rw [Int.mul_sub, Int.mul_one]
    rfl
  rw [q3] at h3
  omega
theorem wt_up {K K' : Nat} (h : K ≤ K') : ∀ (N : Nat) (t : Tm), blk t ≤ N → WtP K t → WtP K' t
  | 0, t, hN, _ => by have := blk_pos t; omega
  | N + 1, t, hN, hw => by
    rw [wt_eq] at hw ⊢
    exact ⟨by have := hw.1; omega, fun x hx => wt_up h N x (by have := blk_kid hx; omega) (hw.2.1 x hx), fun b hb x hx => wt_up h N x (by have := blk_sub hb hx; omega) (hw.2.2 b hb x hx)⟩
theorem pl_lemma {n : Int} {t u w : Tm} (hn : 0 ≤ n) (ht : blk t ≤ 100) (hu : blk u ≤ 100) (hw : blk w ≤ 100) (e1 : plE 0 t u = 0) (e2 : plE n (plT 0 t u) w = 0) (e3 : varsE 0 1 w = 0) (e4 : plE (n + 1) t (varsT 0 1 w) = 0) (e5 : plE n u w = 0) (e6 : plE 0 (plT (n + 1) t (varsT 0 1 w)) (plT n u w) = 0) :
    plT n (plT 0 t u) w = plT 0 (plT (n + 1) t (varsT 0 1 w)) (plT n u w) ∧ blk (plT n (plT 0 t u) w) ≤ 10000000 ∧ WtP 100000 (plT n (plT 0 t u) w) := by
  have wt := wt_of_blk (K := 100) _ t (Nat.le_refl _) ht
  have wu := wt_of_blk (K := 100) _ u (Nat.le_refl _) hu
  have ww := wt_of_blk (K := 100) _ w (Nat.le_refl _) hw
  have wa := wt_pl (n := 0) wt wu
  have wb := wt_pl (n := n) wa ww
  obtain ⟨a1, a2, a3, a4, a5⟩ := ple_zero e1
  obtain ⟨b1, b2, b3, b4, b5⟩ := ple_zero e2
  obtain ⟨c1, c2, c3, c4, c5⟩ := ple_zero e4
  obtain ⟨d1, d2, d3, d4, d5⟩ := ple_zero e5
  obtain ⟨x1, x2, x3, x4, x5⟩ := ple_zero e6
  have hb := hsm_any wa ww b1 b4 b3
  refine ⟨?_, by rw [b5]; exact hb, wt_up (by omega) _ _ (Nat.le_refl _) wb⟩
  have eu := (vars_up hw).2.2 e3
  rw [b5, x5, a5, c5, d5]
  rw [a5] at b4
  rw [c5, d5] at x4
  rw [eu] at c4 x4 ⊢
  exact p_main hn (fp_of_wrong a2) d4 _ t 0 0 (Nat.le_refl _) (fp_of_wrong a1) a4 b4 c4 x4
end Go.Proofs.YtocfamcclfhkcaaGreat

namespace Go.Proofs.YtocfamcclfhkcaaGreat
open Go.RowKit
set_option linter.unusedVariables false
set_option linter.unusedSimpArgs false

theorem lAllQ : LAll := fun s hs N => lf_any hs N
set_option maxRecDepth 100000 in
set_option maxHeartbeats 8000000 in
theorem walk_PlugLemma (t : Tm) (v0 : Value) (u : Tm) (v1 : Value) (x : Tm) (v2 : Value) (n : Int) (hwn : (Lit.int .i64 n).wf = true) (w : World) (hv0 : TmIn Tt w t v0) (hv1 : TmIn Tt w u v1) (hv2 : TmIn Tt w x v2) :
    Calls Tryz.prog 4 #[v0, v1, v2, .int .i64 n] w fun e w' => e = .returned (.bool true) ∧ Below w.heap.size w w' := by
  obtain ⟨rat, rct, kat, kct, sat, sct, rfl, ht⟩ := hv0.form
  obtain ⟨rau, rcu, kau, kcu, sau, scu, rfl, hu⟩ := hv1.form
  obtain ⟨rax, rcx, kax, kcx, sax, scx, rfl, hx⟩ := hv2.form
  have hnI : I64 n := by
    have h := hwn
    simp [Lit.wf, IntKind.min, IntKind.max, IntKind.bits, IntKind.signed] at h
    unfold I64
    omega
  obtain ⟨X, hX⟩ : ∃ X, X = w.heap.size := ⟨_, rfl⟩
  obtain ⟨wa, hwa⟩ : ∃ W, W = w.alloc (.cells #[.int .i64 t.kind, .int .i64 t.n, .string t.name, .slice rat t.r.length rct, .slice kat t.kids.length kct, .slice sat t.sys.length sct] 26) := ⟨_, rfl⟩
  have ba : Below w.heap.size w wa := by rw [hwa]; exact belowA _ _
  have sa : wa.heap.size = X + 1 := by rw [hwa, hX]; simp
  have nt : Six wa X (.int .i64 t.kind) (.int .i64 t.n) (.string t.name) (.slice rat t.r.length rct) (.slice kat t.kids.length kct) (.slice sat t.sys.length sct) := ⟨by rw [hwa, hX]; exact heapNew _ _⟩
  obtain ⟨wb, hwb⟩ : ∃ W, W = wa.alloc (.cells #[.int .i64 u.kind, .int .i64 u.n, .string u.name, .slice rau u.r.length rcu, .slice kau u.kids.length kcu, .slice sau u.sys.length scu] 26) := ⟨_, rfl⟩
  have bb : Below wa.heap.size wa wb := by rw [hwb]; exact belowA _ _
  have sb : wb.heap.size = X + 2 := by rw [hwb]; simp; omega
  have nu : Six wb (X + 1) (.int .i64 u.kind) (.int .i64 u.n) (.string u.name) (.slice rau u.r.length rcu) (.slice kau u.kids.length kcu) (.slice sau u.sys.length scu) := ⟨by rw [hwb, ← sa]; exact heapNew _ _⟩
  obtain ⟨w1, hw1⟩ : ∃ W, W = wb.alloc (.cells #[.int .i64 x.kind, .int .i64 x.n, .string x.name, .slice rax x.r.length rcx, .slice kax x.kids.length kcx, .slice sax x.sys.length scx] 26) := ⟨_, rfl⟩
  have b1 : Below wb.heap.size wb w1 := by rw [hw1]; exact belowA _ _
  have nx : Six w1 (X + 2) (.int .i64 x.kind) (.int .i64 x.n) (.string x.name) (.slice rax x.r.length rcx) (.slice kax x.kids.length kcx) (.slice sax x.sys.length scx) := ⟨by rw [hw1, ← sb]; exact heapNew _ _⟩
  have bb1 := bchain bb b1
  have b01 := bchain ba bb1
  have HS : Hid (∀ V, Below w1.heap.size w1 V → Six V X (.int .i64 t.kind) (.int .i64 t.n) (.string t.name) (.slice rat t.r.length rct) (.slice kat t.kids.length kct) (.slice sat t.sys.length sct) ∧ Six V (X + 1) (.int .i64 u.kind) (.int .i64 u.n) (.string u.name) (.slice rau u.r.length rcu) (.slice kau u.kids.length kcu) (.slice sau u.sys.length scu) ∧ Six V (X + 2) (.int .i64 x.kind) (.int .i64 x.n) (.string x.name) (.slice rax x.r.length rcx) (.slice kax x.kids.length kcx) (.slice sax x.sys.length scx) ∧ TmIn Tt V t (.agg #[.int .i64 t.kind, .int .i64 t.n, .string t.name, .slice rat t.r.length rct, .slice kat t.kids.length kct, .slice sat t.sys.length sct]) ∧ TmIn Tt V u (.agg #[.int .i64 u.kind, .int .i64 u.n, .string u.name, .slice rau u.r.length rcu, .slice kau u.kids.length kcu, .slice sau u.sys.length scu]) ∧ TmIn Tt V x (.agg #[.int .i64 x.kind, .int .i64 x.n, .string x.name, .slice rax x.r.length rcx, .slice kax x.kids.length kcx, .slice sax x.sys.length scx]) ∧ Below w.heap.size w V) := fun V q => ⟨(nt.blw bb1).blw q, (nu.blw b1).blw q, nx.blw q, (ht.blw (bchain b01 q)).value, (hu.blw (bchain b01 q)).value, (hx.blw (bchain b01 q)).value, bchain b01 q⟩
  have HW : Hid (w1 = ((w.alloc (.cells #[.int .i64 t.kind, .int .i64 t.n, .string t.name, .slice rat t.r.length rct, .slice kat t.kids.length kct, .slice sat t.sys.length sct] 26)).alloc (.cells #[.int .i64 u.kind, .int .i64 u.n, .string u.name, .slice rau u.r.length rcu, .slice kau u.kids.length kcu, .slice sau u.sys.length scu] 26)).alloc (.cells #[.int .i64 x.kind, .int .i64 x.n, .string x.name, .slice rax x.r.length rcx, .slice kax x.kids.length kcx, .slice sax x.sys.length scx] 26)) := (by rw [hw1, hwb, hwa] : _ = _)
  have HX : Hid (X = w.heap.size) := hX
  have hLA := lAllQ
  clear hwa hwb hw1 hX ba bb b1 sa sb nt nu nx bb1 b01 hv0 hv1 hv2 ht hu hx
  go_enter Tryz.func4, Tryz.ntmps4
  go_upto_region 1 with fail
  rw [← HW.out]
  simp only [← HX.out]
  clear HW
  have cw := works12_any hLA w1
  go_wp2_with fail
  refine cw.mono ?_
  rintro e w2 ⟨rfl, b2⟩
  clear cw
  have B2 : Below w1.heap.size w1 w2 := b2
  obtain ⟨q0, q1, q2, t0, u0, x0, _⟩ := HS.out _ B2
  obtain ⟨y0, y1, y2, y3, y4, y5, _⟩ := q0.cells
  have cg := bulk_any (blk t) 100 100 t _ w2 rfl (by omega) (Nat.le_refl _) t0
  clear q0 q1 q2 t0 u0 x0
  go_wp2_with fail
  refine cg.mono ?_
  rintro e w3 ⟨⟨rt, rfl, r1, r2, r3, r4⟩, b3⟩
  clear cg y0 y1 y2 y3 y4 y5
  have B3 : Below w1.heap.size w1 w3 := B2.trans (b3.mono B2.size)
  have HE : Hid ((100 < rt ↔ 100 < blk t)) := by
    by_cases h : blk t ≤ 100
    · have := r1 h; exact ⟨fun z => by omega, fun z => by omega⟩
    · have := r2 (by omega); exact ⟨fun z => by omega, fun z => by omega⟩
  clear r1 r2 r3 r4
  by_cases hgt : 100 < rt
  · have hd : decide ((100 : Int) < (rt : Int)) = true := by simp; omega
    have HF : Hid (Below w.heap.size w w3) := (HS.out _ B3).2.2.2.2.2.2
    go_wp2_with fail
    go_ret
    exact ⟨rfl, HF.out⟩
  have hdt : decide ((100 : Int) < (rt : Int)) = false := by simp; omega
  have hbt : blk t ≤ 100 := by have := HE.out; omega
  clear HE
  obtain ⟨q0, q1, q2, t0, u0, x0, _⟩ := HS.out _ B3
  obtain ⟨y0, y1, y2, y3, y4, y5, _⟩ := q1.cells
  have cg := bulk_any (blk u) 100 100 u _ w3 rfl (by omega) (Nat.le_refl _) u0
  clear q0 q1 q2 t0 u0 x0
  go_wp2_with fail
  refine cg.mono ?_
  rintro e w4 ⟨⟨ru, rfl, r1, r2, r3, r4⟩, b4⟩
  clear cg y0 y1 y2 y3 y4 y5
  have B4 : Below w1.heap.size w1 w4 := B3.trans (b4.mono B3.size)
  have HE : Hid ((100 < ru ↔ 100 < blk u)) := by
    by_cases h : blk u ≤ 100
    · have := r1 h; exact ⟨fun z => by omega, fun z => by omega⟩
    · have := r2 (by omega); exact ⟨fun z => by omega, fun z => by omega⟩
  clear r1 r2 r3 r4
  by_cases hgu : 100 < ru
  · have hd : decide ((100 : Int) < (ru : Int)) = true := by simp; omega
    have HF : Hid (Below w.heap.size w w4) := (HS.out _ B4).2.2.2.2.2.2
    go_wp2_with fail
    go_ret
    exact ⟨rfl, HF.out⟩
  have hdu : decide ((100 : Int) < (ru : Int)) = false := by simp; omega
  have hbu : blk u ≤ 100 := by have := HE.out; omega
  clear HE
  obtain ⟨q0, q1, q2, t0, u0, x0, _⟩ := HS.out _ B4
  obtain ⟨y0, y1, y2, y3, y4, y5, _⟩ := q2.cells
  have cg := bulk_any (blk x) 100 100 x _ w4 rfl (by omega) (Nat.le_refl _) x0
  clear q0 q1 q2 t0 u0 x0
  go_wp2_with fail
  refine cg.mono ?_
  rintro e w5 ⟨⟨rx, rfl, r1, r2, r3, r4⟩, b5⟩
  clear cg y0 y1 y2 y3 y4 y5
  have B5 : Below w1.heap.size w1 w5 := B4.trans (b5.mono B4.size)
  have HE : Hid ((100 < rx ↔ 100 < blk x)) := by
    by_cases h : blk x ≤ 100
    · have := r1 h; exact ⟨fun z => by omega, fun z => by omega⟩
    · have := r2 (by omega); exact ⟨fun z => by omega, fun z => by omega⟩
  clear r1 r2 r3 r4
  by_cases hgx : 100 < rx
  · have hd : decide ((100 : Int) < (rx : Int)) = true := by simp; omega
    have HF : Hid (Below w.heap.size w w5) := (HS.out _ B5).2.2.2.2.2.2
    go_wp2_with fail
    go_ret
    exact ⟨rfl, HF.out⟩
  have hdx : decide ((100 : Int) < (rx : Int)) = false := by simp; omega
  have hbx : blk x ≤ 100 := by have := HE.out; omega
  clear HE
  by_cases hn0 : n < 0
  · have hd : decide (n < 0) = true := by simpa using hn0
    have HF : Hid (Below w.heap.size w w5) := (HS.out _ B5).2.2.2.2.2.2
    go_wp2_with fail
    go_ret
    exact ⟨rfl, HF.out⟩
  have hdn : decide (n < 0) = false := by simpa using hn0
  by_cases hn1 : 1000 < n
  · have hd : decide (1000 < n) = true := by simpa using hn1
    have HF : Hid (Below w.heap.size w w5) := (HS.out _ B5).2.2.2.2.2.2
    go_wp2_with fail
    go_ret
    exact ⟨rfl, HF.out⟩
  have hdn1 : decide (1000 < n) = false := by simpa using hn1
  have wt := wt_of_blk (K := 100) _ t (Nat.le_refl _) hbt
  have wu := wt_of_blk (K := 100) _ u (Nat.le_refl _) hbu
  have wx := wt_of_blk (K := 100) _ x (Nat.le_refl _) hbx
  have hI0 : I64 0 := ⟨by decide, by decide⟩
  have hI1 : I64 (n + 1) := ⟨by omega, by omega⟩
  obtain ⟨A, hA⟩ : ∃ z, z = plT 0 t u := ⟨_, rfl⟩
  obtain ⟨Bt, hBt⟩ : ∃ z, z = plT n A x := ⟨_, rfl⟩
  obtain ⟨U, hU⟩ : ∃ z, z = varsT 0 1 x := ⟨_, rfl⟩
  obtain ⟨Cc, hCc⟩ : ∃ z, z = plT (n + 1) t U := ⟨_, rfl⟩
  obtain ⟨D, hD⟩ : ∃ z, z = plT n u x := ⟨_, rfl⟩
  obtain ⟨Z, hZ⟩ : ∃ z, z = plT 0 Cc D := ⟨_, rfl⟩
  obtain ⟨eA, heA⟩ : ∃ z, z = plE 0 t u := ⟨_, rfl⟩
  obtain ⟨eB, heB⟩ : ∃ z, z = plE n A x := ⟨_, rfl⟩
  obtain ⟨eU, heU⟩ : ∃ z, z = varsE 0 1 x := ⟨_, rfl⟩
  obtain ⟨eC, heC⟩ : ∃ z, z = plE (n + 1) t U := ⟨_, rfl⟩
  obtain ⟨eD, heD⟩ : ∃ z, z = plE n u x := ⟨_, rfl⟩
  obtain ⟨eZ, heZ⟩ : ∃ z, z = plE 0 Cc D := ⟨_, rfl⟩
  have HF0 : Hid (eA = 0 → eB = 0 → eU = 0 → eC = 0 → eD = 0 → eZ = 0 → Bt = Z ∧ blk Bt ≤ 10000000 ∧ WtP 100000 Bt) := fun g1 g2 g3 g4 g5 g6 => by
    rw [hBt, hA, hZ, hCc, hU, hD]
    refine pl_lemma (by omega) hbt hbu hbx (by rw [← heA]; exact g1) (by rw [← hA, ← heB]; exact g2) (by rw [← heU]; exact g3) (by rw [← hU, ← heC]; exact g4) (by rw [← heD]; exact g5) (by rw [← hU, ← hCc, ← hD, ← heZ]; exact g6)
  have HwA : Hid (WtP 100 A ∧ blk A ≤ 10100) := by rw [hA]; exact ⟨wt_pl wt wu, blk_pl hbt hbu⟩
  have HwU : Hid (WtP 100 U ∧ blk U ≤ 100) := by rw [hU]; exact ⟨(vars_up hbx).2.1, (vars_up hbx).1⟩
  have HwC : Hid (WtP 100 Cc ∧ blk Cc ≤ 10100) := by rw [hCc]; exact ⟨wt_pl wt HwU.out.1, blk_pl hbt HwU.out.2⟩
  have HwD : Hid (WtP 100 D ∧ blk D ≤ 10100) := by rw [hD]; exact ⟨wt_pl wu wx, blk_pl hbu hbx⟩
  have Hw0 : Hid (WtP 100 t ∧ WtP 100 u ∧ WtP 100 x) := ⟨wt, wu, wx⟩
  have hTA : Hid (A = plT 0 t u ∧ eA = plE 0 t u) := ⟨hA, heA⟩
  have hTB : Hid (Bt = plT n A x ∧ eB = plE n A x) := ⟨hBt, heB⟩
  have hTU : Hid (U = varsT 0 1 x ∧ eU = varsE 0 1 x) := ⟨hU, heU⟩
  have hTC : Hid (Cc = plT (n + 1) t U ∧ eC = plE (n + 1) t U) := ⟨hCc, heC⟩
  have hTD : Hid (D = plT n u x ∧ eD = plE n u x) := ⟨hD, heD⟩
  have hTZ : Hid (Z = plT 0 Cc D ∧ eZ = plE 0 Cc D) := ⟨hZ, heZ⟩
  clear wt wu wx hA hBt hU hCc hD hZ heA heB heU heC heD heZ
  have Bcur : Below w1.heap.size w1 w5 := B5
  have ca := plat_any hLA t u 0 hI0 _ _ w5 (HS.out _ Bcur).2.2.2.1 (HS.out _ Bcur).2.2.2.2.1 (by omega) (by omega) (hsm_any Hw0.out.1 Hw0.out.2.1)
  rw [← hTA.out.1, ← hTA.out.2] at ca
  obtain ⟨y0, y1, y2, y3, y4, y5, _⟩ := (HS.out _ Bcur).1.cells
  obtain ⟨z0, z1, z2, z3, z4, z5, _⟩ := (HS.out _ Bcur).2.1.cells
  go_wp2_with fail
  refine ca.mono ?_
  rintro e w10 ⟨v10, rfl, hv10, b10⟩
  clear ca y0 y1 y2 y3 y4 y5 z0 z1 z2 z3 z4 z5
  obtain ⟨raA, rcA, kaA, kcA, saA, scA, rfl, ht10⟩ := hv10.form
  obtain ⟨YA, hYA⟩ : ∃ Y, Y = w10.heap.size := ⟨_, rfl⟩
  obtain ⟨w11, hwA⟩ : ∃ W, W = w10.alloc (.cells #[.int .i64 A.kind, .int .i64 A.n, .string A.name, .slice raA A.r.length rcA, .slice kaA A.kids.length kcA, .slice saA A.sys.length scA] 26) := ⟨_, rfl⟩
  have bn : Below w10.heap.size w10 w11 := by rw [hwA]; exact belowA _ _
  have nn : Six w11 YA (.int .i64 A.kind) (.int .i64 A.n) (.string A.name) (.slice raA A.r.length rcA) (.slice kaA A.kids.length kcA) (.slice saA A.sys.length scA) := ⟨by rw [hwA, hYA]; exact heapNew _ _⟩
  have tt : TmTop Tt w11 A raA rcA kaA kcA saA scA := (ht10.blw bn).up fun _ _ => trivial
  have HVA : Hid (∀ V, Below w11.heap.size w11 V → Six V YA (.int .i64 A.kind) (.int .i64 A.n) (.string A.name) (.slice raA A.r.length rcA) (.slice kaA A.kids.length kcA) (.slice saA A.sys.length scA) ∧ TmIn Tt V A (.agg #[.int .i64 A.kind, .int .i64 A.n, .string A.name, .slice raA A.r.length rcA, .slice kaA A.kids.length kcA, .slice saA A.sys.length scA])) := fun V q => ⟨nn.blw q, (tt.blw q).value⟩
  have bst : Below w5.heap.size w5 w11 := bchain b10 bn
  have Bcur : Below w1.heap.size w1 w11 := Bcur.trans (bst.mono Bcur.size)
  have BqA : Below w11.heap.size w11 w11 := Below.refl _ _
  have H8 : Hid (_ = _) := hwA
  have HYA : Hid (YA = w10.heap.size) := hYA
  clear hwA hYA bn nn tt bst ht10 hv10 b10
  go_upto_region 6 with fail
  rw [← H8.out]
  simp only [← HYA.out]
  clear H8
  have ca := plat_any hLA A x n hnI _ _ w11 (HVA.out _ BqA).2 (HS.out _ Bcur).2.2.2.2.2.1 (by have := HwA.out.2; omega) (by omega) (hsm_any HwA.out.1 Hw0.out.2.2)
  rw [← hTB.out.1, ← hTB.out.2] at ca
  obtain ⟨y0, y1, y2, y3, y4, y5, _⟩ := (HVA.out _ BqA).1.cells
  obtain ⟨z0, z1, z2, z3, z4, z5, _⟩ := (HS.out _ Bcur).2.2.1.cells
  go_wp2_with fail
  refine ca.mono ?_
  rintro e w12 ⟨v12, rfl, hv12, b12⟩
  clear ca y0 y1 y2 y3 y4 y5 z0 z1 z2 z3 z4 z5
  obtain ⟨raBt, rcBt, kaBt, kcBt, saBt, scBt, rfl, ht12⟩ := hv12.form
  obtain ⟨YBt, hYBt⟩ : ∃ Y, Y = w12.heap.size := ⟨_, rfl⟩
  obtain ⟨w13, hwBt⟩ : ∃ W, W = w12.alloc (.cells #[.int .i64 Bt.kind, .int .i64 Bt.n, .string Bt.name, .slice raBt Bt.r.length rcBt, .slice kaBt Bt.kids.length kcBt, .slice saBt Bt.sys.length scBt] 26) := ⟨_, rfl⟩
  have bn : Below w12.heap.size w12 w13 := by rw [hwBt]; exact belowA _ _
  have nn : Six w13 YBt (.int .i64 Bt.kind) (.int .i64 Bt.n) (.string Bt.name) (.slice raBt Bt.r.length rcBt) (.slice kaBt Bt.kids.length kcBt) (.slice saBt Bt.sys.length scBt) := ⟨by rw [hwBt, hYBt]; exact heapNew _ _⟩
  have tt : TmTop Tt w13 Bt raBt rcBt kaBt kcBt saBt scBt := (ht12.blw bn).up fun _ _ => trivial
  have HVBt : Hid (∀ V, Below w13.heap.size w13 V → Six V YBt (.int .i64 Bt.kind) (.int .i64 Bt.n) (.string Bt.name) (.slice raBt Bt.r.length rcBt) (.slice kaBt Bt.kids.length kcBt) (.slice saBt Bt.sys.length scBt) ∧ TmIn Tt V Bt (.agg #[.int .i64 Bt.kind, .int .i64 Bt.n, .string Bt.name, .slice raBt Bt.r.length rcBt, .slice kaBt Bt.kids.length kcBt, .slice saBt Bt.sys.length scBt])) := fun V q => ⟨nn.blw q, (tt.blw q).value⟩
  have bst : Below w11.heap.size w11 w13 := bchain b12 bn
  have Bcur : Below w1.heap.size w1 w13 := Bcur.trans (bst.mono Bcur.size)
  have BqA := bchain BqA bst
  have BqBt : Below w13.heap.size w13 w13 := Below.refl _ _
  have H8 : Hid (_ = _) := hwBt
  have HYBt : Hid (YBt = w12.heap.size) := hYBt
  clear hwBt hYBt bn nn tt bst ht12 hv12 b12
  go_upto_region 7 with fail
  rw [← H8.out]
  simp only [← HYBt.out]
  clear H8
  have ca := lvars_any hLA x _ w13 (HS.out _ Bcur).2.2.2.2.2.1 (by omega) 0 1 hI0
  rw [← hTU.out.1, ← hTU.out.2] at ca
  obtain ⟨y0, y1, y2, y3, y4, y5, _⟩ := (HS.out _ Bcur).2.2.1.cells
  go_wp2_with fail
  refine ca.mono ?_
  rintro e w14 ⟨v14, rfl, hv14, b14⟩
  clear ca y0 y1 y2 y3 y4 y5
  obtain ⟨raU, rcU, kaU, kcU, saU, scU, rfl, ht14⟩ := hv14.form
  obtain ⟨YU, hYU⟩ : ∃ Y, Y = w14.heap.size := ⟨_, rfl⟩
  obtain ⟨w15, hwU⟩ : ∃ W, W = w14.alloc (.cells #[.int .i64 U.kind, .int .i64 U.n, .string U.name, .slice raU U.r.length rcU, .slice kaU U.kids.length kcU, .slice saU U.sys.length scU] 26) := ⟨_, rfl⟩
  have bn : Below w14.heap.size w14 w15 := by rw [hwU]; exact belowA _ _
  have nn : Six w15 YU (.int .i64 U.kind) (.int .i64 U.n) (.string U.name) (.slice raU U.r.length rcU) (.slice kaU U.kids.length kcU) (.slice saU U.sys.length scU) := ⟨by rw [hwU, hYU]; exact heapNew _ _⟩
  have tt : TmTop Tt w15 U raU rcU kaU kcU saU scU := (ht14.blw bn).up fun _ _ => trivial
  have HVU : Hid (∀ V, Below w15.heap.size w15 V → Six V YU (.int .i64 U.kind) (.int .i64 U.n) (.string U.name) (.slice raU U.r.length rcU) (.slice kaU U.kids.length kcU) (.slice saU U.sys.length scU) ∧ TmIn Tt V U (.agg #[.int .i64 U.kind, .int .i64 U.n, .string U.name, .slice raU U.r.length rcU, .slice kaU U.kids.length kcU, .slice saU U.sys.length scU])) := fun V q => ⟨nn.blw q, (tt.blw q).value⟩
  have bst : Below w13.heap.size w13 w15 := bchain b14 bn
  have Bcur : Below w1.heap.size w1 w15 := Bcur.trans (bst.mono Bcur.size)
  have BqA := bchain BqA bst
  have BqBt := bchain BqBt bst
  have BqU : Below w15.heap.size w15 w15 := Below.refl _ _
  have H8 : Hid (_ = _) := hwU
  have HYU : Hid (YU = w14.heap.size) := hYU
  clear hwU hYU bn nn tt bst ht14 hv14 b14
  go_upto_region 8 with fail
  rw [← H8.out]
  simp only [← HYU.out]
  clear H8
  have ca := plat_any hLA t U (n + 1) hI1 _ _ w15 (HS.out _ Bcur).2.2.2.1 (HVU.out _ BqU).2 (by omega) (by have := HwU.out.2; omega) (hsm_any Hw0.out.1 HwU.out.1)
  rw [← hTC.out.1, ← hTC.out.2] at ca
  obtain ⟨y0, y1, y2, y3, y4, y5, _⟩ := (HS.out _ Bcur).1.cells
  obtain ⟨z0, z1, z2, z3, z4, z5, _⟩ := (HVU.out _ BqU).1.cells
  have wr1 : wrap64 (n + 1) = n + 1 := by simp [wrap64]; omega
  go_wp2_with fail
  refine ca.mono ?_
  rintro e w16 ⟨v16, rfl, hv16, b16⟩
  clear ca y0 y1 y2 y3 y4 y5 z0 z1 z2 z3 z4 z5
  obtain ⟨raCc, rcCc, kaCc, kcCc, saCc, scCc, rfl, ht16⟩ := hv16.form
  obtain ⟨YCc, hYCc⟩ : ∃ Y, Y = w16.heap.size := ⟨_, rfl⟩
  obtain ⟨w17, hwCc⟩ : ∃ W, W = w16.alloc (.cells #[.int .i64 Cc.kind, .int .i64 Cc.n, .string Cc.name, .slice raCc Cc.r.length rcCc, .slice kaCc Cc.kids.length kcCc, .slice saCc Cc.sys.length scCc] 26) := ⟨_, rfl⟩
  have bn : Below w16.heap.size w16 w17 := by rw [hwCc]; exact belowA _ _
  have nn : Six w17 YCc (.int .i64 Cc.kind) (.int .i64 Cc.n) (.string Cc.name) (.slice raCc Cc.r.length rcCc) (.slice kaCc Cc.kids.length kcCc) (.slice saCc Cc.sys.length scCc) := ⟨by rw [hwCc, hYCc]; exact heapNew _ _⟩
  have tt : TmTop Tt w17 Cc raCc rcCc kaCc kcCc saCc scCc := (ht16.blw bn).up fun _ _ => trivial
  have HVCc : Hid (∀ V, Below w17.heap.size w17 V → Six V YCc (.int .i64 Cc.kind) (.int .i64 Cc.n) (.string Cc.name) (.slice raCc Cc.r.length rcCc) (.slice kaCc Cc.kids.length kcCc) (.slice saCc Cc.sys.length scCc) ∧ TmIn Tt V Cc (.agg #[.int .i64 Cc.kind, .int .i64 Cc.n, .string Cc.name, .slice raCc Cc.r.length rcCc, .slice kaCc Cc.kids.length kcCc, .slice saCc Cc.sys.length scCc])) := fun V q => ⟨nn.blw q, (tt.blw q).value⟩
  have bst : Below w15.heap.size w15 w17 := bchain b16 bn
  have Bcur : Below w1.heap.size w1 w17 := Bcur.trans (bst.mono Bcur.size)
  have BqA := bchain BqA bst
  have BqBt := bchain BqBt bst
  have BqU := bchain BqU bst
  have BqCc : Below w17.heap.size w17 w17 := Below.refl _ _
  have H8 : Hid (_ = _) := hwCc
  have HYCc : Hid (YCc = w16.heap.size) := hYCc
  clear hwCc hYCc bn nn tt bst ht16 hv16 b16
  go_upto_region 9 with fail
  rw [← H8.out]
  simp only [← HYCc.out]
  clear H8
  have ca := plat_any hLA u x n hnI _ _ w17 (HS.out _ Bcur).2.2.2.2.1 (HS.out _ Bcur).2.2.2.2.2.1 (by omega) (by omega) (hsm_any Hw0.out.2.1 Hw0.out.2.2)
  rw [← hTD.out.1, ← hTD.out.2] at ca
  obtain ⟨y0, y1, y2, y3, y4, y5, _⟩ := (HS.out _ Bcur).2.1.cells
  obtain ⟨z0, z1, z2, z3, z4, z5, _⟩ := (HS.out _ Bcur).2.2.1.cells
  go_wp2_with fail
  refine ca.mono ?_
  rintro e w18 ⟨v18, rfl, hv18, b18⟩
  clear ca y0 y1 y2 y3 y4 y5 z0 z1 z2 z3 z4 z5
  obtain ⟨raD, rcD, kaD, kcD, saD, scD, rfl, ht18⟩ := hv18.form
  obtain ⟨YD, hYD⟩ : ∃ Y, Y = w18.heap.size := ⟨_, rfl⟩
  obtain ⟨w19, hwD⟩ : ∃ W, W = w18.alloc (.cells #[.int .i64 D.kind, .int .i64 D.n, .string D.name, .slice raD D.r.length rcD, .slice kaD D.kids.length kcD, .slice saD D.sys.length scD] 26) := ⟨_, rfl⟩
  have bn : Below w18.heap.size w18 w19 := by rw [hwD]; exact belowA _ _
  have nn : Six w19 YD (.int .i64 D.kind) (.int .i64 D.n) (.string D.name) (.slice raD D.r.length rcD) (.slice kaD D.kids.length kcD) (.slice saD D.sys.length scD) := ⟨by rw [hwD, hYD]; exact heapNew _ _⟩
  have tt : TmTop Tt w19 D raD rcD kaD kcD saD scD := (ht18.blw bn).up fun _ _ => trivial
  have HVD : Hid (∀ V, Below w19.heap.size w19 V → Six V YD (.int .i64 D.kind) (.int .i64 D.n) (.string D.name) (.slice raD D.r.length rcD) (.slice kaD D.kids.length kcD) (.slice saD D.sys.length scD) ∧ TmIn Tt V D (.agg #[.int .i64 D.kind, .int .i64 D.n, .string D.name, .slice raD D.r.length rcD, .slice kaD D.kids.length kcD, .slice saD D.sys.length scD])) := fun V q => ⟨nn.blw q, (tt.blw q).value⟩
  have bst : Below w17.heap.size w17 w19 := bchain b18 bn
  have Bcur : Below w1.heap.size w1 w19 := Bcur.trans (bst.mono Bcur.size)
  have BqA := bchain BqA bst
  have BqBt := bchain BqBt bst
  have BqU := bchain BqU bst
  have BqCc := bchain BqCc bst
  have BqD : Below w19.heap.size w19 w19 := Below.refl _ _
  have H8 : Hid (_ = _) := hwD
  have HYD : Hid (YD = w18.heap.size) := hYD
  clear hwD hYD bn nn tt bst ht18 hv18 b18
  go_upto_region 10 with fail
  rw [← H8.out]
  simp only [← HYD.out]
  clear H8
  have ca := plat_any hLA Cc D 0 hI0 _ _ w19 (HVCc.out _ BqCc).2 (HVD.out _ BqD).2 (by have := HwC.out.2; omega) (by have := HwD.out.2; omega) (hsm_any HwC.out.1 HwD.out.1)
  rw [← hTZ.out.1, ← hTZ.out.2] at ca
  obtain ⟨y0, y1, y2, y3, y4, y5, _⟩ := (HVCc.out _ BqCc).1.cells
  obtain ⟨z0, z1, z2, z3, z4, z5, _⟩ := (HVD.out _ BqD).1.cells
  go_wp2_with fail
  refine ca.mono ?_
  rintro e w20 ⟨v20, rfl, hv20, b20⟩
  clear ca y0 y1 y2 y3 y4 y5 z0 z1 z2 z3 z4 z5
  obtain ⟨raZ, rcZ, kaZ, kcZ, saZ, scZ, rfl, ht20⟩ := hv20.form
  obtain ⟨YZ, hYZ⟩ : ∃ Y, Y = w20.heap.size := ⟨_, rfl⟩
  obtain ⟨w21, hwZ⟩ : ∃ W, W = w20.alloc (.cells #[.int .i64 Z.kind, .int .i64 Z.n, .string Z.name, .slice raZ Z.r.length rcZ, .slice kaZ Z.kids.length kcZ, .slice saZ Z.sys.length scZ] 26) := ⟨_, rfl⟩
  have bn : Below w20.heap.size w20 w21 := by rw [hwZ]; exact belowA _ _
  have nn : Six w21 YZ (.int .i64 Z.kind) (.int .i64 Z.n) (.string Z.name) (.slice raZ Z.r.length rcZ) (.slice kaZ Z.kids.length kcZ) (.slice saZ Z.sys.length scZ) := ⟨by rw [hwZ, hYZ]; exact heapNew _ _⟩
  have tt : TmTop Tt w21 Z raZ rcZ kaZ kcZ saZ scZ := (ht20.blw bn).up fun _ _ => trivial
  have HVZ : Hid (∀ V, Below w21.heap.size w21 V → Six V YZ (.int .i64 Z.kind) (.int .i64 Z.n) (.string Z.name) (.slice raZ Z.r.length rcZ) (.slice kaZ Z.kids.length kcZ) (.slice saZ Z.sys.length scZ) ∧ TmIn Tt V Z (.agg #[.int .i64 Z.kind, .int .i64 Z.n, .string Z.name, .slice raZ Z.r.length rcZ, .slice kaZ Z.kids.length kcZ, .slice saZ Z.sys.length scZ])) := fun V q => ⟨nn.blw q, (tt.blw q).value⟩
  have bst : Below w19.heap.size w19 w21 := bchain b20 bn
  have Bcur : Below w1.heap.size w1 w21 := Bcur.trans (bst.mono Bcur.size)
  have BqA := bchain BqA bst
  have BqBt := bchain BqBt bst
  have BqU := bchain BqU bst
  have BqCc := bchain BqCc bst
  have BqD := bchain BqD bst
  have BqZ : Below w21.heap.size w21 w21 := Below.refl _ _
  have H8 : Hid (_ = _) := hwZ
  have HYZ : Hid (YZ = w20.heap.size) := hYZ
  clear hwZ hYZ bn nn tt bst ht20 hv20 b20
  go_upto_region 11 with fail
  rw [← H8.out]
  simp only [← HYZ.out]
  clear H8
  have HFw : Hid (Below w.heap.size w w21) := (HS.out _ Bcur).2.2.2.2.2.2
  by_cases heA : eA = 0
  rotate_left
  · have g1 : (eA == 0) = false := by simpa using heA
    have g2 : (eA != 0) = true := by simpa using heA
    go_wp2_with fail
    go_ret
    exact ⟨rfl, HFw.out⟩
  have geA : (eA != 0) = false := by simpa using heA
  by_cases heB : eB = 0
  rotate_left
  · have g1 : (eB == 0) = false := by simpa using heB
    have g2 : (eB != 0) = true := by simpa using heB
    go_wp2_with fail
    go_ret
    exact ⟨rfl, HFw.out⟩
  have geB : (eB != 0) = false := by simpa using heB
  by_cases heU : eU = 0
  rotate_left
  · have g1 : (eU == 0) = false := by simpa using heU
    have g2 : (eU != 0) = true := by simpa using heU
    go_wp2_with fail
    go_ret
    exact ⟨rfl, HFw.out⟩
  have geU : (eU != 0) = false := by simpa using heU
  by_cases heC : eC = 0
  rotate_left
  · have g1 : (eC == 0) = false := by simpa using heC
    have g2 : (eC != 0) = true := by simpa using heC
    go_wp2_with fail
    go_ret
    exact ⟨rfl, HFw.out⟩
  have geC : (eC != 0) = false := by simpa using heC
  by_cases heD : eD = 0
  rotate_left
  · have g1 : (eD == 0) = false := by simpa using heD
    have g2 : (eD != 0) = true := by simpa using heD
    go_wp2_with fail
    go_ret
    exact ⟨rfl, HFw.out⟩
  have geD : (eD != 0) = false := by simpa using heD
  by_cases heZ : eZ = 0
  rotate_left
  · have g1 : (eZ == 0) = false := by simpa using heZ
    have g2 : (eZ != 0) = true := by simpa using heZ
    go_wp2_with fail
    go_ret
    exact ⟨rfl, HFw.out⟩
  have geZ : (eZ != 0) = false := by simpa using heZ
  obtain ⟨f1, f2, f3⟩ := HF0.out heA heB heU heC heD heZ
  have cs := rsame_anyB 10000000 Bt Z true _ _ w21 (HVBt.out _ BqBt).2 (HVZ.out _ BqZ).2 f2 f2 f3 ⟨fun _ => f1, fun _ => rfl⟩
  obtain ⟨y0, y1, y2, y3, y4, y5, _⟩ := (HVBt.out _ BqBt).1.cells
  obtain ⟨z0, z1, z2, z3, z4, z5, _⟩ := (HVZ.out _ BqZ).1.cells
  clear f1 f2 f3
  go_wp2_with fail
  refine cs.mono ?_
  rintro e wz ⟨rfl, bz⟩
  have HF : Hid (Below w.heap.size w wz) := (HS.out _ (Bcur.trans (bz.mono Bcur.size))).2.2.2.2.2.2
  clear cs y0 y1 y2 y3 y4 y5 z0 z1 z2 z3 z4 z5
  go_wp2_with fail
  go_ret
  exact ⟨rfl, HF.out⟩
end Go.Proofs.YtocfamcclfhkcaaGreat

