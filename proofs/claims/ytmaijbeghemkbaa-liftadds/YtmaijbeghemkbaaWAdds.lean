/- Lifts by 0 change nothing; lifts add up; variables and dimensions hang on no order. -/
import Derived.Deep.DeepCutAuto
import Derived.Deep.CutBlock
import Derived.Test.YtmaijbeghemkbaaYLgL
import Derived.Test.YtmaijbeghemkbaaYLgC
import Derived.Test.YtmaijbeghemkbaaYLgW
import Derived.Test.YtmaijbeghemkbaaYLfD
import Derived.Test.YtmaijbeghemkbaaYRSame
namespace Go.Proofs.Ytmaijbeghemkbaa
open Go.RowKit
set_option linter.unusedVariables false
set_option linter.unusedSimpArgs false

theorem lAll : LAll := fun s hs N => lf_any hs N
set_option maxRecDepth 100000 in
set_option maxHeartbeats 8000000 in
theorem walk_LiftAdds (t : Tm) (v0 : Value) (a : Int) (hwa : (Lit.int .i64 a).wf = true) (b : Int) (hwb : (Lit.int .i64 b).wf = true) (c : Int) (hwc : (Lit.int .i64 c).wf = true) (w : World) (hv0 : TmIn Tt w t v0) :
    Calls Try.prog 4 #[v0, .int .i64 a, .int .i64 b, .int .i64 c] w fun e w' => e = .returned (.bool true) ∧ Below w.heap.size w w' := by
  obtain ⟨ra0, rc0, ka0, kc0, sa0, sc0, rfl, ht⟩ := hv0.form
  obtain ⟨w1, hw1⟩ : ∃ W, W = w.alloc (.cells #[.int .i64 t.kind, .int .i64 t.n, .string t.name, .slice ra0 t.r.length rc0, .slice ka0 t.kids.length kc0, .slice sa0 t.sys.length sc0] 26) := ⟨_, rfl⟩
  have b1 : Below w.heap.size w w1 := by rw [hw1]; exact belowA _ _
  obtain ⟨X, hX⟩ : ∃ X, X = w.heap.size := ⟨_, rfl⟩
  have s1 : w1.heap.size = X + 1 := by rw [hw1, hX]; simp
  have n0 : Six w1 X (.int .i64 t.kind) (.int .i64 t.n) (.string t.name) (.slice ra0 t.r.length rc0) (.slice ka0 t.kids.length kc0) (.slice sa0 t.sys.length sc0) := ⟨by rw [hw1, hX]; exact heapNew _ _⟩
  have H0 : Hid (∀ W, Below (X + 1) w1 W → Six W X (.int .i64 t.kind) (.int .i64 t.n) (.string t.name) (.slice ra0 t.r.length rc0) (.slice ka0 t.kids.length kc0) (.slice sa0 t.sys.length sc0) ∧ TmIn Tt W t (.agg #[.int .i64 t.kind, .int .i64 t.n, .string t.name, .slice ra0 t.r.length rc0, .slice ka0 t.kids.length kc0, .slice sa0 t.sys.length sc0])) := fun W q => ⟨n0.blw (by rw [s1]; exact q), ((ht.blw b1).blw (by rw [s1]; exact q)).value⟩
  have Hb : Hid (Below X w w1) := by rw [hX]; exact b1
  have HX : Hid (X = w.heap.size) := hX
  have Hs1 : Hid (w1.heap.size = X + 1) := s1
  have HW : Hid (_ = _) := hw1
  have hLA := lAll
  obtain ⟨c0, hc0⟩ := bool_of (blk t ≤ 400 ∧ wrongN true 0 0 t = 0 ∧ (0 ≤ a ∧ a ≤ 20) ∧ (0 ≤ b ∧ b ≤ 20) ∧ (0 ≤ c ∧ c ≤ 20))
  have Hc0 : Hid (_ ↔ _) := hc0
  clear hw1 hX s1 hv0 ht n0 b1 hc0
  rw [← HX.out]
  go_enter Try.func4, Try.ntmps4
  go_upto_region 1 with fail
  rw [← HW.out]
  simp only [← HX.out]
  clear HW
  have cw := works11_any hLA w1
  go_wp2_with fail
  refine cw.mono ?_
  rintro e w2 ⟨rfl, b2⟩
  clear cw
  rw [Hs1.out] at b2
  go_upto_region 3 with fail
  go_cut [55] (fun s wx => s = .bool (!c0) ∧ Below (X + 1) w2 wx)
  case first => as_aux_lemma =>
    have hs2 : X + 1 ≤ w2.heap.size := by have := b2.size; have := Hs1.out; omega
    obtain ⟨n0, t0⟩ := H0.out w2 b2
    obtain ⟨y0, y1, y2, y3, y4, y5, _⟩ := n0.cells
    have cg := great11_any t _ w2 t0
    by_cases hg : 400 < blk t
    · rw [decide_eq_true hg] at cg
      have hz : c0 = false := by rw [Bool.eq_false_iff]; intro h; have := (Hc0.out.1 h).1; omega
      clear n0 t0
      go_wp2_with fail
      refine cg.mono ?_
      rintro e w3 ⟨rfl, b3⟩
      clear cg y0 y1 y2 y3 y4 y5
      go_wp2_with fail
      go_meet
      exact ⟨by rw [hz]; rfl, b3.mono hs2⟩
    · rw [decide_eq_false hg] at cg
      clear n0 t0
      go_wp2_with fail
      refine cg.mono ?_
      rintro e w3 ⟨rfl, b3⟩
      clear cg y0 y1 y2 y3 y4 y5
      have b23 : Below (X + 1) w2 w3 := b3.mono hs2
      have B3 := b2.trans b23
      obtain ⟨n0, t0⟩ := H0.out w3 B3
      obtain ⟨y0, y1, y2, y3, y4, y5, _⟩ := n0.cells
      have cf := formed_any t _ w3 t0 (by omega)
      obtain ⟨F, hF⟩ : ∃ F, F = wrongN true 0 0 t := ⟨_, rfl⟩
      rw [← hF] at cf
      have HF : Hid (F = wrongN true 0 0 t) := hF
      clear n0 t0 hF
      go_wp2_with fail
      refine cf.mono ?_
      rintro e w4 ⟨rfl, b4⟩
      clear cf y0 y1 y2 y3 y4 y5
      have b24 : Below (X + 1) w2 w4 := b23.trans (b4.mono (Nat.le_trans hs2 b3.size))
      by_cases hF0 : F = 0
      · subst hF0
        by_cases h1 : a < 0
        · have d1 : decide (a < 0) = true := by simpa using h1
          have hz : c0 = false := by rw [Bool.eq_false_iff]; intro h; have := (Hc0.out.1 h).2.2; omega
          go_wp2_with fail
          go_meet
          exact ⟨by rw [hz]; rfl, b24⟩
        · have d1 : decide (a < 0) = false := by simpa using h1
          by_cases h2 : b < 0
          · have d2 : decide (b < 0) = true := by simpa using h2
            have hz : c0 = false := by rw [Bool.eq_false_iff]; intro h; have := (Hc0.out.1 h).2.2; omega
            go_wp2_with fail
            go_meet
            exact ⟨by rw [hz]; rfl, b24⟩
          · have d2 : decide (b < 0) = false := by simpa using h2
            by_cases h3 : c < 0
            · have d3 : decide (c < 0) = true := by simpa using h3
              have hz : c0 = false := by rw [Bool.eq_false_iff]; intro h; have := (Hc0.out.1 h).2.2; omega
              go_wp2_with fail
              go_meet
              exact ⟨by rw [hz]; rfl, b24⟩
            · have d3 : decide (c < 0) = false := by simpa using h3
              by_cases h4 : 20 < a
              · have d4 : decide (20 < a) = true := by simpa using h4
                have hz : c0 = false := by rw [Bool.eq_false_iff]; intro h; have := (Hc0.out.1 h).2.2; omega
                go_wp2_with fail
                go_meet
                exact ⟨by rw [hz]; rfl, b24⟩
              · have d4 : decide (20 < a) = false := by simpa using h4
                by_cases h5 : 20 < b
                · have d5 : decide (20 < b) = true := by simpa using h5
                  have hz : c0 = false := by rw [Bool.eq_false_iff]; intro h; have := (Hc0.out.1 h).2.2; omega
                  go_wp2_with fail
                  go_meet
                  exact ⟨by rw [hz]; rfl, b24⟩
                · have d5 : decide (20 < b) = false := by simpa using h5
                  by_cases h6 : 20 < c
                  · have d6 : decide (20 < c) = true := by simpa using h6
                    have hz : c0 = false := by rw [Bool.eq_false_iff]; intro h; have := (Hc0.out.1 h).2.2; omega
                    go_wp2_with fail
                    go_meet
                    exact ⟨by rw [hz]; rfl, b24⟩
                  · have d6 : decide (20 < c) = false := by simpa using h6
                    have hz : c0 = true := Hc0.out.2 ⟨by omega, HF.out.symm, by omega, by omega, by omega⟩
                    go_wp2_with fail
                    go_meet
                    exact ⟨by rw [hz]; rfl, b24⟩
      · have hz : c0 = false := by rw [Bool.eq_false_iff]; intro h; have := (Hc0.out.1 h).2.1; rw [← HF.out] at this; exact hF0 this
        have hF1 : ((F : Int) == 0) = false := by simp; omega
        have hF2 : ¬ (F : Int) = 0 := by omega
        have hF3 : ((F : Int) != 0) = true := by simp; omega
        go_wp2_with fail
        go_meet
        exact ⟨by rw [hz]; rfl, b24⟩
  case rest =>
  obtain ⟨rfl, b3⟩ := hcut
  obtain ⟨w3, hw3⟩ : ∃ W, W = wc := ⟨_, rfl⟩
  subst hw3
  have B3 := b2.trans b3
  clear b2 b3
  cases c0 with
  | false =>
    go_wp2_with fail
    go_ret
    exact ⟨rfl, Hb.out.trans (B3.mono (by omega))⟩
  | true =>
    obtain ⟨hblk, hfm, ha, hbb, hc⟩ := Hc0.out.1 rfl
    have F1 := adds_one hfm
    have F2 := adds_two ha hbb hc hfm
    have F3 := fun hz hh => adds_three (t := t) ha hbb hfm hz hh
    obtain ⟨E0, hE0⟩ : ∃ e, e = bothE 0 0 t := ⟨_, rfl⟩
    obtain ⟨T0, hT0⟩ : ∃ e, e = bothT 0 0 t := ⟨_, rfl⟩
    have kT0 : blk T0 ≤ 400 := by rw [hT0]; exact Nat.le_trans (blk_both _ _ _) hblk
    have QE0 : Hid (bothE 0 0 t = E0 ∧ bothT 0 0 t = T0) := ⟨hE0.symm, hT0.symm⟩
    obtain ⟨e, he⟩ : ∃ e, e = bothE a b t := ⟨_, rfl⟩
    obtain ⟨x, hx⟩ : ∃ e, e = bothT a b t := ⟨_, rfl⟩
    have kx : blk x ≤ 400 := by rw [hx]; exact Nat.le_trans (blk_both _ _ _) hblk
    have Qe : Hid (bothE a b t = e ∧ bothT a b t = x) := ⟨he.symm, hx.symm⟩
    obtain ⟨f, hf⟩ : ∃ e, e = bothE c 0 x := ⟨_, rfl⟩
    obtain ⟨y, hy⟩ : ∃ e, e = bothT c 0 x := ⟨_, rfl⟩
    have ky : blk y ≤ 400 := by rw [hy]; exact Nat.le_trans (blk_both _ _ _) kx
    have Qf : Hid (bothE c 0 x = f ∧ bothT c 0 x = y) := ⟨hf.symm, hy.symm⟩
    obtain ⟨g, hg⟩ : ∃ e, e = bothE (a + c) b t := ⟨_, rfl⟩
    obtain ⟨z, hz⟩ : ∃ e, e = bothT (a + c) b t := ⟨_, rfl⟩
    have kz : blk z ≤ 400 := by rw [hz]; exact Nat.le_trans (blk_both _ _ _) hblk
    have Qg : Hid (bothE (a + c) b t = g ∧ bothT (a + c) b t = z) := ⟨hg.symm, hz.symm⟩
    obtain ⟨h, hh⟩ : ∃ e, e = varsE 0 a t := ⟨_, rfl⟩
    obtain ⟨v, hv⟩ : ∃ e, e = varsT 0 a t := ⟨_, rfl⟩
    have kv : blk v ≤ 400 := by rw [hv]; exact Nat.le_trans (blk_ap _ _ _) hblk
    have Qh : Hid (varsE 0 a t = h ∧ varsT 0 a t = v) := ⟨hh.symm, hv.symm⟩
    obtain ⟨i, hi⟩ : ∃ e, e = dimsE 0 b v := ⟨_, rfl⟩
    obtain ⟨u, hu⟩ : ∃ e, e = dimsT 0 b v := ⟨_, rfl⟩
    have ku : blk u ≤ 400 := by rw [hu]; exact Nat.le_trans (blk_ap _ _ _) kv
    have Qi : Hid (dimsE 0 b v = i ∧ dimsT 0 b v = u) := ⟨hi.symm, hu.symm⟩
    obtain ⟨j, hj⟩ : ∃ e, e = dimsE 0 b t := ⟨_, rfl⟩
    obtain ⟨p, hp⟩ : ∃ e, e = dimsT 0 b t := ⟨_, rfl⟩
    have kp : blk p ≤ 400 := by rw [hp]; exact Nat.le_trans (blk_ap _ _ _) hblk
    have Qj : Hid (dimsE 0 b t = j ∧ dimsT 0 b t = p) := ⟨hj.symm, hp.symm⟩
    obtain ⟨k, hk⟩ : ∃ e, e = varsE 0 a p := ⟨_, rfl⟩
    obtain ⟨q, hq⟩ : ∃ e, e = varsT 0 a p := ⟨_, rfl⟩
    have kq : blk q ≤ 400 := by rw [hq]; exact Nat.le_trans (blk_ap _ _ _) kp
    have Qk : Hid (varsE 0 a p = k ∧ varsT 0 a p = q) := ⟨hk.symm, hq.symm⟩
    rw [QE0.out.1, QE0.out.2] at F1
    rw [Qe.out.1, Qe.out.2, Qg.out.1, Qg.out.2, Qf.out.1, Qf.out.2] at F2
    rw [QE0.out.1, Qh.out.1, Qh.out.2, Qi.out.1, Qi.out.2, Qj.out.1, Qj.out.2, Qk.out.1, Qk.out.2, Qe.out.1, Qe.out.2] at F3
    have HF1 : Hid (_ ∨ _) := F1
    have HF2 : Hid (_ ∧ _) := F2
    have HF3 : Hid (E0 = 0 → h = 0 → (i = 0 ↔ j = 0 ∧ k = 0) ∧ u = q ∧ i = e ∧ u = x) := F3
    have hI0 : I64 0 := ⟨by decide, by decide⟩
    have wr : wrap64 (a + c) = a + c := by simp [wrap64]; omega
    have HR : Hid ((0 ≤ a ∧ a ≤ 20) ∧ (0 ≤ b ∧ b ≤ 20) ∧ (0 ≤ c ∧ c ≤ 20)) := ⟨ha, hbb, hc⟩
    clear F1 F2 F3 hfm hE0 hT0 he hx hf hy hg hz hh hv hi hu hj hp hk hq ha hbb hc Hc0
    have CX : Below (X + 1) w1 w3 := B3
    have LX : Hid (X + 1 ≤ w3.heap.size) := (by have := B3.size; have := Hs1.out; omega : X + 1 ≤ w3.heap.size)
    have HXx : Hid (X = w.heap.size) := HX
    clear HX
    have HX := H0
    clear B3
    obtain ⟨n9, t9⟩ := HX.out w3 CX
    obtain ⟨y0, y1, y2, y3, y4, y5, _⟩ := n9.cells
    have cc := lboth_any hLA t _ w3 t9 (by omega) 0 0
    rw [QE0.out.1, QE0.out.2] at cc
    clear n9 t9
    go_wp2_with fail
    refine cc.mono ?_
    rintro e9 w4a ⟨v9, rfl, hv9, b9⟩
    clear cc y0 y1 y2 y3 y4 y5
    obtain ⟨ra1, rc1, ka1, kc1, sa1, sc1, rfl, ht9⟩ := hv9.form
    obtain ⟨S9, hS9⟩ : ∃ s, s = w4a.heap.size := ⟨_, rfl⟩
    obtain ⟨w4, hw9⟩ : ∃ W, W = w4a.alloc (.cells #[.int .i64 T0.kind, .int .i64 T0.n, .string T0.name, .slice ra1 T0.r.length rc1, .slice ka1 T0.kids.length kc1, .slice sa1 T0.sys.length sc1] 26) := ⟨_, rfl⟩
    have ba9 : Below w4a.heap.size w4a w4 := by rw [hw9]; exact belowA _ _
    have sz9 : w4.heap.size = S9 + 1 := by rw [hw9, hS9]; simp
    have n9 : Six w4 S9 (.int .i64 T0.kind) (.int .i64 T0.n) (.string T0.name) (.slice ra1 T0.r.length rc1) (.slice ka1 T0.kids.length kc1) (.slice sa1 T0.sys.length sc1) := ⟨by rw [hw9, hS9]; exact heapNew _ _⟩
    have HS9 : Hid (∀ W, Below (S9 + 1) w4 W → Six W S9 (.int .i64 T0.kind) (.int .i64 T0.n) (.string T0.name) (.slice ra1 T0.r.length rc1) (.slice ka1 T0.kids.length kc1) (.slice sa1 T0.sys.length sc1) ∧ TmIn Tt W T0 (.agg #[.int .i64 T0.kind, .int .i64 T0.n, .string T0.name, .slice ra1 T0.r.length rc1, .slice ka1 T0.kids.length kc1, .slice sa1 T0.sys.length sc1])) := fun W q => by
      have q2 : Below w4.heap.size w4 W := by rw [sz9]; exact q
      exact ⟨n9.blw q2, (((ht9.blw ba9).up fun _ _ => trivial).blw q2).value⟩
    have bn : Below w3.heap.size w3 w4 := bchain b9 ba9
    have bz := b9.size
    have HXS : Hid (X + 1 ≤ S9) := (by have := LX.out; omega : X + 1 ≤ S9)
    have CX := CX.trans (bn.mono LX.out)
    have LX : Hid (X + 1 ≤ w4.heap.size) := (by have := LX.out; omega : X + 1 ≤ w4.heap.size)
    have CS9 : Below (S9 + 1) w4 w4 := Below.refl _ _
    have LS9 : Hid (S9 + 1 ≤ w4.heap.size) := (by omega : S9 + 1 ≤ w4.heap.size)
    have EqS : Hid (S9 = w4a.heap.size) := hS9
    have Hwn : Hid (_ = _) := hw9
    clear hS9 hw9 ba9 sz9 n9 ht9 hv9 b9 bn bz
    go_upto_region 6 with fail
    rw [← Hwn.out]
    simp only [← EqS.out]
    clear Hwn EqS
    rcases HF1.out with ⟨hE0, hT0⟩ | ⟨hE0, hfar⟩
    rotate_left
    · obtain ⟨n9, t9⟩ := HX.out w4 CX
      obtain ⟨y0, y1, y2, y3, y4, y5, _⟩ := n9.cells
      have cf := far_any _ t _ w4 (Nat.le_refl _) (by omega) t9
      rw [hfar] at cf
      subst hE0
      clear n9 t9
      go_wp2_with fail
      refine cf.mono ?_
      rintro e9 w9 ⟨rfl, b9⟩
      clear cf
      go_wp2_with fail
      go_ret
      exact ⟨rfl, Hb.out.trans ((CX.trans (b9.mono LX.out)).mono (by omega))⟩
    subst hE0
    obtain ⟨n9, t9⟩ := HX.out w4 CX
    obtain ⟨y0, y1, y2, y3, y4, y5, _⟩ := n9.cells
    obtain ⟨m9, u9⟩ := HS9.out w4 CS9
    obtain ⟨z0, z1, z2, z3, z4, z5, _⟩ := m9.cells
    have cs := rsame_any _ T0 t true _ _ w4 u9 t9 (Nat.le_refl _) (by omega) (by simp [hT0])
    clear n9 t9 u9 hT0
    go_wp2_with fail
    refine cs.mono ?_
    rintro e9 w5 ⟨rfl, b5⟩
    clear cs y0 y1 y2 y3 y4 y5 z0 z1 z2 z3 z4 z5
    have m5 := m9.blw b5
    have CX := CX.trans (b5.mono LX.out)
    have LX : Hid (X + 1 ≤ w5.heap.size) := (by have := LX.out; have := b5.size; omega : X + 1 ≤ w5.heap.size)
    have CS9 := CS9.trans (b5.mono LS9.out)
    have LS9 : Hid (S9 + 1 ≤ w5.heap.size) := (by have := LS9.out; have := b5.size; omega : S9 + 1 ≤ w5.heap.size)
    go_upto_region 10 with fail
    obtain ⟨n9, t9⟩ := HX.out w5 CX
    obtain ⟨y0, y1, y2, y3, y4, y5, _⟩ := n9.cells
    have cc := lboth_any hLA t _ w5 t9 (by omega) a b
    rw [Qe.out.1, Qe.out.2] at cc
    clear n9 t9
    go_wp2_with fail
    refine cc.mono ?_
    rintro e9 w6a ⟨v9, rfl, hv9, b9⟩
    clear cc y0 y1 y2 y3 y4 y5
    obtain ⟨ra2, rc2, ka2, kc2, sa2, sc2, rfl, ht9⟩ := hv9.form
    have m6 := m5.blw b9
    obtain ⟨w6, hw6⟩ : ∃ W, W = (((((w6a.setCell ⟨S9, 0, none⟩ (.int .i64 x.kind)).setCell ⟨S9, 1, none⟩ (.int .i64 x.n)).setCell ⟨S9, 2, none⟩ (.string x.name)).setCell ⟨S9, 3, none⟩ (.slice ra2 x.r.length rc2)).setCell ⟨S9, 4, none⟩ (.slice ka2 x.kids.length kc2)).setCell ⟨S9, 5, none⟩ (.slice sa2 x.sys.length sc2) := ⟨_, rfl⟩
    have k6 : Kn (fun q => q ≠ S9) w6a w6 := by rw [hw6]; exact kn_six _ _ _ _ _ _ _ _
    have n6 := m6.set6 (.int .i64 x.kind) (.int .i64 x.n) (.string x.name) (.slice ra2 x.r.length rc2) (.slice ka2 x.kids.length kc2) (.slice sa2 x.sys.length sc2)
    rw [← hw6] at n6
    have lS := LS9.out
    have bz := b9.size
    have ks := k6.size
    have tx : TmIn Tt w6 x (.agg #[.int .i64 x.kind, .int .i64 x.n, .string x.name, .slice ra2 x.r.length rc2, .slice ka2 x.kids.length kc2, .slice sa2 x.sys.length sc2]) := ht9.value.keep k6.size (fun _ _ => trivial) (fun q hq hs => k6.block q (by have := hq.1; omega) hs)
    have hXS : X + 1 ≤ S9 := by have := LX.out; have := HXS.out; omega
    have CX : Below (X + 1) w1 w6 := (CX.trans (b9.mono LX.out)).trans (k6.below (fun q hq => by omega) (by have := LX.out; omega))
    have LX : Hid (X + 1 ≤ w6.heap.size) := (by have := LX.out; omega : X + 1 ≤ w6.heap.size)
    have HSx : Hid (∀ W, Below w6.heap.size w6 W → Six W S9 (.int .i64 x.kind) (.int .i64 x.n) (.string x.name) (.slice ra2 x.r.length rc2) (.slice ka2 x.kids.length kc2) (.slice sa2 x.sys.length sc2) ∧ TmIn Tt W x (.agg #[.int .i64 x.kind, .int .i64 x.n, .string x.name, .slice ra2 x.r.length rc2, .slice ka2 x.kids.length kc2, .slice sa2 x.sys.length sc2])) := fun W q => ⟨n6.blw q, tx.blw q⟩
    obtain ⟨o0, o1, o2, o3, o4, o5, ff⟩ := m6.cells
    have f0 := ff 0
    have f1 := ff 1
    have f2 := ff 2
    have f3 := ff 3
    have f4 := ff 4
    have f5 := ff 5
    have Hw6 : Hid (_ = _) := hw6
    obtain ⟨Y, hY⟩ : ∃ Y, Y + 1 = w6.heap.size := ⟨w6.heap.size - 1, by omega⟩
    have HY : Hid (∀ W, Below (Y + 1) w6 W → Six W S9 (.int .i64 x.kind) (.int .i64 x.n) (.string x.name) (.slice ra2 x.r.length rc2) (.slice ka2 x.kids.length kc2) (.slice sa2 x.sys.length sc2) ∧ TmIn Tt W x (.agg #[.int .i64 x.kind, .int .i64 x.n, .string x.name, .slice ra2 x.r.length rc2, .slice ka2 x.kids.length kc2, .slice sa2 x.sys.length sc2])) := fun W q => HSx.out W (by rw [← hY]; exact q)
    have CY : Below (Y + 1) w6 w6 := Below.refl _ _
    have LY : Hid (Y + 1 ≤ w6.heap.size) := (by omega : Y + 1 ≤ w6.heap.size)
    clear hw6 k6 n6 m6 ht9 hv9 ff lS bz ks tx hXS b9 HSx hY m5 m9 b5 CS9 LS9 HS9
    go_upto_region 11 with fail
    rw [← Hw6.out]
    clear Hw6 o0 o1 o2 o3 o4 o5 f0 f1 f2 f3 f4 f5
    obtain ⟨n9, t9⟩ := HY.out w6 CY
    obtain ⟨y0, y1, y2, y3, y4, y5, _⟩ := n9.cells
    have cc := lboth_any hLA x _ w6 t9 (by omega) c 0
    rw [Qf.out.1, Qf.out.2] at cc
    clear n9 t9
    go_wp2_with fail
    refine cc.mono ?_
    rintro e9 w7a ⟨v9, rfl, hv9, b9⟩
    clear cc y0 y1 y2 y3 y4 y5
    obtain ⟨ra3, rc3, ka3, kc3, sa3, sc3, rfl, ht9⟩ := hv9.form
    obtain ⟨S11, hS9⟩ : ∃ s, s = w7a.heap.size := ⟨_, rfl⟩
    obtain ⟨w7, hw9⟩ : ∃ W, W = w7a.alloc (.cells #[.int .i64 y.kind, .int .i64 y.n, .string y.name, .slice ra3 y.r.length rc3, .slice ka3 y.kids.length kc3, .slice sa3 y.sys.length sc3] 26) := ⟨_, rfl⟩
    have ba9 : Below w7a.heap.size w7a w7 := by rw [hw9]; exact belowA _ _
    have sz9 : w7.heap.size = S11 + 1 := by rw [hw9, hS9]; simp
    have n9 : Six w7 S11 (.int .i64 y.kind) (.int .i64 y.n) (.string y.name) (.slice ra3 y.r.length rc3) (.slice ka3 y.kids.length kc3) (.slice sa3 y.sys.length sc3) := ⟨by rw [hw9, hS9]; exact heapNew _ _⟩
    have HS11 : Hid (∀ W, Below (S11 + 1) w7 W → Six W S11 (.int .i64 y.kind) (.int .i64 y.n) (.string y.name) (.slice ra3 y.r.length rc3) (.slice ka3 y.kids.length kc3) (.slice sa3 y.sys.length sc3) ∧ TmIn Tt W y (.agg #[.int .i64 y.kind, .int .i64 y.n, .string y.name, .slice ra3 y.r.length rc3, .slice ka3 y.kids.length kc3, .slice sa3 y.sys.length sc3])) := fun W q => by
      have q2 : Below w7.heap.size w7 W := by rw [sz9]; exact q
      exact ⟨n9.blw q2, (((ht9.blw ba9).up fun _ _ => trivial).blw q2).value⟩
    have bn : Below w6.heap.size w6 w7 := bchain b9 ba9
    have bz := b9.size
    have CX := CX.trans (bn.mono LX.out)
    have LX : Hid (X + 1 ≤ w7.heap.size) := (by have := LX.out; omega : X + 1 ≤ w7.heap.size)
    have CY := CY.trans (bn.mono LY.out)
    have LY : Hid (Y + 1 ≤ w7.heap.size) := (by have := LY.out; omega : Y + 1 ≤ w7.heap.size)
    have CS11 : Below (S11 + 1) w7 w7 := Below.refl _ _
    have LS11 : Hid (S11 + 1 ≤ w7.heap.size) := (by omega : S11 + 1 ≤ w7.heap.size)
    have EqS : Hid (S11 = w7a.heap.size) := hS9
    have Hwn : Hid (_ = _) := hw9
    clear hS9 hw9 ba9 sz9 n9 ht9 hv9 b9 bn bz
    go_upto_region 12 with fail
    rw [← Hwn.out]
    simp only [← EqS.out]
    clear Hwn EqS
    obtain ⟨n9, t9⟩ := HX.out w7 CX
    obtain ⟨y0, y1, y2, y3, y4, y5, _⟩ := n9.cells
    have cc := lboth_any hLA t _ w7 t9 (by omega) (a + c) b
    rw [Qg.out.1, Qg.out.2] at cc
    clear n9 t9
    go_wp2_with fail
    refine cc.mono ?_
    rintro e9 w8a ⟨v9, rfl, hv9, b9⟩
    clear cc y0 y1 y2 y3 y4 y5
    obtain ⟨ra4, rc4, ka4, kc4, sa4, sc4, rfl, ht9⟩ := hv9.form
    obtain ⟨S13, hS9⟩ : ∃ s, s = w8a.heap.size := ⟨_, rfl⟩
    obtain ⟨w8, hw9⟩ : ∃ W, W = w8a.alloc (.cells #[.int .i64 z.kind, .int .i64 z.n, .string z.name, .slice ra4 z.r.length rc4, .slice ka4 z.kids.length kc4, .slice sa4 z.sys.length sc4] 26) := ⟨_, rfl⟩
    have ba9 : Below w8a.heap.size w8a w8 := by rw [hw9]; exact belowA _ _
    have sz9 : w8.heap.size = S13 + 1 := by rw [hw9, hS9]; simp
    have n9 : Six w8 S13 (.int .i64 z.kind) (.int .i64 z.n) (.string z.name) (.slice ra4 z.r.length rc4) (.slice ka4 z.kids.length kc4) (.slice sa4 z.sys.length sc4) := ⟨by rw [hw9, hS9]; exact heapNew _ _⟩
    have HS13 : Hid (∀ W, Below (S13 + 1) w8 W → Six W S13 (.int .i64 z.kind) (.int .i64 z.n) (.string z.name) (.slice ra4 z.r.length rc4) (.slice ka4 z.kids.length kc4) (.slice sa4 z.sys.length sc4) ∧ TmIn Tt W z (.agg #[.int .i64 z.kind, .int .i64 z.n, .string z.name, .slice ra4 z.r.length rc4, .slice ka4 z.kids.length kc4, .slice sa4 z.sys.length sc4])) := fun W q => by
      have q2 : Below w8.heap.size w8 W := by rw [sz9]; exact q
      exact ⟨n9.blw q2, (((ht9.blw ba9).up fun _ _ => trivial).blw q2).value⟩
    have bn : Below w7.heap.size w7 w8 := bchain b9 ba9
    have bz := b9.size
    have CX := CX.trans (bn.mono LX.out)
    have LX : Hid (X + 1 ≤ w8.heap.size) := (by have := LX.out; omega : X + 1 ≤ w8.heap.size)
    have CY := CY.trans (bn.mono LY.out)
    have LY : Hid (Y + 1 ≤ w8.heap.size) := (by have := LY.out; omega : Y + 1 ≤ w8.heap.size)
    have CS11 := CS11.trans (bn.mono LS11.out)
    have LS11 : Hid (S11 + 1 ≤ w8.heap.size) := (by have := LS11.out; omega : S11 + 1 ≤ w8.heap.size)
    have CS13 : Below (S13 + 1) w8 w8 := Below.refl _ _
    have LS13 : Hid (S13 + 1 ≤ w8.heap.size) := (by omega : S13 + 1 ≤ w8.heap.size)
    have EqS : Hid (S13 = w8a.heap.size) := hS9
    have Hwn : Hid (_ = _) := hw9
    clear hS9 hw9 ba9 sz9 n9 ht9 hv9 b9 bn bz
    go_upto_region 13 with fail
    rw [← Hwn.out]
    simp only [← EqS.out]
    clear Hwn EqS
    go_cut [115] (fun s wx => s = .bool false ∧ Below w8.heap.size w8 wx)
    case first => as_aux_lemma =>
      by_cases he : e = 0
      · obtain ⟨hfg, hyz⟩ := HF2.out.1 he
        have hff : (f != g) = false := by rw [hfg]; simp
        have hff2 : (f == g) = true := by rw [hfg]; simp
        have he1 : (e == 0) = true := by simpa using he
        have he2 : (e != 0) = false := by rw [he]; rfl
        obtain ⟨n9, t9⟩ := HS11.out w8 CS11
        obtain ⟨y0, y1, y2, y3, y4, y5, _⟩ := n9.cells
        obtain ⟨m9, u9⟩ := HS13.out w8 CS13
        obtain ⟨z0, z1, z2, z3, z4, z5, _⟩ := m9.cells
        have cs := rsame_any _ y z true _ _ w8 t9 u9 (Nat.le_refl _) (by omega) (by simp [hyz])
        clear n9 t9 m9 u9 he hfg hyz
        go_wp2_with fail
        refine cs.mono ?_
        rintro e9 w9 ⟨rfl, b9⟩
        clear cs
        go_wp2_with fail
        go_meet
        exact ⟨rfl, b9⟩
      · have hg := HF2.out.2 he
        have he1 : (e == 0) = false := by simpa using he
        have he2 : (e != 0) = true := by simpa using he
        have hg1 : (g == 0) = false := by simpa using hg
        go_wp2_with fail
        go_meet
        exact ⟨rfl, Below.refl _ _⟩
    case rest =>
    obtain ⟨rfl, b8⟩ := hcut
    obtain ⟨w9, hw9⟩ : ∃ W, W = wc := ⟨_, rfl⟩
    subst hw9
    have CX := CX.trans (b8.mono LX.out)
    have LX : Hid (X + 1 ≤ w9.heap.size) := (by have := LX.out; have := b8.size; omega : X + 1 ≤ w9.heap.size)
    have CY := CY.trans (b8.mono LY.out)
    have LY : Hid (Y + 1 ≤ w9.heap.size) := (by have := LY.out; have := b8.size; omega : Y + 1 ≤ w9.heap.size)
    have CS11 := CS11.trans (b8.mono LS11.out)
    have LS11 : Hid (S11 + 1 ≤ w9.heap.size) := (by have := LS11.out; have := b8.size; omega : S11 + 1 ≤ w9.heap.size)
    have CS13 := CS13.trans (b8.mono LS13.out)
    have LS13 : Hid (S13 + 1 ≤ w9.heap.size) := (by have := LS13.out; have := b8.size; omega : S13 + 1 ≤ w9.heap.size)
    clear b8
    go_upto_region 15 with fail
    obtain ⟨n9, t9⟩ := HX.out w9 CX
    obtain ⟨y0, y1, y2, y3, y4, y5, _⟩ := n9.cells
    have cc := lvars_any hLA t _ w9 t9 (by omega) 0 a hI0
    rw [Qh.out.1, Qh.out.2] at cc
    clear n9 t9
    go_wp2_with fail
    refine cc.mono ?_
    rintro e9 w10a ⟨v9, rfl, hv9, b9⟩
    clear cc y0 y1 y2 y3 y4 y5
    obtain ⟨ra5, rc5, ka5, kc5, sa5, sc5, rfl, ht9⟩ := hv9.form
    obtain ⟨S15, hS9⟩ : ∃ s, s = w10a.heap.size := ⟨_, rfl⟩
    obtain ⟨w10, hw9⟩ : ∃ W, W = w10a.alloc (.cells #[.int .i64 v.kind, .int .i64 v.n, .string v.name, .slice ra5 v.r.length rc5, .slice ka5 v.kids.length kc5, .slice sa5 v.sys.length sc5] 26) := ⟨_, rfl⟩
    have ba9 : Below w10a.heap.size w10a w10 := by rw [hw9]; exact belowA _ _
    have sz9 : w10.heap.size = S15 + 1 := by rw [hw9, hS9]; simp
    have n9 : Six w10 S15 (.int .i64 v.kind) (.int .i64 v.n) (.string v.name) (.slice ra5 v.r.length rc5) (.slice ka5 v.kids.length kc5) (.slice sa5 v.sys.length sc5) := ⟨by rw [hw9, hS9]; exact heapNew _ _⟩
    have HS15 : Hid (∀ W, Below (S15 + 1) w10 W → Six W S15 (.int .i64 v.kind) (.int .i64 v.n) (.string v.name) (.slice ra5 v.r.length rc5) (.slice ka5 v.kids.length kc5) (.slice sa5 v.sys.length sc5) ∧ TmIn Tt W v (.agg #[.int .i64 v.kind, .int .i64 v.n, .string v.name, .slice ra5 v.r.length rc5, .slice ka5 v.kids.length kc5, .slice sa5 v.sys.length sc5])) := fun W q => by
      have q2 : Below w10.heap.size w10 W := by rw [sz9]; exact q
      exact ⟨n9.blw q2, (((ht9.blw ba9).up fun _ _ => trivial).blw q2).value⟩
    have bn : Below w9.heap.size w9 w10 := bchain b9 ba9
    have bz := b9.size
    have CX := CX.trans (bn.mono LX.out)
    have LX : Hid (X + 1 ≤ w10.heap.size) := (by have := LX.out; omega : X + 1 ≤ w10.heap.size)
    have CY := CY.trans (bn.mono LY.out)
    have LY : Hid (Y + 1 ≤ w10.heap.size) := (by have := LY.out; omega : Y + 1 ≤ w10.heap.size)
    have CS11 := CS11.trans (bn.mono LS11.out)
    have LS11 : Hid (S11 + 1 ≤ w10.heap.size) := (by have := LS11.out; omega : S11 + 1 ≤ w10.heap.size)
    have CS13 := CS13.trans (bn.mono LS13.out)
    have LS13 : Hid (S13 + 1 ≤ w10.heap.size) := (by have := LS13.out; omega : S13 + 1 ≤ w10.heap.size)
    have CS15 : Below (S15 + 1) w10 w10 := Below.refl _ _
    have LS15 : Hid (S15 + 1 ≤ w10.heap.size) := (by omega : S15 + 1 ≤ w10.heap.size)
    have EqS : Hid (S15 = w10a.heap.size) := hS9
    have Hwn : Hid (_ = _) := hw9
    clear hS9 hw9 ba9 sz9 n9 ht9 hv9 b9 bn bz
    go_upto_region 16 with fail
    rw [← Hwn.out]
    simp only [← EqS.out]
    clear Hwn EqS
    obtain ⟨n9, t9⟩ := HS15.out w10 CS15
    obtain ⟨y0, y1, y2, y3, y4, y5, _⟩ := n9.cells
    have cc := ldims_any hLA v _ w10 t9 (by omega) 0 b hI0
    rw [Qi.out.1, Qi.out.2] at cc
    clear n9 t9
    go_wp2_with fail
    refine cc.mono ?_
    rintro e9 w11a ⟨v9, rfl, hv9, b9⟩
    clear cc y0 y1 y2 y3 y4 y5
    obtain ⟨ra6, rc6, ka6, kc6, sa6, sc6, rfl, ht9⟩ := hv9.form
    obtain ⟨S17, hS9⟩ : ∃ s, s = w11a.heap.size := ⟨_, rfl⟩
    obtain ⟨w11, hw9⟩ : ∃ W, W = w11a.alloc (.cells #[.int .i64 u.kind, .int .i64 u.n, .string u.name, .slice ra6 u.r.length rc6, .slice ka6 u.kids.length kc6, .slice sa6 u.sys.length sc6] 26) := ⟨_, rfl⟩
    have ba9 : Below w11a.heap.size w11a w11 := by rw [hw9]; exact belowA _ _
    have sz9 : w11.heap.size = S17 + 1 := by rw [hw9, hS9]; simp
    have n9 : Six w11 S17 (.int .i64 u.kind) (.int .i64 u.n) (.string u.name) (.slice ra6 u.r.length rc6) (.slice ka6 u.kids.length kc6) (.slice sa6 u.sys.length sc6) := ⟨by rw [hw9, hS9]; exact heapNew _ _⟩
    have HS17 : Hid (∀ W, Below (S17 + 1) w11 W → Six W S17 (.int .i64 u.kind) (.int .i64 u.n) (.string u.name) (.slice ra6 u.r.length rc6) (.slice ka6 u.kids.length kc6) (.slice sa6 u.sys.length sc6) ∧ TmIn Tt W u (.agg #[.int .i64 u.kind, .int .i64 u.n, .string u.name, .slice ra6 u.r.length rc6, .slice ka6 u.kids.length kc6, .slice sa6 u.sys.length sc6])) := fun W q => by
      have q2 : Below w11.heap.size w11 W := by rw [sz9]; exact q
      exact ⟨n9.blw q2, (((ht9.blw ba9).up fun _ _ => trivial).blw q2).value⟩
    have bn : Below w10.heap.size w10 w11 := bchain b9 ba9
    have bz := b9.size
    have CX := CX.trans (bn.mono LX.out)
    have LX : Hid (X + 1 ≤ w11.heap.size) := (by have := LX.out; omega : X + 1 ≤ w11.heap.size)
    have CY := CY.trans (bn.mono LY.out)
    have LY : Hid (Y + 1 ≤ w11.heap.size) := (by have := LY.out; omega : Y + 1 ≤ w11.heap.size)
    have CS11 := CS11.trans (bn.mono LS11.out)
    have LS11 : Hid (S11 + 1 ≤ w11.heap.size) := (by have := LS11.out; omega : S11 + 1 ≤ w11.heap.size)
    have CS13 := CS13.trans (bn.mono LS13.out)
    have LS13 : Hid (S13 + 1 ≤ w11.heap.size) := (by have := LS13.out; omega : S13 + 1 ≤ w11.heap.size)
    have CS15 := CS15.trans (bn.mono LS15.out)
    have LS15 : Hid (S15 + 1 ≤ w11.heap.size) := (by have := LS15.out; omega : S15 + 1 ≤ w11.heap.size)
    have CS17 : Below (S17 + 1) w11 w11 := Below.refl _ _
    have LS17 : Hid (S17 + 1 ≤ w11.heap.size) := (by omega : S17 + 1 ≤ w11.heap.size)
    have EqS : Hid (S17 = w11a.heap.size) := hS9
    have Hwn : Hid (_ = _) := hw9
    clear hS9 hw9 ba9 sz9 n9 ht9 hv9 b9 bn bz
    go_upto_region 17 with fail
    rw [← Hwn.out]
    simp only [← EqS.out]
    clear Hwn EqS
    obtain ⟨n9, t9⟩ := HX.out w11 CX
    obtain ⟨y0, y1, y2, y3, y4, y5, _⟩ := n9.cells
    have cc := ldims_any hLA t _ w11 t9 (by omega) 0 b hI0
    rw [Qj.out.1, Qj.out.2] at cc
    clear n9 t9
    go_wp2_with fail
    refine cc.mono ?_
    rintro e9 w12a ⟨v9, rfl, hv9, b9⟩
    clear cc y0 y1 y2 y3 y4 y5
    obtain ⟨ra7, rc7, ka7, kc7, sa7, sc7, rfl, ht9⟩ := hv9.form
    obtain ⟨S19, hS9⟩ : ∃ s, s = w12a.heap.size := ⟨_, rfl⟩
    obtain ⟨w12, hw9⟩ : ∃ W, W = w12a.alloc (.cells #[.int .i64 p.kind, .int .i64 p.n, .string p.name, .slice ra7 p.r.length rc7, .slice ka7 p.kids.length kc7, .slice sa7 p.sys.length sc7] 26) := ⟨_, rfl⟩
    have ba9 : Below w12a.heap.size w12a w12 := by rw [hw9]; exact belowA _ _
    have sz9 : w12.heap.size = S19 + 1 := by rw [hw9, hS9]; simp
    have n9 : Six w12 S19 (.int .i64 p.kind) (.int .i64 p.n) (.string p.name) (.slice ra7 p.r.length rc7) (.slice ka7 p.kids.length kc7) (.slice sa7 p.sys.length sc7) := ⟨by rw [hw9, hS9]; exact heapNew _ _⟩
    have HS19 : Hid (∀ W, Below (S19 + 1) w12 W → Six W S19 (.int .i64 p.kind) (.int .i64 p.n) (.string p.name) (.slice ra7 p.r.length rc7) (.slice ka7 p.kids.length kc7) (.slice sa7 p.sys.length sc7) ∧ TmIn Tt W p (.agg #[.int .i64 p.kind, .int .i64 p.n, .string p.name, .slice ra7 p.r.length rc7, .slice ka7 p.kids.length kc7, .slice sa7 p.sys.length sc7])) := fun W q => by
      have q2 : Below w12.heap.size w12 W := by rw [sz9]; exact q
      exact ⟨n9.blw q2, (((ht9.blw ba9).up fun _ _ => trivial).blw q2).value⟩
    have bn : Below w11.heap.size w11 w12 := bchain b9 ba9
    have bz := b9.size
    have CX := CX.trans (bn.mono LX.out)
    have LX : Hid (X + 1 ≤ w12.heap.size) := (by have := LX.out; omega : X + 1 ≤ w12.heap.size)
    have CY := CY.trans (bn.mono LY.out)
    have LY : Hid (Y + 1 ≤ w12.heap.size) := (by have := LY.out; omega : Y + 1 ≤ w12.heap.size)
    have CS11 := CS11.trans (bn.mono LS11.out)
    have LS11 : Hid (S11 + 1 ≤ w12.heap.size) := (by have := LS11.out; omega : S11 + 1 ≤ w12.heap.size)
    have CS13 := CS13.trans (bn.mono LS13.out)
    have LS13 : Hid (S13 + 1 ≤ w12.heap.size) := (by have := LS13.out; omega : S13 + 1 ≤ w12.heap.size)
    have CS15 := CS15.trans (bn.mono LS15.out)
    have LS15 : Hid (S15 + 1 ≤ w12.heap.size) := (by have := LS15.out; omega : S15 + 1 ≤ w12.heap.size)
    have CS17 := CS17.trans (bn.mono LS17.out)
    have LS17 : Hid (S17 + 1 ≤ w12.heap.size) := (by have := LS17.out; omega : S17 + 1 ≤ w12.heap.size)
    have CS19 : Below (S19 + 1) w12 w12 := Below.refl _ _
    have LS19 : Hid (S19 + 1 ≤ w12.heap.size) := (by omega : S19 + 1 ≤ w12.heap.size)
    have EqS : Hid (S19 = w12a.heap.size) := hS9
    have Hwn : Hid (_ = _) := hw9
    clear hS9 hw9 ba9 sz9 n9 ht9 hv9 b9 bn bz
    go_upto_region 18 with fail
    rw [← Hwn.out]
    simp only [← EqS.out]
    clear Hwn EqS
    obtain ⟨n9, t9⟩ := HS19.out w12 CS19
    obtain ⟨y0, y1, y2, y3, y4, y5, _⟩ := n9.cells
    have cc := lvars_any hLA p _ w12 t9 (by omega) 0 a hI0
    rw [Qk.out.1, Qk.out.2] at cc
    clear n9 t9
    go_wp2_with fail
    refine cc.mono ?_
    rintro e9 w13a ⟨v9, rfl, hv9, b9⟩
    clear cc y0 y1 y2 y3 y4 y5
    obtain ⟨ra8, rc8, ka8, kc8, sa8, sc8, rfl, ht9⟩ := hv9.form
    obtain ⟨S21, hS9⟩ : ∃ s, s = w13a.heap.size := ⟨_, rfl⟩
    obtain ⟨w13, hw9⟩ : ∃ W, W = w13a.alloc (.cells #[.int .i64 q.kind, .int .i64 q.n, .string q.name, .slice ra8 q.r.length rc8, .slice ka8 q.kids.length kc8, .slice sa8 q.sys.length sc8] 26) := ⟨_, rfl⟩
    have ba9 : Below w13a.heap.size w13a w13 := by rw [hw9]; exact belowA _ _
    have sz9 : w13.heap.size = S21 + 1 := by rw [hw9, hS9]; simp
    have n9 : Six w13 S21 (.int .i64 q.kind) (.int .i64 q.n) (.string q.name) (.slice ra8 q.r.length rc8) (.slice ka8 q.kids.length kc8) (.slice sa8 q.sys.length sc8) := ⟨by rw [hw9, hS9]; exact heapNew _ _⟩
    have HS21 : Hid (∀ W, Below (S21 + 1) w13 W → Six W S21 (.int .i64 q.kind) (.int .i64 q.n) (.string q.name) (.slice ra8 q.r.length rc8) (.slice ka8 q.kids.length kc8) (.slice sa8 q.sys.length sc8) ∧ TmIn Tt W q (.agg #[.int .i64 q.kind, .int .i64 q.n, .string q.name, .slice ra8 q.r.length rc8, .slice ka8 q.kids.length kc8, .slice sa8 q.sys.length sc8])) := fun W q => by
      have q2 : Below w13.heap.size w13 W := by rw [sz9]; exact q
      exact ⟨n9.blw q2, (((ht9.blw ba9).up fun _ _ => trivial).blw q2).value⟩
    have bn : Below w12.heap.size w12 w13 := bchain b9 ba9
    have bz := b9.size
    have CX := CX.trans (bn.mono LX.out)
    have LX : Hid (X + 1 ≤ w13.heap.size) := (by have := LX.out; omega : X + 1 ≤ w13.heap.size)
    have CY := CY.trans (bn.mono LY.out)
    have LY : Hid (Y + 1 ≤ w13.heap.size) := (by have := LY.out; omega : Y + 1 ≤ w13.heap.size)
    have CS11 := CS11.trans (bn.mono LS11.out)
    have LS11 : Hid (S11 + 1 ≤ w13.heap.size) := (by have := LS11.out; omega : S11 + 1 ≤ w13.heap.size)
    have CS13 := CS13.trans (bn.mono LS13.out)
    have LS13 : Hid (S13 + 1 ≤ w13.heap.size) := (by have := LS13.out; omega : S13 + 1 ≤ w13.heap.size)
    have CS15 := CS15.trans (bn.mono LS15.out)
    have LS15 : Hid (S15 + 1 ≤ w13.heap.size) := (by have := LS15.out; omega : S15 + 1 ≤ w13.heap.size)
    have CS17 := CS17.trans (bn.mono LS17.out)
    have LS17 : Hid (S17 + 1 ≤ w13.heap.size) := (by have := LS17.out; omega : S17 + 1 ≤ w13.heap.size)
    have CS19 := CS19.trans (bn.mono LS19.out)
    have LS19 : Hid (S19 + 1 ≤ w13.heap.size) := (by have := LS19.out; omega : S19 + 1 ≤ w13.heap.size)
    have CS21 : Below (S21 + 1) w13 w13 := Below.refl _ _
    have LS21 : Hid (S21 + 1 ≤ w13.heap.size) := (by omega : S21 + 1 ≤ w13.heap.size)
    have EqS : Hid (S21 = w13a.heap.size) := hS9
    have Hwn : Hid (_ = _) := hw9
    clear hS9 hw9 ba9 sz9 n9 ht9 hv9 b9 bn bz
    go_upto_region 19 with fail
    rw [← Hwn.out]
    simp only [← EqS.out]
    clear Hwn EqS
    by_cases hh : h = 0
    rotate_left
    · have hh1 : (h != 0) = true := by simpa using hh
      have hh2 : (h == 0) = false := by simpa using hh
      go_wp2_with fail
      go_ret
      exact ⟨rfl, Hb.out.trans (CX.mono (by omega))⟩
    obtain ⟨hijk, huq, hie, hux⟩ := HF3.out (by first | rfl | trivial) hh
    have HUX : Hid (u = x) := hux
    have HUQ : Hid (u = q) := huq
    have hh1 : (h != 0) = false := by rw [hh]; rfl
    have hie1 : (i != e) = false := by rw [hie]; simp
    have hie2 : (i == e) = true := by rw [hie]; simp
    obtain ⟨n9, t9⟩ := HS17.out w13 CS17
    obtain ⟨y0, y1, y2, y3, y4, y5, _⟩ := n9.cells
    obtain ⟨m9, u9⟩ := HS21.out w13 CS21
    obtain ⟨z0, z1, z2, z3, z4, z5, _⟩ := m9.cells
    have cs := rsame_any _ u q true _ _ w13 t9 u9 (Nat.le_refl _) (by omega) (by simp [HUQ.out])
    clear n9 t9 m9 u9 huq hux hie
    by_cases hi : i = 0
    · obtain ⟨hj, hk⟩ := hijk.1 hi
      have hi1 : (i == 0) = true := by simpa using hi
      have hj1 : (j == 0) = true := by simpa using hj
      have hk1 : (k == 0) = true := by simpa using hk
      clear hijk hi hj hk hh
      go_wp2_with fail
      refine cs.mono ?_
      rintro e9 w14 ⟨rfl, b14⟩
      clear cs y0 y1 y2 y3 y4 y5 z0 z1 z2 z3 z4 z5
      have CX := CX.trans (b14.mono LX.out)
      have LX : Hid (X + 1 ≤ w14.heap.size) := (by have := LX.out; have := b14.size; omega : X + 1 ≤ w14.heap.size)
      have CY := CY.trans (b14.mono LY.out)
      have LY : Hid (Y + 1 ≤ w14.heap.size) := (by have := LY.out; have := b14.size; omega : Y + 1 ≤ w14.heap.size)
      have CS11 := CS11.trans (b14.mono LS11.out)
      have LS11 : Hid (S11 + 1 ≤ w14.heap.size) := (by have := LS11.out; have := b14.size; omega : S11 + 1 ≤ w14.heap.size)
      have CS13 := CS13.trans (b14.mono LS13.out)
      have LS13 : Hid (S13 + 1 ≤ w14.heap.size) := (by have := LS13.out; have := b14.size; omega : S13 + 1 ≤ w14.heap.size)
      have CS15 := CS15.trans (b14.mono LS15.out)
      have LS15 : Hid (S15 + 1 ≤ w14.heap.size) := (by have := LS15.out; have := b14.size; omega : S15 + 1 ≤ w14.heap.size)
      have CS17 := CS17.trans (b14.mono LS17.out)
      have LS17 : Hid (S17 + 1 ≤ w14.heap.size) := (by have := LS17.out; have := b14.size; omega : S17 + 1 ≤ w14.heap.size)
      have CS19 := CS19.trans (b14.mono LS19.out)
      have LS19 : Hid (S19 + 1 ≤ w14.heap.size) := (by have := LS19.out; have := b14.size; omega : S19 + 1 ≤ w14.heap.size)
      have CS21 := CS21.trans (b14.mono LS21.out)
      have LS21 : Hid (S21 + 1 ≤ w14.heap.size) := (by have := LS21.out; have := b14.size; omega : S21 + 1 ≤ w14.heap.size)
      obtain ⟨n9, t9⟩ := HS17.out w14 CS17
      obtain ⟨y0, y1, y2, y3, y4, y5, _⟩ := n9.cells
      obtain ⟨m9, u9⟩ := HY.out w14 CY
      obtain ⟨z0, z1, z2, z3, z4, z5, _⟩ := m9.cells
      have cs := rsame_any _ u x true _ _ w14 t9 u9 (Nat.le_refl _) (by omega) (by simp [HUX.out])
      clear n9 t9 m9 u9
      go_wp2_with fail
      refine cs.mono ?_
      rintro e9 w15 ⟨rfl, b15⟩
      clear cs y0 y1 y2 y3 y4 y5 z0 z1 z2 z3 z4 z5
      go_wp2_with fail
      go_ret
      exact ⟨rfl, Hb.out.trans ((CX.trans (b15.mono LX.out)).mono (by omega))⟩
    · have hi1 : (i == 0) = false := by simpa using hi
      by_cases hj : j = 0
      · have hk : ¬ k = 0 := fun hk => hi (hijk.2 ⟨hj, hk⟩)
        have hj1 : (j == 0) = true := by simpa using hj
        have hk1 : (k == 0) = false := by simpa using hk
        clear hijk hi hj hk hh
        go_wp2_with fail
        refine cs.mono ?_
        rintro e9 w14 ⟨rfl, b14⟩
        clear cs y0 y1 y2 y3 y4 y5 z0 z1 z2 z3 z4 z5
        have CX := CX.trans (b14.mono LX.out)
        have LX : Hid (X + 1 ≤ w14.heap.size) := (by have := LX.out; have := b14.size; omega : X + 1 ≤ w14.heap.size)
        have CY := CY.trans (b14.mono LY.out)
        have LY : Hid (Y + 1 ≤ w14.heap.size) := (by have := LY.out; have := b14.size; omega : Y + 1 ≤ w14.heap.size)
        have CS11 := CS11.trans (b14.mono LS11.out)
        have LS11 : Hid (S11 + 1 ≤ w14.heap.size) := (by have := LS11.out; have := b14.size; omega : S11 + 1 ≤ w14.heap.size)
        have CS13 := CS13.trans (b14.mono LS13.out)
        have LS13 : Hid (S13 + 1 ≤ w14.heap.size) := (by have := LS13.out; have := b14.size; omega : S13 + 1 ≤ w14.heap.size)
        have CS15 := CS15.trans (b14.mono LS15.out)
        have LS15 : Hid (S15 + 1 ≤ w14.heap.size) := (by have := LS15.out; have := b14.size; omega : S15 + 1 ≤ w14.heap.size)
        have CS17 := CS17.trans (b14.mono LS17.out)
        have LS17 : Hid (S17 + 1 ≤ w14.heap.size) := (by have := LS17.out; have := b14.size; omega : S17 + 1 ≤ w14.heap.size)
        have CS19 := CS19.trans (b14.mono LS19.out)
        have LS19 : Hid (S19 + 1 ≤ w14.heap.size) := (by have := LS19.out; have := b14.size; omega : S19 + 1 ≤ w14.heap.size)
        have CS21 := CS21.trans (b14.mono LS21.out)
        have LS21 : Hid (S21 + 1 ≤ w14.heap.size) := (by have := LS21.out; have := b14.size; omega : S21 + 1 ≤ w14.heap.size)
        obtain ⟨n9, t9⟩ := HS17.out w14 CS17
        obtain ⟨y0, y1, y2, y3, y4, y5, _⟩ := n9.cells
        obtain ⟨m9, u9⟩ := HY.out w14 CY
        obtain ⟨z0, z1, z2, z3, z4, z5, _⟩ := m9.cells
        have cs := rsame_any _ u x true _ _ w14 t9 u9 (Nat.le_refl _) (by omega) (by simp [HUX.out])
        clear n9 t9 m9 u9
        go_wp2_with fail
        refine cs.mono ?_
        rintro e9 w15 ⟨rfl, b15⟩
        clear cs y0 y1 y2 y3 y4 y5 z0 z1 z2 z3 z4 z5
        go_wp2_with fail
        go_ret
        exact ⟨rfl, Hb.out.trans ((CX.trans (b15.mono LX.out)).mono (by omega))⟩
      · have hj1 : (j == 0) = false := by simpa using hj
        clear hijk hi hj hh
        go_wp2_with fail
        refine cs.mono ?_
        rintro e9 w14 ⟨rfl, b14⟩
        clear cs y0 y1 y2 y3 y4 y5 z0 z1 z2 z3 z4 z5
        have CX := CX.trans (b14.mono LX.out)
        have LX : Hid (X + 1 ≤ w14.heap.size) := (by have := LX.out; have := b14.size; omega : X + 1 ≤ w14.heap.size)
        have CY := CY.trans (b14.mono LY.out)
        have LY : Hid (Y + 1 ≤ w14.heap.size) := (by have := LY.out; have := b14.size; omega : Y + 1 ≤ w14.heap.size)
        have CS11 := CS11.trans (b14.mono LS11.out)
        have LS11 : Hid (S11 + 1 ≤ w14.heap.size) := (by have := LS11.out; have := b14.size; omega : S11 + 1 ≤ w14.heap.size)
        have CS13 := CS13.trans (b14.mono LS13.out)
        have LS13 : Hid (S13 + 1 ≤ w14.heap.size) := (by have := LS13.out; have := b14.size; omega : S13 + 1 ≤ w14.heap.size)
        have CS15 := CS15.trans (b14.mono LS15.out)
        have LS15 : Hid (S15 + 1 ≤ w14.heap.size) := (by have := LS15.out; have := b14.size; omega : S15 + 1 ≤ w14.heap.size)
        have CS17 := CS17.trans (b14.mono LS17.out)
        have LS17 : Hid (S17 + 1 ≤ w14.heap.size) := (by have := LS17.out; have := b14.size; omega : S17 + 1 ≤ w14.heap.size)
        have CS19 := CS19.trans (b14.mono LS19.out)
        have LS19 : Hid (S19 + 1 ≤ w14.heap.size) := (by have := LS19.out; have := b14.size; omega : S19 + 1 ≤ w14.heap.size)
        have CS21 := CS21.trans (b14.mono LS21.out)
        have LS21 : Hid (S21 + 1 ≤ w14.heap.size) := (by have := LS21.out; have := b14.size; omega : S21 + 1 ≤ w14.heap.size)
        obtain ⟨n9, t9⟩ := HS17.out w14 CS17
        obtain ⟨y0, y1, y2, y3, y4, y5, _⟩ := n9.cells
        obtain ⟨m9, u9⟩ := HY.out w14 CY
        obtain ⟨z0, z1, z2, z3, z4, z5, _⟩ := m9.cells
        have cs := rsame_any _ u x true _ _ w14 t9 u9 (Nat.le_refl _) (by omega) (by simp [HUX.out])
        clear n9 t9 m9 u9
        go_wp2_with fail
        refine cs.mono ?_
        rintro e9 w15 ⟨rfl, b15⟩
        clear cs y0 y1 y2 y3 y4 y5 z0 z1 z2 z3 z4 z5
        go_wp2_with fail
        go_ret
        exact ⟨rfl, Hb.out.trans ((CX.trans (b15.mono LX.out)).mono (by omega))⟩
end Go.Proofs.Ytmaijbeghemkbaa
