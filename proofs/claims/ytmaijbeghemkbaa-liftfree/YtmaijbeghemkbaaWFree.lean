/- What was lifted from a place on by one does not use that, and may be in one more. -/
import Derived.Deep.DeepCutAuto
import Derived.Deep.CutBlock
import Derived.Test.YtmaijbeghemkbaaYLh
import Derived.Test.YtmaijbeghemkbaaYLgC
import Derived.Test.YtmaijbeghemkbaaYLgW
import Derived.Test.YtmaijbeghemkbaaYLfD
namespace Go.Proofs.Ytmaijbeghemkbaa
open Go.RowKit
set_option linter.unusedVariables false
set_option linter.unusedSimpArgs false

theorem lAllF : LAll := fun s hs N => lf_any hs N
theorem shr_u64 (q e : Nat) (hq : q < 16777216) : Op.shift .shr .u32 (q : Int) .u64 (e : Int) = pure (.int .u32 ((q / 2 ^ e : Nat) : Int)) := by
  have h32 : q / 2 ^ 32 = 0 := Nat.div_eq_of_lt (by omega)
  have key : ∀ m : Nat, Int.fdiv (q : Int) (2 ^ m) = ((q / 2 ^ m : Nat) : Int) := fun m => by
    rw [Int.fdiv_eq_ediv_of_nonneg _ (Int.pow_nonneg (by decide))]
    simp
  have e1 : q / 2 ^ (min e 32) = q / 2 ^ e := by
    rcases Nat.le_total e 32 with h | h
    · rw [Nat.min_eq_left h]
    · rw [Nat.min_eq_right h, h32]
      exact (Nat.div_eq_of_lt (Nat.lt_of_lt_of_le (show q < 2 ^ 32 by omega) (Nat.pow_le_pow_right (by decide) h))).symm
  rw [← e1, ← key]
  simp [Op.shift, IntKind.bits]
  omega
theorem wrapI (x : Int) (h1 : 0 ≤ x) (h2 : x ≤ 1000000) : IntKind.i64.wrap x = x := by simp [IntKind.wrap, IntKind.bits, IntKind.signed]; omega
theorem wrapU (x : Nat) (h : x < 24) : IntKind.u64.wrap (x : Int) = (x : Int) := by simp [IntKind.wrap, IntKind.bits, IntKind.signed]; omega
set_option maxRecDepth 100000 in
set_option maxHeartbeats 8000000 in
theorem walk_LiftFree (t : Tm) (v0 : Value) (V : Int) (hwV : (Lit.int .i64 V).wf = true) (d : Int) (hwd : (Lit.int .i64 d).wf = true) (p : Int) (hwp : (Lit.int .i64 p).wf = true) (w : World) (hv0 : TmIn Tt w t v0) :
    Calls Try.prog 5 #[v0, .int .i64 V, .int .i64 d, .int .i64 p] w fun e w' => e = .returned (.bool true) ∧ Below w.heap.size w w' := by
  obtain ⟨ra0, rc0, ka0, kc0, sa0, sc0, rfl, ht⟩ := hv0.form
  have hpI : I64 p := by
    have h := hwp
    simp [Lit.wf, IntKind.min, IntKind.max, IntKind.bits, IntKind.signed] at h
    unfold I64
    omega
  obtain ⟨w1, hw1⟩ : ∃ W, W = w.alloc (.cells #[.int .i64 t.kind, .int .i64 t.n, .string t.name, .slice ra0 t.r.length rc0, .slice ka0 t.kids.length kc0, .slice sa0 t.sys.length sc0] 26) := ⟨_, rfl⟩
  have b1 : Below w.heap.size w w1 := by rw [hw1]; exact belowA _ _
  obtain ⟨X, hX⟩ : ∃ X, X = w.heap.size := ⟨_, rfl⟩
  have s1 : w1.heap.size = X + 1 := by rw [hw1, hX]; simp
  have n0 : Six w1 X (.int .i64 t.kind) (.int .i64 t.n) (.string t.name) (.slice ra0 t.r.length rc0) (.slice ka0 t.kids.length kc0) (.slice sa0 t.sys.length sc0) := ⟨by rw [hw1, hX]; exact heapNew _ _⟩
  have H0 : Hid (∀ W, Below (X + 1) w1 W → Six W X (.int .i64 t.kind) (.int .i64 t.n) (.string t.name) (.slice ra0 t.r.length rc0) (.slice ka0 t.kids.length kc0) (.slice sa0 t.sys.length sc0) ∧ TmIn Tt W t (.agg #[.int .i64 t.kind, .int .i64 t.n, .string t.name, .slice ra0 t.r.length rc0, .slice ka0 t.kids.length kc0, .slice sa0 t.sys.length sc0])) := fun W q => ⟨n0.blw (by rw [s1]; exact q), ((ht.blw b1).blw (by rw [s1]; exact q)).value⟩
  have Hb : Hid (Below X w w1) := by rw [hX]; exact b1
  have HXx : Hid (X = w.heap.size) := hX
  have Hs1 : Hid (w1.heap.size = X + 1) := s1
  have HW : Hid (_ = _) := hw1
  have hLA := lAllF
  obtain ⟨c0, hc0⟩ := bool_of (blk t ≤ 400 ∧ rightN V d t = 0 ∧ 0 ≤ p ∧ V ≤ 1000 ∧ d < 24)
  have Hc0 : Hid (_ ↔ _) := hc0
  clear hw1 hX s1 hv0 ht n0 b1 hc0
  rw [← HXx.out]
  go_enter Try.func5, Try.ntmps5
  go_upto_region 1 with fail
  rw [← HW.out]
  simp only [← HXx.out]
  clear HW
  have cw := works11_any hLA w1
  go_wp2_with fail
  refine cw.mono ?_
  rintro e w2 ⟨rfl, b2⟩
  clear cw
  rw [Hs1.out] at b2
  go_upto_region 3 with fail
  go_cut [36] (fun s wx => s = .bool (!c0) ∧ Below (X + 1) w2 wx)
  case first => as_aux_lemma =>
    have hs2 : X + 1 ≤ w2.heap.size := by have := b2.size; have := Hs1.out; omega
    obtain ⟨n0, t0⟩ := H0.out w2 b2
    obtain ⟨y0, y1, y2, y3, y4, y5, _⟩ := n0.cells
    have cg := great11_any t _ w2 t0
    by_cases hg : 400 < blk t
    · rw [decide_eq_true hg] at cg
      have hz : c0 = false := by rw [Bool.eq_false_iff]; intro h; have := (Hc0.out.1 h).1; omega
      clear n0 t0
      go_wp2_with fail
      refine cg.mono ?_
      rintro e w3 ⟨rfl, b3⟩
      clear cg y0 y1 y2 y3 y4 y5
      go_wp2_with fail
      go_meet
      exact ⟨by rw [hz]; rfl, b3.mono hs2⟩
    · rw [decide_eq_false hg] at cg
      clear n0 t0
      go_wp2_with fail
      refine cg.mono ?_
      rintro e w3 ⟨rfl, b3⟩
      clear cg y0 y1 y2 y3 y4 y5
      have b23 : Below (X + 1) w2 w3 := b3.mono hs2
      have B3 := b2.trans b23
      obtain ⟨n0, t0⟩ := H0.out w3 B3
      obtain ⟨y0, y1, y2, y3, y4, y5, _⟩ := n0.cells
      have cf := rightT_any V d t _ w3 t0 (by omega)
      obtain ⟨F, hF⟩ : ∃ F, F = rightN V d t := ⟨_, rfl⟩
      rw [← hF] at cf
      have HF : Hid (F = rightN V d t) := hF
      clear n0 t0 hF
      go_wp2_with fail
      refine cf.mono ?_
      rintro e w4 ⟨rfl, b4⟩
      clear cf y0 y1 y2 y3 y4 y5
      have b24 : Below (X + 1) w2 w4 := b23.trans (b4.mono (Nat.le_trans hs2 b3.size))
      by_cases hF0 : F = 0
      · subst hF0
        by_cases h1 : p < 0
        · have d1 : decide (p < 0) = true := by simpa using h1
          have hz : c0 = false := by rw [Bool.eq_false_iff]; intro h; have := (Hc0.out.1 h).2.2; omega
          go_wp2_with fail
          go_meet
          exact ⟨by rw [hz]; rfl, b24⟩
        · have d1 : decide (p < 0) = false := by simpa using h1
          by_cases h2 : 1000 < V
          · have d2 : decide (1000 < V) = true := by simpa using h2
            have hz : c0 = false := by rw [Bool.eq_false_iff]; intro h; have := (Hc0.out.1 h).2.2; omega
            go_wp2_with fail
            go_meet
            exact ⟨by rw [hz]; rfl, b24⟩
          · have d2 : decide (1000 < V) = false := by simpa using h2
            by_cases h3 : 24 ≤ d
            · have d3 : decide (24 ≤ d) = true := by simpa using h3
              have hz : c0 = false := by rw [Bool.eq_false_iff]; intro h; have := (Hc0.out.1 h).2.2; omega
              go_wp2_with fail
              go_meet
              exact ⟨by rw [hz]; rfl, b24⟩
            · have d3 : decide (24 ≤ d) = false := by simpa using h3
              have hz : c0 = true := Hc0.out.2 ⟨by omega, HF.out.symm, by omega, by omega, by omega⟩
              go_wp2_with fail
              go_meet
              exact ⟨by rw [hz]; rfl, b24⟩
      · have hz : c0 = false := by rw [Bool.eq_false_iff]; intro h; have := (Hc0.out.1 h).2.1; rw [← HF.out] at this; exact hF0 this
        have hF1 : ((F : Int) == 0) = false := by simp; omega
        have hF2 : ¬ (F : Int) = 0 := by omega
        have hF3 : ((F : Int) != 0) = true := by simp; omega
        go_wp2_with fail
        go_meet
        exact ⟨by rw [hz]; rfl, b24⟩
  case rest =>
  obtain ⟨rfl, b3⟩ := hcut
  obtain ⟨w3, hw3⟩ : ∃ W, W = wc := ⟨_, rfl⟩
  subst hw3
  have B3 := b2.trans b3
  clear b2 b3
  cases c0 with
  | false =>
    go_wp2_with fail
    go_ret
    exact ⟨rfl, Hb.out.trans (B3.mono (by omega))⟩
  | true =>
    obtain ⟨hblk, hrt, hp0, hV, hd⟩ := Hc0.out.1 rfl
    have FF := free_facts hblk hrt hp0 hV hd
    obtain ⟨hV0, hd0, _, _, _⟩ := right_parts hrt
    have kx : blk (varsT p 1 t) ≤ 400 := Nat.le_trans (blk_ap _ _ _) hblk
    have ky : blk (dimsT p 1 t) ≤ 400 := Nat.le_trans (blk_ap _ _ _) hblk
    have hbnb := bn_blk _ t (Nat.le_refl _)
    obtain ⟨x, hx⟩ : ∃ x, x = varsT p 1 t := ⟨_, rfl⟩
    obtain ⟨E1, hE1⟩ : ∃ x, x = varsE p 1 t := ⟨_, rfl⟩
    obtain ⟨y, hy⟩ : ∃ x, x = dimsT p 1 t := ⟨_, rfl⟩
    obtain ⟨E2, hE2⟩ : ∃ x, x = dimsE p 1 t := ⟨_, rfl⟩
    have Q1 : Hid (varsE p 1 t = E1 ∧ varsT p 1 t = x) := ⟨hE1.symm, hx.symm⟩
    have Q2 : Hid (dimsE p 1 t = E2 ∧ dimsT p 1 t = y) := ⟨hE2.symm, hy.symm⟩
    rw [← hx, ← hE1, ← hy, ← hE2] at FF
    rw [← hx] at kx
    rw [← hy] at ky
    have HFF : Hid (_ ∧ _) := FF
    obtain ⟨⟨hz1, _, _, _⟩, _⟩ := FF
    have wr1 : IntKind.i64.wrap (V + 1) = V + 1 := wrapI _ (by omega) (by omega)
    have wr2 : wrap64 (d + 1) = d + 1 := wrap_small _ (by omega) (by omega)
    have hbn4 : bnT t ≤ 400 := by omega
    clear hx hE1 hy hE2 hrt Hc0 hbnb
    have CX : Below (X + 1) w1 w3 := B3
    have LX : Hid (X + 1 ≤ w3.heap.size) := (by have := B3.size; have := Hs1.out; omega : X + 1 ≤ w3.heap.size)
    have HX := H0
    clear B3
    obtain ⟨n9, t9⟩ := HX.out w3 CX
    obtain ⟨y0, y1, y2, y3, y4, y5, _⟩ := n9.cells
    have cc := lvars_any hLA t _ w3 t9 (by omega) p 1 hpI
    rw [Q1.out.1, Q1.out.2] at cc
    clear n9 t9
    go_wp2_with fail
    refine cc.mono ?_
    rintro e9 w4a ⟨v9, rfl, hv9, b9⟩
    clear cc y0 y1 y2 y3 y4 y5
    obtain ⟨ra1, rc1, ka1, kc1, sa1, sc1, rfl, ht9⟩ := hv9.form
    obtain ⟨S9, hS9⟩ : ∃ s, s = w4a.heap.size := ⟨_, rfl⟩
    obtain ⟨w4, hw9⟩ : ∃ W, W = w4a.alloc (.cells #[.int .i64 x.kind, .int .i64 x.n, .string x.name, .slice ra1 x.r.length rc1, .slice ka1 x.kids.length kc1, .slice sa1 x.sys.length sc1] 26) := ⟨_, rfl⟩
    have ba9 : Below w4a.heap.size w4a w4 := by rw [hw9]; exact belowA _ _
    have sz9 : w4.heap.size = S9 + 1 := by rw [hw9, hS9]; simp
    have n9 : Six w4 S9 (.int .i64 x.kind) (.int .i64 x.n) (.string x.name) (.slice ra1 x.r.length rc1) (.slice ka1 x.kids.length kc1) (.slice sa1 x.sys.length sc1) := ⟨by rw [hw9, hS9]; exact heapNew _ _⟩
    have HS9 : Hid (∀ W, Below (S9 + 1) w4 W → Six W S9 (.int .i64 x.kind) (.int .i64 x.n) (.string x.name) (.slice ra1 x.r.length rc1) (.slice ka1 x.kids.length kc1) (.slice sa1 x.sys.length sc1) ∧ TmIn Tt W x (.agg #[.int .i64 x.kind, .int .i64 x.n, .string x.name, .slice ra1 x.r.length rc1, .slice ka1 x.kids.length kc1, .slice sa1 x.sys.length sc1])) := fun W q => by
      have q2 : Below w4.heap.size w4 W := by rw [sz9]; exact q
      exact ⟨n9.blw q2, (((ht9.blw ba9).up fun _ _ => trivial).blw q2).value⟩
    have bn : Below w3.heap.size w3 w4 := bchain b9 ba9
    have bz := b9.size
    have HXS : Hid (X + 1 ≤ S9) := (by have := LX.out; omega : X + 1 ≤ S9)
    have CX := CX.trans (bn.mono LX.out)
    have LX : Hid (X + 1 ≤ w4.heap.size) := (by have := LX.out; omega : X + 1 ≤ w4.heap.size)
    have CS9 : Below (S9 + 1) w4 w4 := Below.refl _ _
    have LS9 : Hid (S9 + 1 ≤ w4.heap.size) := (by omega : S9 + 1 ≤ w4.heap.size)
    have EqS : Hid (S9 = w4a.heap.size) := hS9
    have Hwn : Hid (_ = _) := hw9
    clear hS9 hw9 ba9 sz9 n9 ht9 hv9 b9 bn bz
    go_upto_region 6 with fail
    rw [← Hwn.out]
    simp only [← EqS.out]
    clear Hwn EqS
    replace hz1 := hz1
    subst hz1
    have hne := cw_any w4
    obtain ⟨S, hS⟩ : ∃ S, S = sizeT t := ⟨_, rfl⟩
    have HL4 : Hid (X + 1 ≤ w4.heap.size ∧ S9 + 1 ≤ w4.heap.size) := ⟨LX.out, LS9.out⟩
    have gX := fun q : Cw w4 => HX.out q.1 (CX.trans (q.2.mono HL4.out.1))
    have gS := fun q : Cw w4 => HS9.out q.1 (CS9.trans (q.2.mono HL4.out.2))
    have a0 : ∀ q : Cw w4, q.1.cell? ⟨X, 0, none⟩ = some (.int .i64 t.kind) := fun q => (gX q).1.cells.1
    have a1 : ∀ q : Cw w4, q.1.cell? ⟨X, 1, none⟩ = some (.int .i64 t.n) := fun q => (gX q).1.cells.2.1
    have a2 : ∀ q : Cw w4, q.1.cell? ⟨X, 2, none⟩ = some (.string t.name) := fun q => (gX q).1.cells.2.2.1
    have a3 : ∀ q : Cw w4, q.1.cell? ⟨X, 3, none⟩ = some (.slice ra0 t.r.length rc0) := fun q => (gX q).1.cells.2.2.2.1
    have a4 : ∀ q : Cw w4, q.1.cell? ⟨X, 4, none⟩ = some (.slice ka0 t.kids.length kc0) := fun q => (gX q).1.cells.2.2.2.2.1
    have a5 : ∀ q : Cw w4, q.1.cell? ⟨X, 5, none⟩ = some (.slice sa0 t.sys.length sc0) := fun q => (gX q).1.cells.2.2.2.2.2.1
    have b0 : ∀ q : Cw w4, q.1.cell? ⟨S9, 0, none⟩ = some (.int .i64 x.kind) := fun q => (gS q).1.cells.1
    have b1 : ∀ q : Cw w4, q.1.cell? ⟨S9, 1, none⟩ = some (.int .i64 x.n) := fun q => (gS q).1.cells.2.1
    have b2 : ∀ q : Cw w4, q.1.cell? ⟨S9, 2, none⟩ = some (.string x.name) := fun q => (gS q).1.cells.2.2.1
    have b3 : ∀ q : Cw w4, q.1.cell? ⟨S9, 3, none⟩ = some (.slice ra1 x.r.length rc1) := fun q => (gS q).1.cells.2.2.2.1
    have b4 : ∀ q : Cw w4, q.1.cell? ⟨S9, 4, none⟩ = some (.slice ka1 x.kids.length kc1) := fun q => (gS q).1.cells.2.2.2.2.1
    have b5 : ∀ q : Cw w4, q.1.cell? ⟨S9, 5, none⟩ = some (.slice sa1 x.sys.length sc1) := fun q => (gS q).1.cells.2.2.2.2.2.1
    have r1 : Hid (∀ q : Cw w4, Calls Try.prog 25 #[.agg #[.int .i64 x.kind, .int .i64 x.n, .string x.name, .slice ra1 x.r.length rc1, .slice ka1 x.kids.length kc1, .slice sa1 x.sys.length sc1], .int .i64 p] q.1 fun e w' => e = .returned (.bool false) ∧ ∃ q' : Cw w4, w' = q'.1) := fun q => cw_call q (by have := usesT_any p x _ q.1 (gS q).2 (by omega); rw [HFF.out.1.2.1] at this; exact this)
    have r2 : Hid (∀ q : Cw w4, Calls Try.prog 24 #[.agg #[.int .i64 x.kind, .int .i64 x.n, .string x.name, .slice ra1 x.r.length rc1, .slice ka1 x.kids.length kc1, .slice sa1 x.sys.length sc1], .int .i64 (V + 1), .int .i64 d] q.1 fun e w' => e = .returned (.int .i64 0) ∧ ∃ q' : Cw w4, w' = q'.1) := fun q => cw_call q (by have := rightT_any (V + 1) d x _ q.1 (gS q).2 (by omega); rw [HFF.out.1.2.2.1] at this; exact this)
    have r3 : Hid (∀ q : Cw w4, Calls Try.prog 10 #[.agg #[.int .i64 x.kind, .int .i64 x.n, .string x.name, .slice ra1 x.r.length rc1, .slice ka1 x.kids.length kc1, .slice sa1 x.sys.length sc1]] q.1 fun e w' => e = .returned (.int .i64 (S : Int)) ∧ ∃ q' : Cw w4, w' = q'.1) := fun q => cw_call q (by rw [hS, ← HFF.out.1.2.2.2]; exact size_any x _ q.1 (gS q).2 (by omega))
    have r4 : Hid (∀ q : Cw w4, Calls Try.prog 10 #[.agg #[.int .i64 t.kind, .int .i64 t.n, .string t.name, .slice ra0 t.r.length rc0, .slice ka0 t.kids.length kc0, .slice sa0 t.sys.length sc0]] q.1 fun e w' => e = .returned (.int .i64 (S : Int)) ∧ ∃ q' : Cw w4, w' = q'.1) := fun q => cw_call q (by rw [hS]; exact size_any t _ q.1 (gX q).2 (by omega))
    clear hS gX gS
    refine wp_region_cw (by kernel_rfl) (by kernel_rfl) ?_
    repeat (first | go_big_quiet_step (fail) | quiet_step (fail))
    first | go_big_quiet_step (exact r1.out _) | quiet_step (exact r1.out _)
    repeat (first | go_big_quiet_step (fail) | quiet_step (fail))
    first | go_big_quiet_step (exact r2.out _) | quiet_step (exact r2.out _)
    repeat (first | go_big_quiet_step (fail) | quiet_step (fail))
    first | go_big_quiet_step (exact r3.out _) | quiet_step (exact r3.out _)
    repeat (first | go_big_quiet_step (fail) | quiet_step (fail))
    first | go_big_quiet_step (exact r4.out _) | quiet_step (exact r4.out _)
    repeat (first | go_big_quiet_step (fail) | quiet_step (fail))
    refine wpQuiet_nil ?_
    rintro _ ⟨q9, rfl⟩
    obtain ⟨w5, b5⟩ := q9
    dsimp only
    clear hne a0 a1 a2 a3 a4 a5 b0 b1 b2 b3 b4 r1 r2 r3 r4 HL4
    have CX := CX.trans (b5.mono LX.out)
    have LX : Hid (X + 1 ≤ w5.heap.size) := (by have := LX.out; have := b5.size; omega : X + 1 ≤ w5.heap.size)
    have CS9 := CS9.trans (b5.mono LS9.out)
    have LS9 : Hid (S9 + 1 ≤ w5.heap.size) := (by have := LS9.out; have := b5.size; omega : S9 + 1 ≤ w5.heap.size)
    clear b5
    go_upto_region 8 with fail
    obtain ⟨n9, t9⟩ := HX.out w5 CX
    obtain ⟨y0, y1, y2, y3, y4, y5, _⟩ := n9.cells
    have cc := ldims_any hLA t _ w5 t9 (by omega) p 1 hpI
    rw [Q2.out.1, Q2.out.2] at cc
    clear n9 t9
    go_wp2_with fail
    refine cc.mono ?_
    rintro e9 w6a ⟨v9, rfl, hv9, b9⟩
    clear cc y0 y1 y2 y3 y4 y5
    obtain ⟨ra2, rc2, ka2, kc2, sa2, sc2, rfl, ht9⟩ := hv9.form
    obtain ⟨S11, hS9⟩ : ∃ s, s = w6a.heap.size := ⟨_, rfl⟩
    obtain ⟨w6, hw9⟩ : ∃ W, W = w6a.alloc (.cells #[.int .i64 y.kind, .int .i64 y.n, .string y.name, .slice ra2 y.r.length rc2, .slice ka2 y.kids.length kc2, .slice sa2 y.sys.length sc2] 26) := ⟨_, rfl⟩
    have ba9 : Below w6a.heap.size w6a w6 := by rw [hw9]; exact belowA _ _
    have sz9 : w6.heap.size = S11 + 1 := by rw [hw9, hS9]; simp
    have n9 : Six w6 S11 (.int .i64 y.kind) (.int .i64 y.n) (.string y.name) (.slice ra2 y.r.length rc2) (.slice ka2 y.kids.length kc2) (.slice sa2 y.sys.length sc2) := ⟨by rw [hw9, hS9]; exact heapNew _ _⟩
    have HS11 : Hid (∀ W, Below (S11 + 1) w6 W → Six W S11 (.int .i64 y.kind) (.int .i64 y.n) (.string y.name) (.slice ra2 y.r.length rc2) (.slice ka2 y.kids.length kc2) (.slice sa2 y.sys.length sc2) ∧ TmIn Tt W y (.agg #[.int .i64 y.kind, .int .i64 y.n, .string y.name, .slice ra2 y.r.length rc2, .slice ka2 y.kids.length kc2, .slice sa2 y.sys.length sc2])) := fun W q => by
      have q2 : Below w6.heap.size w6 W := by rw [sz9]; exact q
      exact ⟨n9.blw q2, (((ht9.blw ba9).up fun _ _ => trivial).blw q2).value⟩
    have bn : Below w5.heap.size w5 w6 := bchain b9 ba9
    have bz := b9.size
    have CX := CX.trans (bn.mono LX.out)
    have LX : Hid (X + 1 ≤ w6.heap.size) := (by have := LX.out; omega : X + 1 ≤ w6.heap.size)
    have CS9 := CS9.trans (bn.mono LS9.out)
    have LS9 : Hid (S9 + 1 ≤ w6.heap.size) := (by have := LS9.out; omega : S9 + 1 ≤ w6.heap.size)
    have CS11 : Below (S11 + 1) w6 w6 := Below.refl _ _
    have LS11 : Hid (S11 + 1 ≤ w6.heap.size) := (by omega : S11 + 1 ≤ w6.heap.size)
    have EqS : Hid (S11 = w6a.heap.size) := hS9
    have Hwn : Hid (_ = _) := hw9
    clear hS9 hw9 ba9 sz9 n9 ht9 hv9 b9 bn bz
    go_upto_region 9 with fail
    rw [← Hwn.out]
    simp only [← EqS.out]
    clear Hwn EqS
    rcases HFF.out.2 with h10 | ⟨hz2, hbit, hrg⟩
    · subst h10
      go_wp2_with fail
      go_ret
      exact ⟨rfl, Hb.out.trans (CX.mono (by omega))⟩
    subst hz2
    go_upto_region 11 with fail
    go_cut [85] (fun s wx => s = .bool false ∧ Below w6.heap.size w6 wx)
    case first => as_aux_lemma =>
      by_cases hp24 : p < 24
      · obtain ⟨P, rfl⟩ := Int.eq_ofNat_of_zero_le hp0
        have hP : P < 24 := by omega
        have dP : decide ((P : Int) < 24) = true := by simpa using hp24
        obtain ⟨n9, t9⟩ := HS11.out w6 CS11
        obtain ⟨y0, y1, y2, y3, y4, y5, _⟩ := n9.cells
        have cd := dimsT_any y _ w6 t9 (by omega)
        have hb1 := hbit hp24
        have hlt := dm_lt24 y 0
        rw [Int.toNat_natCast] at hb1
        obtain ⟨Q, hQ⟩ : ∃ Q, Q = dmT y 0 := ⟨_, rfl⟩
        rw [← hQ] at cd hb1 hlt
        have hsh := shr_u64 Q P hlt
        have wu := wrapU P hP
        obtain ⟨Z, hZ⟩ : ∃ Z, Z = Q / 2 ^ P := ⟨_, rfl⟩
        rw [← hZ] at hsh hb1
        have hZl : Z < 4294967296 := by rw [hZ]; exact Nat.lt_of_le_of_lt (Nat.div_le_self _ _) (by omega)
        have hand : bits .and .u32 (Z : Int) 1 = 0 := by have := bits_and32 Z 1 hZl (by decide); rw [hb1] at this; exact this
        have hand2 : bits .and .u32 ((Q : Int) / 2 ^ P) 1 = 0 := by
          have e : (Z : Int) = (Q : Int) / 2 ^ P := by rw [hZ]; simp
          rw [← e]; exact hand
        clear n9 t9 hQ hZ hb1 hbit hlt hZl
        go_wp2_with fail
        refine cd.mono ?_
        rintro e9 w9 ⟨rfl, b9⟩
        clear cd y0 y1 y2 y3 y4 y5
        go_wp2_with fail
        go_meet
        exact ⟨rfl, b9⟩
      · have dP : decide (p < 24) = false := by simpa using hp24
        go_wp2_with fail
        go_meet
        exact ⟨rfl, Below.refl _ _⟩
    case rest =>
    obtain ⟨rfl, b7⟩ := hcut
    obtain ⟨w7, hw7⟩ : ∃ W, W = wc := ⟨_, rfl⟩
    subst hw7
    have CX := CX.trans (b7.mono LX.out)
    have LX : Hid (X + 1 ≤ w7.heap.size) := (by have := LX.out; have := b7.size; omega : X + 1 ≤ w7.heap.size)
    have CS9 := CS9.trans (b7.mono LS9.out)
    have LS9 : Hid (S9 + 1 ≤ w7.heap.size) := (by have := LS9.out; have := b7.size; omega : S9 + 1 ≤ w7.heap.size)
    have CS11 := CS11.trans (b7.mono LS11.out)
    have LS11 : Hid (S11 + 1 ≤ w7.heap.size) := (by have := LS11.out; have := b7.size; omega : S11 + 1 ≤ w7.heap.size)
    clear b7 hbit
    obtain ⟨n9, t9⟩ := HS11.out w7 CS11
    obtain ⟨y0, y1, y2, y3, y4, y5, _⟩ := n9.cells
    have cr := rightT_any V (d + 1) y _ w7 t9 (by omega)
    obtain ⟨G, hG⟩ : ∃ G, G = rightN V (d + 1) y := ⟨_, rfl⟩
    rw [← hG] at cr hrg
    clear n9 t9 hG
    go_wp2_with fail
    refine cr.mono ?_
    rintro e9 w8 ⟨rfl, b8⟩
    clear cr y0 y1 y2 y3 y4 y5
    have CX := CX.trans (b8.mono LX.out)
    have LX : Hid (X + 1 ≤ w8.heap.size) := (by have := LX.out; have := b8.size; omega : X + 1 ≤ w8.heap.size)
    have CS9 := CS9.trans (b8.mono LS9.out)
    have LS9 : Hid (S9 + 1 ≤ w8.heap.size) := (by have := LS9.out; have := b8.size; omega : S9 + 1 ≤ w8.heap.size)
    have CS11 := CS11.trans (b8.mono LS11.out)
    have LS11 : Hid (S11 + 1 ≤ w8.heap.size) := (by have := LS11.out; have := b8.size; omega : S11 + 1 ≤ w8.heap.size)
    rcases hrg with hg0 | ⟨hg1, hge⟩
    · subst hg0
      go_wp2_with fail
      go_ret
      exact ⟨rfl, Hb.out.trans (CX.mono (by omega))⟩
    · subst hg1
      obtain ⟨n9, t9⟩ := HX.out w8 CX
      obtain ⟨y0, y1, y2, y3, y4, y5, _⟩ := n9.cells
      have cb := binders_any _ t _ w8 (Nat.le_refl _) (by omega) t9
      obtain ⟨B, hB⟩ : ∃ B, B = bnT t := ⟨_, rfl⟩
      rw [← hB] at cb hge hbn4
      have wr3 : wrap64 (d + (B : Int)) = d + (B : Int) := wrap_small _ (by omega) (by omega)
      have dge : decide (24 ≤ d + (B : Int)) = true := by simpa using hge
      clear n9 t9 hB
      go_wp2_with fail
      refine cb.mono ?_
      rintro e9 w9 ⟨rfl, b9⟩
      clear cb y0 y1 y2 y3 y4 y5
      go_wp2_with fail
      go_ret
      exact ⟨rfl, Hb.out.trans ((CX.trans (b9.mono LX.out)).mono (by omega))⟩
end Go.Proofs.Ytmaijbeghemkbaa
