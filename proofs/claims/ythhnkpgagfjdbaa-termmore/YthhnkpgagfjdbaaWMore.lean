/- A term that may be may be in more, and in no fewer than it uses. -/
import Derived.Test.YthhnkpgagfjdbaaYWorks
import Derived.Test.YthhnkpgagfjdbaaYBulk
import Derived.Test.YthhnkpgagfjdbaaYMoreM
import Derived.Test.YthhnkpgagfjdbaaYDims
namespace Go.Proofs.Ythhnkpgagfjdbaa
open Go.RowKit
set_option linter.unusedVariables false
set_option linter.unusedSimpArgs false

theorem more_at (m : Int) : ∃ K : Nat, K < 5 ∧ (IntKind.u64.wrap m).tmod 5 = (K : Int) := by
  have h0 : 0 ≤ IntKind.u64.wrap m := by
    simp [IntKind.wrap, IntKind.bits, IntKind.signed]
    omega
  generalize IntKind.u64.wrap m = x at h0
  have e : x.tmod 5 = x % 5 := Int.tmod_eq_emod_of_nonneg h0
  refine ⟨(x % 5).toNat, by omega, ?_⟩
  rw [e]
  omega
theorem bit_no {q i : Nat} (hq : q < 16777216) (hb : q.testBit i = false) : bits .and .u32 ((q / 2 ^ i : Nat) : Int) 1 = 0 := by
  have hle : q / 2 ^ i ≤ q := Nat.div_le_self _ _
  have e : (q / 2 ^ i) &&& 1 = 0 := by
    rw [Nat.and_one_is_mod]
    rw [Nat.testBit_eq_decide_div_mod_eq] at hb
    have := of_decide_eq_false hb
    omega
  have hm : bits .and .u32 ((q / 2 ^ i : Nat) : Int) ((1 : Nat) : Int) = (((q / 2 ^ i) &&& 1 : Nat) : Int) := bits_and32 _ _ (by omega) (by omega)
  rw [e] at hm
  exact hm
set_option maxRecDepth 100000 in
set_option maxHeartbeats 8000000 in
theorem walk_TermMore (t : Tm) (v : Value) (V : Int) (hV : (Lit.int .i64 V).wf = true) (d : Int) (hd : (Lit.int .i64 d).wf = true) (m : Int) (hm : (Lit.int .i64 m).wf = true) (w : World) (hv : TmIn Tt w t v) :
    Calls Try.prog 6 #[v, .int .i64 V, .int .i64 d, .int .i64 m] w fun e w' => e = .returned (.bool true) ∧ Below w.heap.size w w' := by
  obtain ⟨ra, rc, ka, kc, sa, sc, rfl, ht⟩ := hv.form
  obtain ⟨W, hW⟩ : ∃ W, W = w.alloc (.cells #[.int .i64 t.kind, .int .i64 t.n, .string t.name, .slice ra t.r.length rc, .slice ka t.kids.length kc, .slice sa t.sys.length sc] 26) := ⟨_, rfl⟩
  have bW : Below w.heap.size w W := by rw [hW]; exact belowA _ _
  have HC : Hid (Cs6 W w.heap.size 0 t ra rc ka kc sa sc) := by rw [hW]; exact cs6_new w t ra rc ka kc sa sc
  have HT : Hid (TmTop Tt W t ra rc ka kc sa sc) := ht.blw bW
  have cw := works_any W
  have H1 : Hid (_ = _) := hW
  clear hW hv ht
  go_enter Try.func6, Try.ntmps6
  go_upto_region 1 with fail
  rw [← H1.out]
  clear H1
  go_wp2_with fail
  refine cw.mono ?_
  rintro e w2 ⟨rfl, b2⟩
  clear cw
  obtain ⟨_, y0, y1, y2, y3, y4, y5⟩ := HC.out.blw (b2)
  simp only [Nat.zero_add] at y1 y2 y3 y4 y5
  have c1 := great_any t _ w2 (HT.out.blw b2).value
  by_cases hgt : 500 < blk t
  · rw [decide_eq_true hgt] at c1
    go_wp2_with fail
    refine c1.mono ?_
    rintro e w3 ⟨rfl, b3⟩
    clear c1
    clear y0 y1 y2 y3 y4 y5
    go_wp2_with fail
    go_ret
    exact ⟨rfl, bchain bW (bchain b2 b3)⟩
  · rw [decide_eq_false hgt] at c1
    by_cases hVk : 1000 < V
    · go_wp2_with fail
      refine c1.mono ?_
      rintro e w3 ⟨rfl, b3⟩
      clear c1
      clear y0 y1 y2 y3 y4 y5
      go_wp2_with fail
      go_ret
      exact ⟨rfl, bchain bW (bchain b2 b3)⟩
    · go_wp2_with fail
      refine c1.mono ?_
      rintro e w3 ⟨rfl, b3⟩
      clear c1
      clear y0 y1 y2 y3 y4 y5
      have b23 := bchain b2 b3
      obtain ⟨_, y0, y1, y2, y3, y4, y5⟩ := HC.out.blw (b23)
      simp only [Nat.zero_add] at y1 y2 y3 y4 y5
      have c2 := rightT_any V d t _ w3 (HT.out.blw b23).value (by omega)
      obtain ⟨a, ha⟩ : ∃ a, a = rightN V d t := ⟨_, rfl⟩
      rw [← ha] at c2
      have HA : Hid (a = rightN V d t) := ha
      clear ha
      go_wp2_with fail
      refine c2.mono ?_
      rintro e w4 ⟨rfl, b4⟩
      clear c2
      clear y0 y1 y2 y3 y4 y5
      have b24 := bchain b23 b4
      by_cases ha0 : a = 0
      · subst ha0
        have hr0 : rightN V d t = 0 := HA.out.symm
        obtain ⟨⟨hV0, hd0, hd1⟩, _, _⟩ := right_zero.1 hr0
        obtain ⟨K, hK5, hK⟩ := more_at m
        obtain ⟨D, rfl⟩ : ∃ D : Nat, d = D := ⟨d.toNat, by omega⟩
        have hwr : IntKind.i64.wrap (K : Int) = (K : Int) := by simp [IntKind.wrap, IntKind.bits, IntKind.signed]; omega
        have Hf : Hid (wrongN true 0 0 t = 0) := more_formed hr0
        have Hv : Hid (rightN (V + (K : Int)) D t = 0) := more_vars hr0 (by omega)
        have Hu : Hid (usT (V + (K : Int)) t 0 = false) := more_us hr0 (by omega)
        have HD : Hid (∀ i : Nat, D ≤ i → (dmT t 0).testBit i = false) := fun i hi => more_dim hr0 (by omega)
        have HL : Hid (1 ≤ V → rightN (V - 1) D t = if usT (V - 1) t 0 = true then 100 else 0) := fun h => more_less hr0 h
        clear hr0
        obtain ⟨_, y0, y1, y2, y3, y4, y5⟩ := HC.out.blw (b24)
        simp only [Nat.zero_add] at y1 y2 y3 y4 y5
        have c3 := formed_any t _ w4 (HT.out.blw b24).value (by omega)
        rw [Hf.out] at c3
        go_wp2_with fail
        refine c3.mono ?_
        rintro e w5 ⟨rfl, b5⟩
        clear c3
        clear y0 y1 y2 y3 y4 y5
        have b25 := bchain b24 b5
        obtain ⟨_, y0, y1, y2, y3, y4, y5⟩ := HC.out.blw (b25)
        simp only [Nat.zero_add] at y1 y2 y3 y4 y5
        have c4 := rightT_any (V + (K : Int)) D t _ w5 (HT.out.blw b25).value (by omega)
        rw [Hv.out] at c4
        go_wp2_with fail
        refine c4.mono ?_
        rintro e w6 ⟨rfl, b6⟩
        clear c4
        clear y0 y1 y2 y3 y4 y5
        have b26 := bchain b25 b6
        obtain ⟨_, y0, y1, y2, y3, y4, y5⟩ := HC.out.blw (b26)
        simp only [Nat.zero_add] at y1 y2 y3 y4 y5
        have c5 := usesT_any (V + (K : Int)) t _ w6 (HT.out.blw b26).value (by omega)
        rw [Hu.out] at c5
        go_wp2_with fail
        refine c5.mono ?_
        rintro e w7 ⟨rfl, b7⟩
        clear c5 hK hwr
        clear y0 y1 y2 y3 y4 y5
        have b27 := bchain b26 b7
        go_wp2_with fail
        go_loopw [11] (fun i wr => ∃ k : Nat, i = .int .i64 k ∧ D ≤ k ∧ k ≤ 24 ∧ Below w7.heap.size w7 wr) (fun i _ => 24 - (intOf i).toNat)
        case atStart => exact ⟨D, rfl, Nat.le_refl _, by omega, Below.refl _ _⟩
        case round =>
          obtain ⟨wo, hwo⟩ : ∃ wo, wo = wr := ⟨_, rfl⟩
          subst hwo
          obtain ⟨k, rfl, hk1, hk2, hBr⟩ := hrel
          have b2o := bchain b27 hBr
          by_cases hlt : k < 24
          · have hkI : (k : Int) < 24 := by omega
            obtain ⟨_, y0, y1, y2, y3, y4, y5⟩ := HC.out.blw (b2o)
            simp only [Nat.zero_add] at y1 y2 y3 y4 y5
            have c6 := dimsT_any t _ wo (HT.out.blw b2o).value (by omega)
            have HB : Hid (_ = false) := HD.out k hk1
            have hXl := dm_lt t
            obtain ⟨X, hX⟩ : ∃ X, X = dmT t 0 := ⟨_, rfl⟩
            rw [← hX] at c6 HB hXl
            clear hX
            have han := bit_no hXl HB.out
            rw [show ((X / 2 ^ k : Nat) : Int) = (X : Int) / 2 ^ k by simp] at han
            have han2 : (bits .and .u32 ((X : Int) / 2 ^ k) 1 == 1) = false := by rw [han]; rfl
            clear HB
            go_wp2_with fail
            refine c6.mono ?_
            rintro e w8 ⟨rfl, b8⟩
            clear c6
            clear y0 y1 y2 y3 y4 y5
            go_wp2_with fail
            go_roundw
            case rel => exact ⟨k + 1, by go_num, by omega, by omega, bchain hBr b8⟩
            case measure => simp [intOf]; omega
          · have hkI : ¬ (k : Int) < 24 := by omega
            have halo := bchain bW b2o
            have hne := cw_any wo
            have y0 : ∀ x : Cw wo, x.1.cell? ⟨w.heap.size, 0, none⟩ = some (.int .i64 t.kind) := fun x => by have := (HC.out.blw (bchain b2o x.2)).c0; simpa only [Nat.zero_add] using this
            have y1 : ∀ x : Cw wo, x.1.cell? ⟨w.heap.size, 1, none⟩ = some (.int .i64 t.n) := fun x => by have := (HC.out.blw (bchain b2o x.2)).c1; simpa only [Nat.zero_add] using this
            have y2 : ∀ x : Cw wo, x.1.cell? ⟨w.heap.size, 2, none⟩ = some (.string t.name) := fun x => by have := (HC.out.blw (bchain b2o x.2)).c2; simpa only [Nat.zero_add] using this
            have y3 : ∀ x : Cw wo, x.1.cell? ⟨w.heap.size, 3, none⟩ = some (.slice ra t.r.length rc) := fun x => by have := (HC.out.blw (bchain b2o x.2)).c3; simpa only [Nat.zero_add] using this
            have y4 : ∀ x : Cw wo, x.1.cell? ⟨w.heap.size, 4, none⟩ = some (.slice ka t.kids.length kc) := fun x => by have := (HC.out.blw (bchain b2o x.2)).c4; simpa only [Nat.zero_add] using this
            have y5 : ∀ x : Cw wo, x.1.cell? ⟨w.heap.size, 5, none⟩ = some (.slice sa t.sys.length sc) := fun x => by have := (HC.out.blw (bchain b2o x.2)).c5; simpa only [Nat.zero_add] using this
            by_cases hVz : V = 0
            · subst hVz
              go_upto_region 16 with fail
              refine wp_region_cw (by kernel_rfl) (by kernel_rfl) ?_
              repeat (first | go_big_quiet_step (fail) | quiet_step (fail))
              refine wpQuiet_nil ?_
              rintro _ ⟨x, rfl⟩
              obtain ⟨w9, b9⟩ := x
              dsimp only
              clear hne y0 y1 y2 y3 y4 y5
              go_wp2_with fail
              go_ret
              exact ⟨rfl, bchain halo b9⟩
            · have hLL := HL.out (by omega)
              obtain ⟨V1, hV1⟩ : ∃ x, x = V - 1 := ⟨_, rfl⟩
              have hwr1 : IntKind.i64.wrap (V - 1) = V1 := by rw [hV1]; simp [IntKind.wrap, IntKind.bits, IntKind.signed]; omega
              rw [← hV1] at hLL
              have hz1 : decide (V = 0) = false := by simp; omega
              have hz2 : (V == 0) = false := by simp; omega
              clear hV1
              cases hu : usT V1 t 0 with
              | false =>
                rw [hu] at hLL
                simp only [if_true, Bool.false_eq_true, if_false] at hLL
                have r1 : Hid (∀ x : Cw wo, Calls Try.prog 24 #[.agg #[.int .i64 t.kind, .int .i64 t.n, .string t.name, .slice ra t.r.length rc, .slice ka t.kids.length kc, .slice sa t.sys.length sc], .int .i64 V1] x.1 fun e w' => e = .returned (.bool false) ∧ ∃ x' : Cw wo, w' = x'.1) := fun x => cw_call x (by rw [← hu]; exact usesT_any V1 t _ x.1 (HT.out.blw (bchain b2o x.2)).value (by omega))
                have r2 : Hid (∀ x : Cw wo, Calls Try.prog 11 #[.agg #[.int .i64 t.kind, .int .i64 t.n, .string t.name, .slice ra t.r.length rc, .slice ka t.kids.length kc, .slice sa t.sys.length sc], .int .i64 V1, .int .i64 (D : Int)] x.1 fun e w' => e = .returned (.int .i64 0) ∧ ∃ x' : Cw wo, w' = x'.1) := fun x => cw_call x (by have := rightT_any V1 D t _ x.1 (HT.out.blw (bchain b2o x.2)).value (by omega); rw [hLL] at this; exact this)
                clear hu hLL
                go_upto_region 16 with fail
                refine wp_region_cw (by kernel_rfl) (by kernel_rfl) ?_
                repeat (first | go_big_quiet_step (fail) | quiet_step (fail))
                first | go_big_quiet_step (exact r1.out _) | quiet_step (exact r1.out _)
                repeat (first | go_big_quiet_step (fail) | quiet_step (fail))
                first | go_big_quiet_step (exact r2.out _) | quiet_step (exact r2.out _)
                repeat (first | go_big_quiet_step (fail) | quiet_step (fail))
                refine wpQuiet_nil ?_
                rintro _ ⟨x, rfl⟩
                obtain ⟨w9, b9⟩ := x
                dsimp only
                clear hne y0 y1 y2 y3 y4 y5
                clear r1 r2
                go_wp2_with fail
                go_ret
                exact ⟨rfl, bchain halo b9⟩
              | true =>
                rw [hu] at hLL
                simp only [if_true, Bool.false_eq_true, if_false] at hLL
                have r1 : Hid (∀ x : Cw wo, Calls Try.prog 24 #[.agg #[.int .i64 t.kind, .int .i64 t.n, .string t.name, .slice ra t.r.length rc, .slice ka t.kids.length kc, .slice sa t.sys.length sc], .int .i64 V1] x.1 fun e w' => e = .returned (.bool true) ∧ ∃ x' : Cw wo, w' = x'.1) := fun x => cw_call x (by rw [← hu]; exact usesT_any V1 t _ x.1 (HT.out.blw (bchain b2o x.2)).value (by omega))
                have r2 : Hid (∀ x : Cw wo, Calls Try.prog 11 #[.agg #[.int .i64 t.kind, .int .i64 t.n, .string t.name, .slice ra t.r.length rc, .slice ka t.kids.length kc, .slice sa t.sys.length sc], .int .i64 V1, .int .i64 (D : Int)] x.1 fun e w' => e = .returned (.int .i64 100) ∧ ∃ x' : Cw wo, w' = x'.1) := fun x => cw_call x (by have := rightT_any V1 D t _ x.1 (HT.out.blw (bchain b2o x.2)).value (by omega); rw [hLL] at this; exact this)
                clear hu hLL
                go_upto_region 16 with fail
                refine wp_region_cw (by kernel_rfl) (by kernel_rfl) ?_
                repeat (first | go_big_quiet_step (fail) | quiet_step (fail))
                first | go_big_quiet_step (exact r1.out _) | quiet_step (exact r1.out _)
                repeat (first | go_big_quiet_step (fail) | quiet_step (fail))
                first | go_big_quiet_step (exact r2.out _) | quiet_step (exact r2.out _)
                repeat (first | go_big_quiet_step (fail) | quiet_step (fail))
                refine wpQuiet_nil ?_
                rintro _ ⟨x, rfl⟩
                obtain ⟨w9, b9⟩ := x
                dsimp only
                clear hne y0 y1 y2 y3 y4 y5
                clear r1 r2
                go_wp2_with fail
                go_ret
                exact ⟨rfl, bchain halo b9⟩
      · have ha1 : ¬ (a : Int) = 0 := by omega
        go_wp2_with fail
        go_ret
        exact ⟨rfl, bchain bW b24⟩
end Go.Proofs.Ythhnkpgagfjdbaa
