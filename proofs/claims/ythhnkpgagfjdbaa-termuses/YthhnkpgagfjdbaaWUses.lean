/- Which variables and dimensions a term has is as the document has it. -/
import Derived.Test.YthhnkpgagfjdbaaYRRight
import Derived.Test.YthhnkpgagfjdbaaYRUses
import Derived.Test.YthhnkpgagfjdbaaYRDim
import Derived.Test.YthhnkpgagfjdbaaYDims
import Derived.Test.YthhnkpgagfjdbaaYWorks
import Derived.Test.YthhnkpgagfjdbaaYBulk
namespace Go.Proofs.Ythhnkpgagfjdbaa
open Go.RowKit
set_option linter.unusedVariables false
set_option linter.unusedSimpArgs false

set_option maxRecDepth 100000 in
set_option maxHeartbeats 8000000 in
theorem walk_TermUses (t : Tm) (v : Value) (n : Int) (hn : (Lit.int .i64 n).wf = true) (w : World) (hv : TmIn Tt w t v) :
    Calls Try.prog 5 #[v, .int .i64 n] w fun e w' => e = .returned (.bool true) ∧ Below w.heap.size w w' := by
  have hVi : I64 n := by
    simp [Lit.wf, IntKind.min, IntKind.max, IntKind.bits, IntKind.signed] at hn
    exact hn
  obtain ⟨ra, rc, ka, kc, sa, sc, rfl, ht⟩ := hv.form
  obtain ⟨W, hW⟩ : ∃ W, W = w.alloc (.cells #[.int .i64 t.kind, .int .i64 t.n, .string t.name, .slice ra t.r.length rc, .slice ka t.kids.length kc, .slice sa t.sys.length sc] 26) := ⟨_, rfl⟩
  have bW : Below w.heap.size w W := by rw [hW]; exact belowA _ _
  have HC : Hid (Cs6 W w.heap.size 0 t ra rc ka kc sa sc) := by rw [hW]; exact cs6_new w t ra rc ka kc sa sc
  have HT : Hid (TmTop Tt W t ra rc ka kc sa sc) := ht.blw bW
  have H1 : Hid (_ = _) := hW
  clear hW hv ht
  go_enter Try.func5, Try.ntmps5
  go_upto_region 1 with fail
  rw [← H1.out]
  clear H1
  obtain ⟨_, y0, y1, y2, y3, y4, y5⟩ := HC.out.blw (Below.refl _ _)
  simp only [Nat.zero_add] at y1 y2 y3 y4 y5
  have c1 := great_any t _ W HT.out.value
  by_cases hgt : 500 < blk t
  · rw [decide_eq_true hgt] at c1
    go_wp2_with fail
    refine c1.mono ?_
    rintro e w3 ⟨rfl, b3⟩
    clear c1
    clear y0 y1 y2 y3 y4 y5
    have cw := works_any w3
    go_wp2_with fail
    refine cw.mono ?_
    rintro e w4 ⟨rfl, b4⟩
    clear cw
    go_wp2_with fail
    go_ret
    exact ⟨rfl, bchain bW (bchain b3 b4)⟩
  · rw [decide_eq_false hgt] at c1
    go_wp2_with fail
    refine c1.mono ?_
    rintro e w3 ⟨rfl, b3⟩
    clear c1
    clear y0 y1 y2 y3 y4 y5
    obtain ⟨_, y0, y1, y2, y3, y4, y5⟩ := HC.out.blw (b3)
    simp only [Nat.zero_add] at y1 y2 y3 y4 y5
    have c2 := rFormed_any t _ w3 (HT.out.blw b3).value (by omega)
    obtain ⟨f, hf⟩ : ∃ f, f = wrongN true 0 0 t := ⟨_, rfl⟩
    rw [← hf] at c2
    clear hf
    go_wp2_with fail
    refine c2.mono ?_
    rintro e wo ⟨rfl, b4⟩
    clear c2
    clear y0 y1 y2 y3 y4 y5
    have b2o := bchain b3 b4
    by_cases hf0 : f = 0
    · subst hf0
      have hne := cw_any wo
      have y0 : ∀ x : Cw wo, x.1.cell? ⟨w.heap.size, 0, none⟩ = some (.int .i64 t.kind) := fun x => by have := (HC.out.blw (bchain b2o x.2)).c0; simpa only [Nat.zero_add] using this
      have y1 : ∀ x : Cw wo, x.1.cell? ⟨w.heap.size, 1, none⟩ = some (.int .i64 t.n) := fun x => by have := (HC.out.blw (bchain b2o x.2)).c1; simpa only [Nat.zero_add] using this
      have y2 : ∀ x : Cw wo, x.1.cell? ⟨w.heap.size, 2, none⟩ = some (.string t.name) := fun x => by have := (HC.out.blw (bchain b2o x.2)).c2; simpa only [Nat.zero_add] using this
      have y3 : ∀ x : Cw wo, x.1.cell? ⟨w.heap.size, 3, none⟩ = some (.slice ra t.r.length rc) := fun x => by have := (HC.out.blw (bchain b2o x.2)).c3; simpa only [Nat.zero_add] using this
      have y4 : ∀ x : Cw wo, x.1.cell? ⟨w.heap.size, 4, none⟩ = some (.slice ka t.kids.length kc) := fun x => by have := (HC.out.blw (bchain b2o x.2)).c4; simpa only [Nat.zero_add] using this
      have y5 : ∀ x : Cw wo, x.1.cell? ⟨w.heap.size, 5, none⟩ = some (.slice sa t.sys.length sc) := fun x => by have := (HC.out.blw (bchain b2o x.2)).c5; simpa only [Nat.zero_add] using this
      obtain ⟨a, ha⟩ : ∃ a, a = usT n t 0 := ⟨_, rfl⟩
      obtain ⟨D, hD⟩ : ∃ f, f = dmT t 0 := ⟨_, rfl⟩
      have hUR : URel n 0 n := ⟨hVi, (by omega : (n < 0 ∧ (n < 0 ∨ 9223372036854775807 < n + ((0 : Nat) : Int))) ∨ (0 ≤ n ∧ 0 ≤ n ∧ n = n + ((0 : Nat) : Int)))⟩
      have r1 : Hid (∀ x : Cw wo, Calls Try.prog 24 #[.agg #[.int .i64 t.kind, .int .i64 t.n, .string t.name, .slice ra t.r.length rc, .slice ka t.kids.length kc, .slice sa t.sys.length sc], .int .i64 n] x.1 fun e w' => e = .returned (.bool a) ∧ ∃ x' : Cw wo, w' = x'.1) := fun x => cw_call x (by rw [ha]; exact usesT_any n t _ x.1 (HT.out.blw (bchain b2o x.2)).value (by omega))
      have r2 : Hid (∀ x : Cw wo, Calls Try.prog 25 #[.agg #[.int .i64 t.kind, .int .i64 t.n, .string t.name, .slice ra t.r.length rc, .slice ka t.kids.length kc, .slice sa t.sys.length sc], .int .i64 n] x.1 fun e w' => e = .returned (.bool a) ∧ ∃ x' : Cw wo, w' = x'.1) := fun x => cw_call x (by rw [ha]; exact ruses_any (blk t) n t _ 0 n x.1 (Nat.le_refl _) (by omega) hUR (HT.out.blw (bchain b2o x.2)).value)
      have r3 : Hid (∀ x : Cw wo, Calls Try.prog 26 #[.agg #[.int .i64 t.kind, .int .i64 t.n, .string t.name, .slice ra t.r.length rc, .slice ka t.kids.length kc, .slice sa t.sys.length sc]] x.1 fun e w' => e = .returned (.int .u32 (D : Int)) ∧ ∃ x' : Cw wo, w' = x'.1) := fun x => cw_call x (by rw [hD]; exact dimsT_any t _ x.1 (HT.out.blw (bchain b2o x.2)).value (by omega))
      have r4 : Hid (∀ x : Cw wo, Calls Try.prog 27 #[.agg #[.int .i64 t.kind, .int .i64 t.n, .string t.name, .slice ra t.r.length rc, .slice ka t.kids.length kc, .slice sa t.sys.length sc]] x.1 fun e w' => e = .returned (.int .u32 (D : Int)) ∧ ∃ x' : Cw wo, w' = x'.1) := fun x => cw_call x (by rw [hD]; exact rDimT_any t _ x.1 (HT.out.blw (bchain b2o x.2)).value (by omega))
      have r5 : Hid (∀ x : Cw wo, Calls Try.prog 10 #[] x.1 fun e w' => e = .returned (.bool true) ∧ ∃ x' : Cw wo, w' = x'.1) := fun x => cw_call x (by exact works_any x.1)
      clear ha hD hUR
      cases a with
      | false =>
        go_upto_region 3 with fail
        refine wp_region_cw (by kernel_rfl) (by kernel_rfl) ?_
        repeat (first | go_big_quiet_step (fail) | quiet_step (fail))
        first | go_big_quiet_step (exact r1.out _) | quiet_step (exact r1.out _)
        repeat (first | go_big_quiet_step (fail) | quiet_step (fail))
        first | go_big_quiet_step (exact r2.out _) | quiet_step (exact r2.out _)
        repeat (first | go_big_quiet_step (fail) | quiet_step (fail))
        first | go_big_quiet_step (exact r3.out _) | quiet_step (exact r3.out _)
        repeat (first | go_big_quiet_step (fail) | quiet_step (fail))
        first | go_big_quiet_step (exact r4.out _) | quiet_step (exact r4.out _)
        repeat (first | go_big_quiet_step (fail) | quiet_step (fail))
        first | go_big_quiet_step (exact r5.out _) | quiet_step (exact r5.out _)
        repeat (first | go_big_quiet_step (fail) | quiet_step (fail))
        refine wpQuiet_nil ?_
        rintro _ ⟨x, rfl⟩
        obtain ⟨w9, b9⟩ := x
        dsimp only
        clear hne y0 y1 y2 y3 y4 y5 r1 r2 r3 r4 r5
        go_wp2_with fail
        go_ret
        exact ⟨rfl, bchain bW (bchain b2o b9)⟩
      | true =>
        go_upto_region 3 with fail
        refine wp_region_cw (by kernel_rfl) (by kernel_rfl) ?_
        repeat (first | go_big_quiet_step (fail) | quiet_step (fail))
        first | go_big_quiet_step (exact r1.out _) | quiet_step (exact r1.out _)
        repeat (first | go_big_quiet_step (fail) | quiet_step (fail))
        first | go_big_quiet_step (exact r2.out _) | quiet_step (exact r2.out _)
        repeat (first | go_big_quiet_step (fail) | quiet_step (fail))
        first | go_big_quiet_step (exact r3.out _) | quiet_step (exact r3.out _)
        repeat (first | go_big_quiet_step (fail) | quiet_step (fail))
        first | go_big_quiet_step (exact r4.out _) | quiet_step (exact r4.out _)
        repeat (first | go_big_quiet_step (fail) | quiet_step (fail))
        first | go_big_quiet_step (exact r5.out _) | quiet_step (exact r5.out _)
        repeat (first | go_big_quiet_step (fail) | quiet_step (fail))
        refine wpQuiet_nil ?_
        rintro _ ⟨x, rfl⟩
        obtain ⟨w9, b9⟩ := x
        dsimp only
        clear hne y0 y1 y2 y3 y4 y5 r1 r2 r3 r4 r5
        go_wp2_with fail
        go_ret
        exact ⟨rfl, bchain bW (bchain b2o b9)⟩
    · have hfI : ¬ (f : Int) = 0 := by omega
      have cw := works_any wo
      go_wp2_with fail
      refine cw.mono ?_
      rintro e w4 ⟨rfl, b5⟩
      clear cw
      go_wp2_with fail
      go_ret
      exact ⟨rfl, bchain bW (bchain b2o b5)⟩
end Go.Proofs.Ythhnkpgagfjdbaa
