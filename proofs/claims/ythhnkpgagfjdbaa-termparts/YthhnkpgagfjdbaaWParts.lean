/- A term that is formed has parts that are formed. -/
import Derived.Test.YthhnkpgagfjdbaaYWorks
import Derived.Test.YthhnkpgagfjdbaaYBulk
import Derived.Test.YthhnkpgagfjdbaaYPairM
namespace Go.Proofs.Ythhnkpgagfjdbaa
open Go.RowKit
set_option linter.unusedVariables false
set_option linter.unusedSimpArgs false

theorem pair_in (w : World) (t u : Tm) (ra : Option Addr) (rc : Nat) (ka : Option Addr) (kc : Nat) (sa : Option Addr) (sc : Nat) (ra' : Option Addr) (rc' : Nat) (ka' : Option Addr) (kc' : Nat) (sa' : Option Addr) (sc' : Nat) (g : Nat)
    (h : w.heap[g]? = some (.cells #[.int .i64 t.kind, .int .i64 t.n, .string t.name, .slice ra t.r.length rc, .slice ka t.kids.length kc, .slice sa t.sys.length sc, .int .i64 u.kind, .int .i64 u.n, .string u.name, .slice ra' u.r.length rc', .slice ka' u.kids.length kc', .slice sa' u.sys.length sc'] 26 (0, 0)))
    (ht : TmTop Tt w t ra rc ka kc sa sc) (hu : TmTop Tt w u ra' rc' ka' kc' sa' sc') : TmIn Tt w (tP t u) (.agg #[.int .i64 8, .int .i64 0, .string ⟨#[]⟩, .slice none 0 0, .slice (some ⟨g, 0, none⟩) 2 2, .slice none 0 0]) := by
  refine .mk _ _ _ _ _ _ _ _ _ ⟨by decide, by decide⟩ ⟨by decide, by decide⟩ (cl_nil0 w) ⟨_, _, rfl, Nat.le_refl _, fun j x hx => ?_⟩ (sy_nil0 w)
  have hj : j = 0 ∨ j = 1 := by have := some_lt hx; simp at this; omega
  rcases hj with rfl | rfl
  · simp only [List.getElem?_cons_zero, Option.some.injEq] at hx
    subst hx
    refine ⟨g, 0, _, _, _, _, _, _, rfl, trivial, (Array.getElem?_eq_some_iff.1 h).1, ht.value, ?_, ?_, ?_, ?_, ?_, ?_⟩ <;> (unfold World.cell?; simp [h])
  · simp only [List.getElem?_cons_succ, List.getElem?_cons_zero, Option.some.injEq] at hx
    subst hx
    refine ⟨g, 0, _, _, _, _, _, _, rfl, trivial, (Array.getElem?_eq_some_iff.1 h).1, hu.value, ?_, ?_, ?_, ?_, ?_, ?_⟩ <;> (unfold World.cell?; simp [h])
set_option maxRecDepth 100000 in
set_option maxHeartbeats 8000000 in
theorem walk_TermParts (t : Tm) (v : Value) (u : Tm) (v' : Value) (V : Int) (hV : (Lit.int .i64 V).wf = true) (d : Int) (hd : (Lit.int .i64 d).wf = true) (w : World) (hv : TmIn Tt w t v) (hv' : TmIn Tt w u v') :
    Calls Try.prog 7 #[v, v', .int .i64 V, .int .i64 d] w fun e w' => e = .returned (.bool true) ∧ Below w.heap.size w w' := by
  obtain ⟨ra, rc, ka, kc, sa, sc, rfl, ht⟩ := hv.form
  obtain ⟨ra', rc', ka', kc', sa', sc', rfl, ht'⟩ := hv'.form
  obtain ⟨W, hW, bW, c6, c6'⟩ := boxT2 w t u ra rc ka kc sa sc ra' rc' ka' kc' sa' sc'
  have tW := ht.blw bW
  have uW := ht'.blw bW
  have HC : Hid (Cs6 W w.heap.size 0 t ra rc ka kc sa sc) := c6
  have HC' : Hid (Cs6 W (w.heap.size + 1) 0 u ra' rc' ka' kc' sa' sc') := c6'
  have HT : Hid (TmTop Tt W t ra rc ka kc sa sc) := tW
  have HU : Hid (TmTop Tt W u ra' rc' ka' kc' sa' sc') := uW
  have cw := works_any W
  have H1 : Hid (_ = _) := hW
  clear hW hv hv' ht ht' c6 c6' tW uW
  go_enter Try.func7, Try.ntmps7
  go_upto_region 1 with fail
  rw [← H1.out]
  clear H1
  go_wp2_with fail
  refine cw.mono ?_
  rintro e w2 ⟨rfl, b2⟩
  clear cw
  obtain ⟨_, y0, y1, y2, y3, y4, y5⟩ := HC.out.blw b2
  obtain ⟨_, z0, z1, z2, z3, z4, z5⟩ := HC'.out.blw b2
  simp only [Nat.zero_add] at y1 y2 y3 y4 y5 z1 z2 z3 z4 z5
  have c1 := great_any t _ w2 (HT.out.blw b2).value
  go_wp2_with fail
  refine c1.mono ?_
  rintro e w3 ⟨rfl, b3⟩
  have b23 := bchain b2 b3
  clear c1 y0 y1 y2 y3 y4 y5 z0 z1 z2 z3 z4 z5
  obtain ⟨_, y0, y1, y2, y3, y4, y5⟩ := HC.out.blw b23
  obtain ⟨_, z0, z1, z2, z3, z4, z5⟩ := HC'.out.blw b23
  simp only [Nat.zero_add] at y1 y2 y3 y4 y5 z1 z2 z3 z4 z5
  by_cases hgt : 500 < blk t
  · rw [decide_eq_true hgt]
    go_wp2_with fail
    go_ret
    exact ⟨rfl, bchain bW b23⟩
  · rw [decide_eq_false hgt]
    have c2 := great_any u _ w3 (HU.out.blw b23).value
    go_wp2_with fail
    refine c2.mono ?_
    rintro e w4 ⟨rfl, b4⟩
    have b24 := bchain b23 b4
    clear c2 y0 y1 y2 y3 y4 y5 z0 z1 z2 z3 z4 z5
    by_cases hgu : 500 < blk u
    · rw [decide_eq_true hgu]
      go_wp2_with fail
      go_ret
      exact ⟨rfl, bchain bW b24⟩
    · rw [decide_eq_false hgu]
      obtain ⟨_, y0, y1, y2, y3, y4, y5⟩ := HC.out.blw b24
      obtain ⟨_, z0, z1, z2, z3, z4, z5⟩ := HC'.out.blw b24
      simp only [Nat.zero_add] at y1 y2 y3 y4 y5 z1 z2 z3 z4 z5
      obtain ⟨w5, hw5⟩ : ∃ w5, w5 = (w4.alloc (.cells #[.int .i64 t.kind, .int .i64 t.n, .string t.name, .slice ra t.r.length rc, .slice ka t.kids.length kc, .slice sa t.sys.length sc, .int .i64 u.kind, .int .i64 u.n, .string u.name, .slice ra' u.r.length rc', .slice ka' u.kids.length kc', .slice sa' u.sys.length sc'] 26)).alloc (.cells #[.int .i64 8, .int .i64 0, .string ⟨#[]⟩, .slice none 0 0, .slice (some ⟨w4.heap.size, 0, none⟩) 2 2, .slice none 0 0] 26) := ⟨_, rfl⟩
      have b5 : Below w4.heap.size w4 w5 := by rw [hw5]; exact bchain (belowA _ _) (belowA _ _)
      have m1 : w5.heap[w4.heap.size]? = some (.cells #[.int .i64 t.kind, .int .i64 t.n, .string t.name, .slice ra t.r.length rc, .slice ka t.kids.length kc, .slice sa t.sys.length sc, .int .i64 u.kind, .int .i64 u.n, .string u.name, .slice ra' u.r.length rc', .slice ka' u.kids.length kc', .slice sa' u.sys.length sc'] 26 (0, 0)) := by rw [hw5]; exact (Below.heap_alloc _ _ _ (by simp)).trans (heapNew w4 _)
      have HP : Hid (Six w5 (w4.heap.size + 1) (.int .i64 8) (.int .i64 0) (.string ⟨#[]⟩) (.slice none 0 0) (.slice (some ⟨w4.heap.size, 0, none⟩) 2 2) (.slice none 0 0)) := ⟨by rw [hw5]; have := heapNew (w4.alloc (.cells #[.int .i64 t.kind, .int .i64 t.n, .string t.name, .slice ra t.r.length rc, .slice ka t.kids.length kc, .slice sa t.sys.length sc, .int .i64 u.kind, .int .i64 u.n, .string u.name, .slice ra' u.r.length rc', .slice ka' u.kids.length kc', .slice sa' u.sys.length sc'] 26)) (.cells #[.int .i64 8, .int .i64 0, .string ⟨#[]⟩, .slice none 0 0, .slice (some ⟨w4.heap.size, 0, none⟩) 2 2, .slice none 0 0] 26); rwa [World.size_alloc] at this⟩
      have b25 := bchain b24 b5
      have HI : Hid (TmIn Tt w5 (tP t u) (.agg #[.int .i64 8, .int .i64 0, .string ⟨#[]⟩, .slice none 0 0, .slice (some ⟨w4.heap.size, 0, none⟩) 2 2, .slice none 0 0])) := pair_in w5 t u ra rc ka kc sa sc ra' rc' ka' kc' sa' sc' _ m1 (HT.out.blw b25) (HU.out.blw b25)
      have hbp := blk_tP t u
      have H5 : Hid (_ = _) := hw5
      have hal := bchain bW b25
      go_upto_region 6 with fail
      rw [← H5.out]
      clear hw5 H5 m1 y0 y1 y2 y3 y4 y5 z0 z1 z2 z3 z4 z5
      obtain ⟨a, ha⟩ : ∃ a, a = rightN V d t := ⟨_, rfl⟩
      obtain ⟨b, hb⟩ : ∃ b, b = rightN V d u := ⟨_, rfl⟩
      obtain ⟨c, hc⟩ : ∃ c, c = rightN V d (tP t u) := ⟨_, rfl⟩
      have hne := cw_any w5
      have HAB : Hid (c ≠ 62 → c ≠ 2 → (c = 0 ↔ a = 0 ∧ b = 0)) := fun h1 h2 => by rw [ha, hb, hc] at *; exact right_tP V d t u h1 h2
      have b55 : Below w5.heap.size w5 w5 := Below.refl _ _
      have y0 : ∀ x : Cw w5, x.1.cell? ⟨w.heap.size, 0, none⟩ = some (.int .i64 t.kind) := fun x => by have := (HC.out.blw (bchain b25 (bchain b55 x.2))).c0; simpa only [Nat.zero_add] using this
      have y1 : ∀ x : Cw w5, x.1.cell? ⟨w.heap.size, 1, none⟩ = some (.int .i64 t.n) := fun x => by have := (HC.out.blw (bchain b25 (bchain b55 x.2))).c1; simpa only [Nat.zero_add] using this
      have y2 : ∀ x : Cw w5, x.1.cell? ⟨w.heap.size, 2, none⟩ = some (.string t.name) := fun x => by have := (HC.out.blw (bchain b25 (bchain b55 x.2))).c2; simpa only [Nat.zero_add] using this
      have y3 : ∀ x : Cw w5, x.1.cell? ⟨w.heap.size, 3, none⟩ = some (.slice ra t.r.length rc) := fun x => by have := (HC.out.blw (bchain b25 (bchain b55 x.2))).c3; simpa only [Nat.zero_add] using this
      have y4 : ∀ x : Cw w5, x.1.cell? ⟨w.heap.size, 4, none⟩ = some (.slice ka t.kids.length kc) := fun x => by have := (HC.out.blw (bchain b25 (bchain b55 x.2))).c4; simpa only [Nat.zero_add] using this
      have y5 : ∀ x : Cw w5, x.1.cell? ⟨w.heap.size, 5, none⟩ = some (.slice sa t.sys.length sc) := fun x => by have := (HC.out.blw (bchain b25 (bchain b55 x.2))).c5; simpa only [Nat.zero_add] using this
      have z0 : ∀ x : Cw w5, x.1.cell? ⟨w.heap.size + 1, 0, none⟩ = some (.int .i64 u.kind) := fun x => by have := (HC'.out.blw (bchain b25 (bchain b55 x.2))).c0; simpa only [Nat.zero_add] using this
      have z1 : ∀ x : Cw w5, x.1.cell? ⟨w.heap.size + 1, 1, none⟩ = some (.int .i64 u.n) := fun x => by have := (HC'.out.blw (bchain b25 (bchain b55 x.2))).c1; simpa only [Nat.zero_add] using this
      have z2 : ∀ x : Cw w5, x.1.cell? ⟨w.heap.size + 1, 2, none⟩ = some (.string u.name) := fun x => by have := (HC'.out.blw (bchain b25 (bchain b55 x.2))).c2; simpa only [Nat.zero_add] using this
      have z3 : ∀ x : Cw w5, x.1.cell? ⟨w.heap.size + 1, 3, none⟩ = some (.slice ra' u.r.length rc') := fun x => by have := (HC'.out.blw (bchain b25 (bchain b55 x.2))).c3; simpa only [Nat.zero_add] using this
      have z4 : ∀ x : Cw w5, x.1.cell? ⟨w.heap.size + 1, 4, none⟩ = some (.slice ka' u.kids.length kc') := fun x => by have := (HC'.out.blw (bchain b25 (bchain b55 x.2))).c4; simpa only [Nat.zero_add] using this
      have z5 : ∀ x : Cw w5, x.1.cell? ⟨w.heap.size + 1, 5, none⟩ = some (.slice sa' u.sys.length sc') := fun x => by have := (HC'.out.blw (bchain b25 (bchain b55 x.2))).c5; simpa only [Nat.zero_add] using this
      have p0 : ∀ x : Cw w5, x.1.cell? ⟨w4.heap.size + 1, 0, none⟩ = some (.int .i64 8) := fun x => (HP.out.blw (bchain b55 x.2)).cells.1
      have p1 : ∀ x : Cw w5, x.1.cell? ⟨w4.heap.size + 1, 1, none⟩ = some (.int .i64 0) := fun x => (HP.out.blw (bchain b55 x.2)).cells.2.1
      have p2 : ∀ x : Cw w5, x.1.cell? ⟨w4.heap.size + 1, 2, none⟩ = some (.string ⟨#[]⟩) := fun x => (HP.out.blw (bchain b55 x.2)).cells.2.2.1
      have p3 : ∀ x : Cw w5, x.1.cell? ⟨w4.heap.size + 1, 3, none⟩ = some (.slice none 0 0) := fun x => (HP.out.blw (bchain b55 x.2)).cells.2.2.2.1
      have p4 : ∀ x : Cw w5, x.1.cell? ⟨w4.heap.size + 1, 4, none⟩ = some (.slice (some ⟨w4.heap.size, 0, none⟩) 2 2) := fun x => (HP.out.blw (bchain b55 x.2)).cells.2.2.2.2.1
      have p5 : ∀ x : Cw w5, x.1.cell? ⟨w4.heap.size + 1, 5, none⟩ = some (.slice none 0 0) := fun x => (HP.out.blw (bchain b55 x.2)).cells.2.2.2.2.2.1
      have r1 : Hid (∀ x : Cw w5, Calls Try.prog 11 #[.agg #[.int .i64 t.kind, .int .i64 t.n, .string t.name, .slice ra t.r.length rc, .slice ka t.kids.length kc, .slice sa t.sys.length sc], .int .i64 V, .int .i64 d] x.1 fun e w' => e = .returned (.int .i64 (a : Int)) ∧ ∃ x' : Cw w5, w' = x'.1) := fun x => cw_call x (by rw [ha]; exact rightT_any V d t _ x.1 (HT.out.blw (bchain b25 x.2)).value (by omega))
      have r2 : Hid (∀ x : Cw w5, Calls Try.prog 11 #[.agg #[.int .i64 u.kind, .int .i64 u.n, .string u.name, .slice ra' u.r.length rc', .slice ka' u.kids.length kc', .slice sa' u.sys.length sc'], .int .i64 V, .int .i64 d] x.1 fun e w' => e = .returned (.int .i64 (b : Int)) ∧ ∃ x' : Cw w5, w' = x'.1) := fun x => cw_call x (by rw [hb]; exact rightT_any V d u _ x.1 (HU.out.blw (bchain b25 x.2)).value (by omega))
      have r3 : Hid (∀ x : Cw w5, Calls Try.prog 11 #[.agg #[.int .i64 8, .int .i64 0, .string ⟨#[]⟩, .slice none 0 0, .slice (some ⟨w4.heap.size, 0, none⟩) 2 2, .slice none 0 0], .int .i64 V, .int .i64 d] x.1 fun e w' => e = .returned (.int .i64 (c : Int)) ∧ ∃ x' : Cw w5, w' = x'.1) := fun x => cw_call x (by rw [hc]; exact rightT_any V d (tP t u) _ x.1 (HI.out.blw x.2) (by omega))
      clear ha hb hc
      refine wp_region_cw (by kernel_rfl) (by kernel_rfl) ?_
      repeat (first | go_big_quiet_step (fail) | quiet_step (fail))
      first | go_big_quiet_step (exact r1.out _) | quiet_step (exact r1.out _)
      repeat (first | go_big_quiet_step (fail) | quiet_step (fail))
      first | go_big_quiet_step (exact r2.out _) | quiet_step (exact r2.out _)
      repeat (first | go_big_quiet_step (fail) | quiet_step (fail))
      first | go_big_quiet_step (exact r3.out _) | quiet_step (exact r3.out _)
      repeat (first | go_big_quiet_step (fail) | quiet_step (fail))
      refine wpQuiet_nil ?_
      rintro _ ⟨x, rfl⟩
      obtain ⟨w6, b6⟩ := x
      dsimp only
      clear r1 r2 r3 hne
      clear y0 y1 y2 y3 y4 y5 z0 z1 z2 z3 z4 z5 p0 p1 p2 p3 p4 p5
      have hne := cw_any w6
      obtain ⟨sT, hsT⟩ : ∃ s, s = sizeT t := ⟨_, rfl⟩
      obtain ⟨sU, hsU⟩ : ∃ s, s = sizeT u := ⟨_, rfl⟩
      obtain ⟨dT, hdT⟩ : ∃ s, s = depthT t := ⟨_, rfl⟩
      obtain ⟨dU, hdU⟩ : ∃ s, s = depthT u := ⟨_, rfl⟩
      have hs1 := size_tP t u
      have hs2 := depth_tP t u
      have hs3 := size_blk t
      have hs4 := size_blk u
      have hs5 := depth_size t
      have hs6 := depth_size u
      rw [← hsT, ← hsU] at hs1
      rw [← hdT, ← hdU] at hs2
      rw [← hsT] at hs3 hs5
      rw [← hsU] at hs4 hs6
      rw [← hdT] at hs5
      rw [← hdU] at hs6
      have y0 : ∀ x : Cw w6, x.1.cell? ⟨w.heap.size, 0, none⟩ = some (.int .i64 t.kind) := fun x => by have := (HC.out.blw (bchain b25 (bchain b6 x.2))).c0; simpa only [Nat.zero_add] using this
      have y1 : ∀ x : Cw w6, x.1.cell? ⟨w.heap.size, 1, none⟩ = some (.int .i64 t.n) := fun x => by have := (HC.out.blw (bchain b25 (bchain b6 x.2))).c1; simpa only [Nat.zero_add] using this
      have y2 : ∀ x : Cw w6, x.1.cell? ⟨w.heap.size, 2, none⟩ = some (.string t.name) := fun x => by have := (HC.out.blw (bchain b25 (bchain b6 x.2))).c2; simpa only [Nat.zero_add] using this
      have y3 : ∀ x : Cw w6, x.1.cell? ⟨w.heap.size, 3, none⟩ = some (.slice ra t.r.length rc) := fun x => by have := (HC.out.blw (bchain b25 (bchain b6 x.2))).c3; simpa only [Nat.zero_add] using this
      have y4 : ∀ x : Cw w6, x.1.cell? ⟨w.heap.size, 4, none⟩ = some (.slice ka t.kids.length kc) := fun x => by have := (HC.out.blw (bchain b25 (bchain b6 x.2))).c4; simpa only [Nat.zero_add] using this
      have y5 : ∀ x : Cw w6, x.1.cell? ⟨w.heap.size, 5, none⟩ = some (.slice sa t.sys.length sc) := fun x => by have := (HC.out.blw (bchain b25 (bchain b6 x.2))).c5; simpa only [Nat.zero_add] using this
      have z0 : ∀ x : Cw w6, x.1.cell? ⟨w.heap.size + 1, 0, none⟩ = some (.int .i64 u.kind) := fun x => by have := (HC'.out.blw (bchain b25 (bchain b6 x.2))).c0; simpa only [Nat.zero_add] using this
      have z1 : ∀ x : Cw w6, x.1.cell? ⟨w.heap.size + 1, 1, none⟩ = some (.int .i64 u.n) := fun x => by have := (HC'.out.blw (bchain b25 (bchain b6 x.2))).c1; simpa only [Nat.zero_add] using this
      have z2 : ∀ x : Cw w6, x.1.cell? ⟨w.heap.size + 1, 2, none⟩ = some (.string u.name) := fun x => by have := (HC'.out.blw (bchain b25 (bchain b6 x.2))).c2; simpa only [Nat.zero_add] using this
      have z3 : ∀ x : Cw w6, x.1.cell? ⟨w.heap.size + 1, 3, none⟩ = some (.slice ra' u.r.length rc') := fun x => by have := (HC'.out.blw (bchain b25 (bchain b6 x.2))).c3; simpa only [Nat.zero_add] using this
      have z4 : ∀ x : Cw w6, x.1.cell? ⟨w.heap.size + 1, 4, none⟩ = some (.slice ka' u.kids.length kc') := fun x => by have := (HC'.out.blw (bchain b25 (bchain b6 x.2))).c4; simpa only [Nat.zero_add] using this
      have z5 : ∀ x : Cw w6, x.1.cell? ⟨w.heap.size + 1, 5, none⟩ = some (.slice sa' u.sys.length sc') := fun x => by have := (HC'.out.blw (bchain b25 (bchain b6 x.2))).c5; simpa only [Nat.zero_add] using this
      have p0 : ∀ x : Cw w6, x.1.cell? ⟨w4.heap.size + 1, 0, none⟩ = some (.int .i64 8) := fun x => (HP.out.blw (bchain b6 x.2)).cells.1
      have p1 : ∀ x : Cw w6, x.1.cell? ⟨w4.heap.size + 1, 1, none⟩ = some (.int .i64 0) := fun x => (HP.out.blw (bchain b6 x.2)).cells.2.1
      have p2 : ∀ x : Cw w6, x.1.cell? ⟨w4.heap.size + 1, 2, none⟩ = some (.string ⟨#[]⟩) := fun x => (HP.out.blw (bchain b6 x.2)).cells.2.2.1
      have p3 : ∀ x : Cw w6, x.1.cell? ⟨w4.heap.size + 1, 3, none⟩ = some (.slice none 0 0) := fun x => (HP.out.blw (bchain b6 x.2)).cells.2.2.2.1
      have p4 : ∀ x : Cw w6, x.1.cell? ⟨w4.heap.size + 1, 4, none⟩ = some (.slice (some ⟨w4.heap.size, 0, none⟩) 2 2) := fun x => (HP.out.blw (bchain b6 x.2)).cells.2.2.2.2.1
      have p5 : ∀ x : Cw w6, x.1.cell? ⟨w4.heap.size + 1, 5, none⟩ = some (.slice none 0 0) := fun x => (HP.out.blw (bchain b6 x.2)).cells.2.2.2.2.2.1
      have r1 : Hid (∀ x : Cw w6, Calls Try.prog 17 #[.agg #[.int .i64 8, .int .i64 0, .string ⟨#[]⟩, .slice none 0 0, .slice (some ⟨w4.heap.size, 0, none⟩) 2 2, .slice none 0 0]] x.1 fun e w' => e = .returned (.int .i64 (1 + (sT : Int) + (sU : Int))) ∧ ∃ x' : Cw w6, w' = x'.1) := fun x => cw_call x (by rw [show (1 + (sT : Int) + (sU : Int)) = ((sizeT (tP t u) : Nat) : Int) by omega]; exact size_any (tP t u) _ x.1 (HI.out.blw (bchain b6 x.2)) (by omega))
      have r2 : Hid (∀ x : Cw w6, Calls Try.prog 17 #[.agg #[.int .i64 t.kind, .int .i64 t.n, .string t.name, .slice ra t.r.length rc, .slice ka t.kids.length kc, .slice sa t.sys.length sc]] x.1 fun e w' => e = .returned (.int .i64 (sT : Int)) ∧ ∃ x' : Cw w6, w' = x'.1) := fun x => cw_call x (by rw [hsT]; exact size_any t _ x.1 (HT.out.blw (bchain b25 (bchain b6 x.2))).value (by omega))
      have r3 : Hid (∀ x : Cw w6, Calls Try.prog 17 #[.agg #[.int .i64 u.kind, .int .i64 u.n, .string u.name, .slice ra' u.r.length rc', .slice ka' u.kids.length kc', .slice sa' u.sys.length sc']] x.1 fun e w' => e = .returned (.int .i64 (sU : Int)) ∧ ∃ x' : Cw w6, w' = x'.1) := fun x => cw_call x (by rw [hsU]; exact size_any u _ x.1 (HU.out.blw (bchain b25 (bchain b6 x.2))).value (by omega))
      have r4 : Hid (∀ x : Cw w6, Calls Try.prog 19 #[.agg #[.int .i64 8, .int .i64 0, .string ⟨#[]⟩, .slice none 0 0, .slice (some ⟨w4.heap.size, 0, none⟩) 2 2, .slice none 0 0]] x.1 fun e w' => e = .returned (.int .i64 (1 + max (dT : Int) (dU : Int))) ∧ ∃ x' : Cw w6, w' = x'.1) := fun x => cw_call x (by rw [show (1 + max (dT : Int) (dU : Int)) = ((depthT (tP t u) : Nat) : Int) by omega]; exact depth_any (tP t u) _ x.1 (HI.out.blw (bchain b6 x.2)) (by omega))
      have r5 : Hid (∀ x : Cw w6, Calls Try.prog 19 #[.agg #[.int .i64 t.kind, .int .i64 t.n, .string t.name, .slice ra t.r.length rc, .slice ka t.kids.length kc, .slice sa t.sys.length sc]] x.1 fun e w' => e = .returned (.int .i64 (dT : Int)) ∧ ∃ x' : Cw w6, w' = x'.1) := fun x => cw_call x (by rw [hdT]; exact depth_any t _ x.1 (HT.out.blw (bchain b25 (bchain b6 x.2))).value (by omega))
      have r6 : Hid (∀ x : Cw w6, Calls Try.prog 19 #[.agg #[.int .i64 u.kind, .int .i64 u.n, .string u.name, .slice ra' u.r.length rc', .slice ka' u.kids.length kc', .slice sa' u.sys.length sc']] x.1 fun e w' => e = .returned (.int .i64 (dU : Int)) ∧ ∃ x' : Cw w6, w' = x'.1) := fun x => cw_call x (by rw [hdU]; exact depth_any u _ x.1 (HU.out.blw (bchain b25 (bchain b6 x.2))).value (by omega))
      clear hsT hsU hdT hdU hs1 hs2
      go_wp2_with fail
      refine wp_region_cw (by kernel_rfl) (by kernel_rfl) ?_
      repeat (first | go_big_quiet_step (fail) | quiet_step (fail))
      first | go_big_quiet_step (exact r1.out _) | quiet_step (exact r1.out _)
      repeat (first | go_big_quiet_step (fail) | quiet_step (fail))
      first | go_big_quiet_step (exact r2.out _) | quiet_step (exact r2.out _)
      repeat (first | go_big_quiet_step (fail) | quiet_step (fail))
      first | go_big_quiet_step (exact r3.out _) | quiet_step (exact r3.out _)
      repeat (first | go_big_quiet_step (fail) | quiet_step (fail))
      first | go_big_quiet_step (exact r4.out _) | quiet_step (exact r4.out _)
      repeat (first | go_big_quiet_step (fail) | quiet_step (fail))
      first | go_big_quiet_step (exact r5.out _) | quiet_step (exact r5.out _)
      repeat (first | go_big_quiet_step (fail) | quiet_step (fail))
      first | go_big_quiet_step (exact r6.out _) | quiet_step (exact r6.out _)
      repeat (first | go_big_quiet_step (fail) | quiet_step (fail))
      refine wpQuiet_nil ?_
      rintro _ ⟨x, rfl⟩
      obtain ⟨w7, b7⟩ := x
      dsimp only
      clear r1 r2 r3 r4 r5 r6 hne
      clear y0 y1 y2 y3 y4 y5 z0 z1 z2 z3 z4 z5 p0 p1 p2 p3 p4 p5
      have b57 := bchain b6 b7
      have hal7 := bchain hal b57
      by_cases c1 : c = 62
      · have cI : (c : Int) = 62 := by omega
        go_wp2_with fail
        go_ret
        exact ⟨rfl, hal7⟩
      · have cI : ¬ (c : Int) = 62 := by omega
        by_cases c2 : c = 2
        · have cI2 : (c : Int) = 2 := by omega
          go_wp2_with fail
          go_ret
          exact ⟨rfl, hal7⟩
        · have cI2 : ¬ (c : Int) = 2 := by omega
          have hab := HAB.out c1 c2
          by_cases h0 : c = 0
          · obtain ⟨a0, b0⟩ := hab.1 h0
            subst h0 a0 b0
            clear c1 c2 hab
            obtain ⟨_, y0, y1, y2, y3, y4, y5⟩ := HC.out.blw (bchain b25 b57)
            simp only [Nat.zero_add] at y1 y2 y3 y4 y5
            obtain ⟨L, hL⟩ : ∃ L, L = t.kids.length := ⟨_, rfl⟩
            have HL : Hid (L = t.kids.length) := hL
            obtain ⟨fT, hfT⟩ : ∃ f, f = wrongN true 0 0 t := ⟨_, rfl⟩
            have HF : Hid (fT = wrongN true 0 0 t) := hfT
            rw [← hL] at y4
            have hLb : L ≤ 500 := by have := blkL_len t.kids; have := blk_eq t; omega
            have hszb : szL t.kids ≤ 500 := by have := szL_blkL t.kids; have := blk_eq t; omega
            clear hL hfT
            go_wp2_with fail
            go_loopw [13, 78] (fun s i wr => ∃ k S : Nat, k ≤ L ∧ i = .int .i64 k ∧ s = .int .i64 S ∧ Hid (S = 1 + szL (t.kids.take k)) ∧ S ≤ 501 ∧ Below w7.heap.size w7 wr) (fun _ i _ => L - (intOf i).toNat)
            case atStart => exact ⟨0, 1, Nat.zero_le _, rfl, rfl, (by simp [szL] : (1 : Nat) = 1 + szL (t.kids.take 0)), by omega, Below.refl _ _⟩
            case round =>
              clear y0 y1 y2 y3 y4 y5
              obtain ⟨wo, hwo⟩ : ∃ wo, wo = wr := ⟨_, rfl⟩
              subst hwo
              obtain ⟨k, S, hk, rfl, rfl, HS, hSb, hBr⟩ := hrel
              have b5o := bchain b57 hBr
              obtain ⟨_, y0, y1, y2, y3, y4, y5⟩ := HC.out.blw (bchain b25 b5o)
              simp only [Nat.zero_add] at y1 y2 y3 y4 y5
              have halo := bchain hal7 hBr
              by_cases hlt : k < L
              · have hkI : (k : Int) < (L : Int) := by omega
                obtain ⟨y, hy⟩ := someL (l := t.kids) (k := k) (by rw [← HL.out]; exact hlt)
                have hmem := List.mem_of_getElem? hy
                have hby : blk y < blk t := blk_kid hmem
                have HST : Hid (_ = _) := szL_step hy
                have hdk := dp_kid hmem
                have HFK : Hid (fT = 0 → wrongN true 0 0 y = 0) := fun h => formed_kid hmem (by rw [← HF.out]; exact h)
                obtain ⟨g, off, ra1, rc1, ka1, kc1, sa1, sc1, rfl, hg, q6, qt⟩ := (HT.out.blw (bchain b25 b5o)).kids.at hy
                obtain ⟨_, d0, d1, d2, d3, d4, d5⟩ := q6
                obtain ⟨w8, hw8⟩ : ∃ w8, w8 = wo.alloc (.cells #[.int .i64 y.kind, .int .i64 y.n, .string y.name, .slice ra1 y.r.length rc1, .slice ka1 y.kids.length kc1, .slice sa1 y.sys.length sc1] 26) := ⟨_, rfl⟩
                have b8 : Below wo.heap.size wo w8 := by rw [hw8]; exact belowA _ _
                have HC8 : Hid (Cs6 w8 wo.heap.size 0 y ra1 rc1 ka1 kc1 sa1 sc1) := by rw [hw8]; exact cs6_new wo y ra1 rc1 ka1 kc1 sa1 sc1
                have H8 : Hid (_ = _) := hw8
                have qt8 := qt.blw b8
                have HT8 : Hid (TmTop Tt w8 y ra1 rc1 ka1 kc1 sa1 sc1) := qt8
                have b58 := bchain b5o b8
                have hal8 := bchain halo b8
                clear hw8 hy qt qt8
                go_upto_region 17 with fail
                rw [← H8.out]
                clear H8 y0 y1 y2 y3 y4 y5 d0 d1 d2 d3 d4 d5
                obtain ⟨dY, hdY⟩ : ∃ s, s = depthT y := ⟨_, rfl⟩
                obtain ⟨dT, hdT⟩ : ∃ s, s = depthT t := ⟨_, rfl⟩
                obtain ⟨fY, hfY⟩ : ∃ s, s = wrongN true 0 0 y := ⟨_, rfl⟩
                obtain ⟨sY, hsY⟩ : ∃ s, s = sizeT y := ⟨_, rfl⟩
                rw [← hdY, ← hdT] at hdk
                rw [← hfY] at HFK
                rw [← hsY] at HST
                have hsb : sY ≤ 500 := by have := size_blk y; omega
                have hdI : decide ((dT : Int) ≤ (dY : Int)) = false := by simp; omega
                have hdN : ¬ dT ≤ dY := by omega
                have hne := cw_any w8
                have y0 : ∀ x : Cw w8, x.1.cell? ⟨w.heap.size, 0, none⟩ = some (.int .i64 t.kind) := fun x => by have := (HC.out.blw (bchain b25 (bchain b58 x.2))).c0; simpa only [Nat.zero_add] using this
                have y1 : ∀ x : Cw w8, x.1.cell? ⟨w.heap.size, 1, none⟩ = some (.int .i64 t.n) := fun x => by have := (HC.out.blw (bchain b25 (bchain b58 x.2))).c1; simpa only [Nat.zero_add] using this
                have y2 : ∀ x : Cw w8, x.1.cell? ⟨w.heap.size, 2, none⟩ = some (.string t.name) := fun x => by have := (HC.out.blw (bchain b25 (bchain b58 x.2))).c2; simpa only [Nat.zero_add] using this
                have y3 : ∀ x : Cw w8, x.1.cell? ⟨w.heap.size, 3, none⟩ = some (.slice ra t.r.length rc) := fun x => by have := (HC.out.blw (bchain b25 (bchain b58 x.2))).c3; simpa only [Nat.zero_add] using this
                have y4 : ∀ x : Cw w8, x.1.cell? ⟨w.heap.size, 4, none⟩ = some (.slice (some ⟨g, off, none⟩) t.kids.length kc) := fun x => by have := (HC.out.blw (bchain b25 (bchain b58 x.2))).c4; simpa only [Nat.zero_add] using this
                have y5 : ∀ x : Cw w8, x.1.cell? ⟨w.heap.size, 5, none⟩ = some (.slice sa t.sys.length sc) := fun x => by have := (HC.out.blw (bchain b25 (bchain b58 x.2))).c5; simpa only [Nat.zero_add] using this
                have q0 : ∀ x : Cw w8, x.1.cell? ⟨wo.heap.size, 0, none⟩ = some (.int .i64 y.kind) := fun x => by have := (HC8.out.blw x.2).c0; simpa only [Nat.zero_add] using this
                have q1 : ∀ x : Cw w8, x.1.cell? ⟨wo.heap.size, 1, none⟩ = some (.int .i64 y.n) := fun x => by have := (HC8.out.blw x.2).c1; simpa only [Nat.zero_add] using this
                have q2 : ∀ x : Cw w8, x.1.cell? ⟨wo.heap.size, 2, none⟩ = some (.string y.name) := fun x => by have := (HC8.out.blw x.2).c2; simpa only [Nat.zero_add] using this
                have q3 : ∀ x : Cw w8, x.1.cell? ⟨wo.heap.size, 3, none⟩ = some (.slice ra1 y.r.length rc1) := fun x => by have := (HC8.out.blw x.2).c3; simpa only [Nat.zero_add] using this
                have q4 : ∀ x : Cw w8, x.1.cell? ⟨wo.heap.size, 4, none⟩ = some (.slice ka1 y.kids.length kc1) := fun x => by have := (HC8.out.blw x.2).c4; simpa only [Nat.zero_add] using this
                have q5 : ∀ x : Cw w8, x.1.cell? ⟨wo.heap.size, 5, none⟩ = some (.slice sa1 y.sys.length sc1) := fun x => by have := (HC8.out.blw x.2).c5; simpa only [Nat.zero_add] using this
                have r1 : Hid (∀ x : Cw w8, Calls Try.prog 13 #[.agg #[.int .i64 t.kind, .int .i64 t.n, .string t.name, .slice ra t.r.length rc, .slice (some ⟨g, off, none⟩) t.kids.length kc, .slice sa t.sys.length sc]] x.1 fun e w' => e = .returned (.int .i64 (fT : Int)) ∧ ∃ x' : Cw w8, w' = x'.1) := fun x => cw_call x (by rw [HF.out]; exact formed_any t _ x.1 (HT.out.blw (bchain b25 (bchain b58 x.2))).value (by omega))
                have r2 : Hid (∀ x : Cw w8, Calls Try.prog 13 #[.agg #[.int .i64 y.kind, .int .i64 y.n, .string y.name, .slice ra1 y.r.length rc1, .slice ka1 y.kids.length kc1, .slice sa1 y.sys.length sc1]] x.1 fun e w' => e = .returned (.int .i64 (fY : Int)) ∧ ∃ x' : Cw w8, w' = x'.1) := fun x => cw_call x (by rw [hfY]; exact formed_any y _ x.1 (HT8.out.blw x.2).value (by omega))
                have r3 : Hid (∀ x : Cw w8, Calls Try.prog 19 #[.agg #[.int .i64 y.kind, .int .i64 y.n, .string y.name, .slice ra1 y.r.length rc1, .slice ka1 y.kids.length kc1, .slice sa1 y.sys.length sc1]] x.1 fun e w' => e = .returned (.int .i64 (dY : Int)) ∧ ∃ x' : Cw w8, w' = x'.1) := fun x => cw_call x (by rw [hdY]; exact depth_any y _ x.1 (HT8.out.blw x.2).value (by omega))
                have r4 : Hid (∀ x : Cw w8, Calls Try.prog 19 #[.agg #[.int .i64 t.kind, .int .i64 t.n, .string t.name, .slice ra t.r.length rc, .slice (some ⟨g, off, none⟩) t.kids.length kc, .slice sa t.sys.length sc]] x.1 fun e w' => e = .returned (.int .i64 (dT : Int)) ∧ ∃ x' : Cw w8, w' = x'.1) := fun x => cw_call x (by rw [hdT]; exact depth_any t _ x.1 (HT.out.blw (bchain b25 (bchain b58 x.2))).value (by omega))
                have HSy : Hid (∀ W', Below w8.heap.size w8 W' → Calls Try.prog 17 #[.agg #[.int .i64 y.kind, .int .i64 y.n, .string y.name, .slice ra1 y.r.length rc1, .slice ka1 y.kids.length kc1, .slice sa1 y.sys.length sc1]] W' fun e w' => e = .returned (.int .i64 (sY : Int)) ∧ Below W'.heap.size W' w') := fun W' q => by rw [hsY]; exact size_any y _ W' (HT8.out.blw q).value (by omega)
                clear hdY hdT hfY hsY hdk
                by_cases hf0 : fT = 0
                · obtain rfl : fY = 0 := HFK.out hf0
                  subst hf0
                  refine wp_region_cw (by kernel_rfl) (by kernel_rfl) ?_
                  repeat (first | go_big_quiet_step (fail) | quiet_step (fail))
                  first | go_big_quiet_step (exact r1.out _) | quiet_step (exact r1.out _)
                  repeat (first | go_big_quiet_step (fail) | quiet_step (fail))
                  first | go_big_quiet_step (exact r2.out _) | quiet_step (exact r2.out _)
                  repeat (first | go_big_quiet_step (fail) | quiet_step (fail))
                  first | go_big_quiet_step (exact r3.out _) | quiet_step (exact r3.out _)
                  repeat (first | go_big_quiet_step (fail) | quiet_step (fail))
                  first | go_big_quiet_step (exact r4.out _) | quiet_step (exact r4.out _)
                  repeat (first | go_big_quiet_step (fail) | quiet_step (fail))
                  refine wpQuiet_nil ?_
                  rintro _ ⟨x, rfl⟩
                  have e0 := q0 x
                  have e1 := q1 x
                  have e2 := q2 x
                  have e3 := q3 x
                  have e4 := q4 x
                  have e5 := q5 x
                  obtain ⟨w9, b9⟩ := x
                  dsimp only at e0 e1 e2 e3 e4 e5 ⊢
                  clear r1 r2 r3 r4 hne y0 y1 y2 y3 y4 y5 q0 q1 q2 q3 q4 q5
                  have cS := HSy.out w9 b9
                  go_wp2_with fail
                  refine cS.mono ?_
                  rintro e w10 ⟨rfl, b10⟩
                  clear cS e0 e1 e2 e3 e4 e5
                  have HS' : Hid (S + sY = 1 + szL (t.kids.take (k + 1))) := (by rw [HST.out, HS.out]; omega : S + sY = 1 + szL (t.kids.take (k + 1)))
                  have hS9 : S + sY ≤ 501 := by
                    have := HS'.out
                    have h9 : szL (t.kids.take (k + 1)) ≤ szL t.kids := by unfold szL; rw [List.map_take]; exact sumN_take _ _
                    omega
                  go_wp2_with fail
                  go_roundw
                  case rel => exact ⟨k + 1, S + sY, by omega, by go_num, by go_num, HS', hS9, bchain hBr (bchain b8 (bchain b9 b10))⟩
                  case measure => simp [intOf]; omega
                · have hfI : decide ((fT : Int) = 0) = false := by simp; omega
                  have hfI2 : ((fT : Int) == 0) = false := by simp; omega
                  clear hf0
                  refine wp_region_cw (by kernel_rfl) (by kernel_rfl) ?_
                  repeat (first | go_big_quiet_step (fail) | quiet_step (fail))
                  first | go_big_quiet_step (exact r1.out _) | quiet_step (exact r1.out _)
                  repeat (first | go_big_quiet_step (fail) | quiet_step (fail))
                  first | go_big_quiet_step (exact r3.out _) | quiet_step (exact r3.out _)
                  repeat (first | go_big_quiet_step (fail) | quiet_step (fail))
                  first | go_big_quiet_step (exact r4.out _) | quiet_step (exact r4.out _)
                  repeat (first | go_big_quiet_step (fail) | quiet_step (fail))
                  refine wpQuiet_nil ?_
                  rintro _ ⟨x, rfl⟩
                  have e0 := q0 x
                  have e1 := q1 x
                  have e2 := q2 x
                  have e3 := q3 x
                  have e4 := q4 x
                  have e5 := q5 x
                  obtain ⟨w9, b9⟩ := x
                  dsimp only at e0 e1 e2 e3 e4 e5 ⊢
                  clear r1 r2 r3 r4 hne y0 y1 y2 y3 y4 y5 q0 q1 q2 q3 q4 q5
                  have cS := HSy.out w9 b9
                  go_wp2_with fail
                  refine cS.mono ?_
                  rintro e w10 ⟨rfl, b10⟩
                  clear cS e0 e1 e2 e3 e4 e5
                  have HS' : Hid (S + sY = 1 + szL (t.kids.take (k + 1))) := (by rw [HST.out, HS.out]; omega : S + sY = 1 + szL (t.kids.take (k + 1)))
                  have hS9 : S + sY ≤ 501 := by
                    have := HS'.out
                    have h9 : szL (t.kids.take (k + 1)) ≤ szL t.kids := by unfold szL; rw [List.map_take]; exact sumN_take _ _
                    omega
                  go_wp2_with fail
                  go_roundw
                  case rel => exact ⟨k + 1, S + sY, by omega, by go_num, by go_num, HS', hS9, bchain hBr (bchain b8 (bchain b9 b10))⟩
                  case measure => simp [intOf]; omega
              · have hkI : ¬ (k : Int) < (L : Int) := by omega
                have HSS : Hid (S = 1 + szL t.kids) := (by have := HS.out; rwa [List.take_of_length_le (by rw [← HL.out]; omega)] at this : S = 1 + szL t.kids)
                clear HS
                obtain ⟨M, hM⟩ : ∃ M, M = t.sys.length := ⟨_, rfl⟩
                rw [← hM] at y5
                by_cases hM0 : M = 0
                · have hnil : t.sys = [] := by rw [hM0] at hM; exact List.eq_nil_of_length_eq_zero hM.symm
                  have hsz : sizeT t = S := by rw [size_kids hnil, HSS.out]
                  have cS := size_any t _ wo (HT.out.blw (bchain b25 b5o)).value (by omega)
                  have hMt : t.sys.length = 0 := by omega
                  rw [hsz] at cS
                  rw [hMt] at cS
                  have hy5 : wo.cell? ⟨w.heap.size, 5, none⟩ = some (.slice sa 0 sc) := by rw [y5, hM0]
                  clear y5 hM hsz hnil hMt
                  go_wp2_with fail
                  refine cS.mono ?_
                  rintro e w9 ⟨rfl, b9⟩
                  clear cS
                  go_wp2_with fail
                  go_ret
                  exact ⟨rfl, bchain halo b9⟩
                · have hMI : (0 : Int) < (M : Int) := by omega
                  clear hM
                  go_wp2_with fail
                  go_ret
                  exact ⟨rfl, halo⟩
          · have cI0 : decide ((c : Int) = 0) = false := by simp; omega
            have cI0' : ((c : Int) == 0) = false := by simp; omega
            have cE1 : ((c : Int) == 62) = false := by simp; omega
            have cE2 : ((c : Int) == 2) = false := by simp; omega
            by_cases a0 : a = 0
            · have b0 : ¬ b = 0 := fun h => h0 (hab.2 ⟨a0, h⟩)
              have b1' : decide ((b : Int) = 0) = false := by simp; omega
              have b2' : ((b : Int) == 0) = false := by simp; omega
              have hx0 := h0
              subst a0
              clear c1 c2 hab
              obtain ⟨_, y0, y1, y2, y3, y4, y5⟩ := HC.out.blw (bchain b25 b57)
              simp only [Nat.zero_add] at y1 y2 y3 y4 y5
              obtain ⟨L, hL⟩ : ∃ L, L = t.kids.length := ⟨_, rfl⟩
              have HL : Hid (L = t.kids.length) := hL
              obtain ⟨fT, hfT⟩ : ∃ f, f = wrongN true 0 0 t := ⟨_, rfl⟩
              have HF : Hid (fT = wrongN true 0 0 t) := hfT
              rw [← hL] at y4
              have hLb : L ≤ 500 := by have := blkL_len t.kids; have := blk_eq t; omega
              have hszb : szL t.kids ≤ 500 := by have := szL_blkL t.kids; have := blk_eq t; omega
              clear hL hfT
              go_wp2_with fail
              go_loopw [13, 78] (fun s i wr => ∃ k S : Nat, k ≤ L ∧ i = .int .i64 k ∧ s = .int .i64 S ∧ Hid (S = 1 + szL (t.kids.take k)) ∧ S ≤ 501 ∧ Below w7.heap.size w7 wr) (fun _ i _ => L - (intOf i).toNat)
              case atStart => exact ⟨0, 1, Nat.zero_le _, rfl, rfl, (by simp [szL] : (1 : Nat) = 1 + szL (t.kids.take 0)), by omega, Below.refl _ _⟩
              case round =>
                clear y0 y1 y2 y3 y4 y5
                obtain ⟨wo, hwo⟩ : ∃ wo, wo = wr := ⟨_, rfl⟩
                subst hwo
                obtain ⟨k, S, hk, rfl, rfl, HS, hSb, hBr⟩ := hrel
                have b5o := bchain b57 hBr
                obtain ⟨_, y0, y1, y2, y3, y4, y5⟩ := HC.out.blw (bchain b25 b5o)
                simp only [Nat.zero_add] at y1 y2 y3 y4 y5
                have halo := bchain hal7 hBr
                by_cases hlt : k < L
                · have hkI : (k : Int) < (L : Int) := by omega
                  obtain ⟨y, hy⟩ := someL (l := t.kids) (k := k) (by rw [← HL.out]; exact hlt)
                  have hmem := List.mem_of_getElem? hy
                  have hby : blk y < blk t := blk_kid hmem
                  have HST : Hid (_ = _) := szL_step hy
                  have hdk := dp_kid hmem
                  have HFK : Hid (fT = 0 → wrongN true 0 0 y = 0) := fun h => formed_kid hmem (by rw [← HF.out]; exact h)
                  obtain ⟨g, off, ra1, rc1, ka1, kc1, sa1, sc1, rfl, hg, q6, qt⟩ := (HT.out.blw (bchain b25 b5o)).kids.at hy
                  obtain ⟨_, d0, d1, d2, d3, d4, d5⟩ := q6
                  obtain ⟨w8, hw8⟩ : ∃ w8, w8 = wo.alloc (.cells #[.int .i64 y.kind, .int .i64 y.n, .string y.name, .slice ra1 y.r.length rc1, .slice ka1 y.kids.length kc1, .slice sa1 y.sys.length sc1] 26) := ⟨_, rfl⟩
                  have b8 : Below wo.heap.size wo w8 := by rw [hw8]; exact belowA _ _
                  have HC8 : Hid (Cs6 w8 wo.heap.size 0 y ra1 rc1 ka1 kc1 sa1 sc1) := by rw [hw8]; exact cs6_new wo y ra1 rc1 ka1 kc1 sa1 sc1
                  have H8 : Hid (_ = _) := hw8
                  have qt8 := qt.blw b8
                  have HT8 : Hid (TmTop Tt w8 y ra1 rc1 ka1 kc1 sa1 sc1) := qt8
                  have b58 := bchain b5o b8
                  have hal8 := bchain halo b8
                  clear hw8 hy qt qt8
                  go_upto_region 17 with fail
                  rw [← H8.out]
                  clear H8 y0 y1 y2 y3 y4 y5 d0 d1 d2 d3 d4 d5
                  obtain ⟨dY, hdY⟩ : ∃ s, s = depthT y := ⟨_, rfl⟩
                  obtain ⟨dT, hdT⟩ : ∃ s, s = depthT t := ⟨_, rfl⟩
                  obtain ⟨fY, hfY⟩ : ∃ s, s = wrongN true 0 0 y := ⟨_, rfl⟩
                  obtain ⟨sY, hsY⟩ : ∃ s, s = sizeT y := ⟨_, rfl⟩
                  rw [← hdY, ← hdT] at hdk
                  rw [← hfY] at HFK
                  rw [← hsY] at HST
                  have hsb : sY ≤ 500 := by have := size_blk y; omega
                  have hdI : decide ((dT : Int) ≤ (dY : Int)) = false := by simp; omega
                  have hdN : ¬ dT ≤ dY := by omega
                  have hne := cw_any w8
                  have y0 : ∀ x : Cw w8, x.1.cell? ⟨w.heap.size, 0, none⟩ = some (.int .i64 t.kind) := fun x => by have := (HC.out.blw (bchain b25 (bchain b58 x.2))).c0; simpa only [Nat.zero_add] using this
                  have y1 : ∀ x : Cw w8, x.1.cell? ⟨w.heap.size, 1, none⟩ = some (.int .i64 t.n) := fun x => by have := (HC.out.blw (bchain b25 (bchain b58 x.2))).c1; simpa only [Nat.zero_add] using this
                  have y2 : ∀ x : Cw w8, x.1.cell? ⟨w.heap.size, 2, none⟩ = some (.string t.name) := fun x => by have := (HC.out.blw (bchain b25 (bchain b58 x.2))).c2; simpa only [Nat.zero_add] using this
                  have y3 : ∀ x : Cw w8, x.1.cell? ⟨w.heap.size, 3, none⟩ = some (.slice ra t.r.length rc) := fun x => by have := (HC.out.blw (bchain b25 (bchain b58 x.2))).c3; simpa only [Nat.zero_add] using this
                  have y4 : ∀ x : Cw w8, x.1.cell? ⟨w.heap.size, 4, none⟩ = some (.slice (some ⟨g, off, none⟩) t.kids.length kc) := fun x => by have := (HC.out.blw (bchain b25 (bchain b58 x.2))).c4; simpa only [Nat.zero_add] using this
                  have y5 : ∀ x : Cw w8, x.1.cell? ⟨w.heap.size, 5, none⟩ = some (.slice sa t.sys.length sc) := fun x => by have := (HC.out.blw (bchain b25 (bchain b58 x.2))).c5; simpa only [Nat.zero_add] using this
                  have q0 : ∀ x : Cw w8, x.1.cell? ⟨wo.heap.size, 0, none⟩ = some (.int .i64 y.kind) := fun x => by have := (HC8.out.blw x.2).c0; simpa only [Nat.zero_add] using this
                  have q1 : ∀ x : Cw w8, x.1.cell? ⟨wo.heap.size, 1, none⟩ = some (.int .i64 y.n) := fun x => by have := (HC8.out.blw x.2).c1; simpa only [Nat.zero_add] using this
                  have q2 : ∀ x : Cw w8, x.1.cell? ⟨wo.heap.size, 2, none⟩ = some (.string y.name) := fun x => by have := (HC8.out.blw x.2).c2; simpa only [Nat.zero_add] using this
                  have q3 : ∀ x : Cw w8, x.1.cell? ⟨wo.heap.size, 3, none⟩ = some (.slice ra1 y.r.length rc1) := fun x => by have := (HC8.out.blw x.2).c3; simpa only [Nat.zero_add] using this
                  have q4 : ∀ x : Cw w8, x.1.cell? ⟨wo.heap.size, 4, none⟩ = some (.slice ka1 y.kids.length kc1) := fun x => by have := (HC8.out.blw x.2).c4; simpa only [Nat.zero_add] using this
                  have q5 : ∀ x : Cw w8, x.1.cell? ⟨wo.heap.size, 5, none⟩ = some (.slice sa1 y.sys.length sc1) := fun x => by have := (HC8.out.blw x.2).c5; simpa only [Nat.zero_add] using this
                  have r1 : Hid (∀ x : Cw w8, Calls Try.prog 13 #[.agg #[.int .i64 t.kind, .int .i64 t.n, .string t.name, .slice ra t.r.length rc, .slice (some ⟨g, off, none⟩) t.kids.length kc, .slice sa t.sys.length sc]] x.1 fun e w' => e = .returned (.int .i64 (fT : Int)) ∧ ∃ x' : Cw w8, w' = x'.1) := fun x => cw_call x (by rw [HF.out]; exact formed_any t _ x.1 (HT.out.blw (bchain b25 (bchain b58 x.2))).value (by omega))
                  have r2 : Hid (∀ x : Cw w8, Calls Try.prog 13 #[.agg #[.int .i64 y.kind, .int .i64 y.n, .string y.name, .slice ra1 y.r.length rc1, .slice ka1 y.kids.length kc1, .slice sa1 y.sys.length sc1]] x.1 fun e w' => e = .returned (.int .i64 (fY : Int)) ∧ ∃ x' : Cw w8, w' = x'.1) := fun x => cw_call x (by rw [hfY]; exact formed_any y _ x.1 (HT8.out.blw x.2).value (by omega))
                  have r3 : Hid (∀ x : Cw w8, Calls Try.prog 19 #[.agg #[.int .i64 y.kind, .int .i64 y.n, .string y.name, .slice ra1 y.r.length rc1, .slice ka1 y.kids.length kc1, .slice sa1 y.sys.length sc1]] x.1 fun e w' => e = .returned (.int .i64 (dY : Int)) ∧ ∃ x' : Cw w8, w' = x'.1) := fun x => cw_call x (by rw [hdY]; exact depth_any y _ x.1 (HT8.out.blw x.2).value (by omega))
                  have r4 : Hid (∀ x : Cw w8, Calls Try.prog 19 #[.agg #[.int .i64 t.kind, .int .i64 t.n, .string t.name, .slice ra t.r.length rc, .slice (some ⟨g, off, none⟩) t.kids.length kc, .slice sa t.sys.length sc]] x.1 fun e w' => e = .returned (.int .i64 (dT : Int)) ∧ ∃ x' : Cw w8, w' = x'.1) := fun x => cw_call x (by rw [hdT]; exact depth_any t _ x.1 (HT.out.blw (bchain b25 (bchain b58 x.2))).value (by omega))
                  have HSy : Hid (∀ W', Below w8.heap.size w8 W' → Calls Try.prog 17 #[.agg #[.int .i64 y.kind, .int .i64 y.n, .string y.name, .slice ra1 y.r.length rc1, .slice ka1 y.kids.length kc1, .slice sa1 y.sys.length sc1]] W' fun e w' => e = .returned (.int .i64 (sY : Int)) ∧ Below W'.heap.size W' w') := fun W' q => by rw [hsY]; exact size_any y _ W' (HT8.out.blw q).value (by omega)
                  clear hdY hdT hfY hsY hdk
                  by_cases hf0 : fT = 0
                  · obtain rfl : fY = 0 := HFK.out hf0
                    subst hf0
                    refine wp_region_cw (by kernel_rfl) (by kernel_rfl) ?_
                    repeat (first | go_big_quiet_step (fail) | quiet_step (fail))
                    first | go_big_quiet_step (exact r1.out _) | quiet_step (exact r1.out _)
                    repeat (first | go_big_quiet_step (fail) | quiet_step (fail))
                    first | go_big_quiet_step (exact r2.out _) | quiet_step (exact r2.out _)
                    repeat (first | go_big_quiet_step (fail) | quiet_step (fail))
                    first | go_big_quiet_step (exact r3.out _) | quiet_step (exact r3.out _)
                    repeat (first | go_big_quiet_step (fail) | quiet_step (fail))
                    first | go_big_quiet_step (exact r4.out _) | quiet_step (exact r4.out _)
                    repeat (first | go_big_quiet_step (fail) | quiet_step (fail))
                    refine wpQuiet_nil ?_
                    rintro _ ⟨x, rfl⟩
                    have e0 := q0 x
                    have e1 := q1 x
                    have e2 := q2 x
                    have e3 := q3 x
                    have e4 := q4 x
                    have e5 := q5 x
                    obtain ⟨w9, b9⟩ := x
                    dsimp only at e0 e1 e2 e3 e4 e5 ⊢
                    clear r1 r2 r3 r4 hne y0 y1 y2 y3 y4 y5 q0 q1 q2 q3 q4 q5
                    have cS := HSy.out w9 b9
                    go_wp2_with fail
                    refine cS.mono ?_
                    rintro e w10 ⟨rfl, b10⟩
                    clear cS e0 e1 e2 e3 e4 e5
                    have HS' : Hid (S + sY = 1 + szL (t.kids.take (k + 1))) := (by rw [HST.out, HS.out]; omega : S + sY = 1 + szL (t.kids.take (k + 1)))
                    have hS9 : S + sY ≤ 501 := by
                      have := HS'.out
                      have h9 : szL (t.kids.take (k + 1)) ≤ szL t.kids := by unfold szL; rw [List.map_take]; exact sumN_take _ _
                      omega
                    go_wp2_with fail
                    go_roundw
                    case rel => exact ⟨k + 1, S + sY, by omega, by go_num, by go_num, HS', hS9, bchain hBr (bchain b8 (bchain b9 b10))⟩
                    case measure => simp [intOf]; omega
                  · have hfI : decide ((fT : Int) = 0) = false := by simp; omega
                    have hfI2 : ((fT : Int) == 0) = false := by simp; omega
                    clear hf0
                    refine wp_region_cw (by kernel_rfl) (by kernel_rfl) ?_
                    repeat (first | go_big_quiet_step (fail) | quiet_step (fail))
                    first | go_big_quiet_step (exact r1.out _) | quiet_step (exact r1.out _)
                    repeat (first | go_big_quiet_step (fail) | quiet_step (fail))
                    first | go_big_quiet_step (exact r3.out _) | quiet_step (exact r3.out _)
                    repeat (first | go_big_quiet_step (fail) | quiet_step (fail))
                    first | go_big_quiet_step (exact r4.out _) | quiet_step (exact r4.out _)
                    repeat (first | go_big_quiet_step (fail) | quiet_step (fail))
                    refine wpQuiet_nil ?_
                    rintro _ ⟨x, rfl⟩
                    have e0 := q0 x
                    have e1 := q1 x
                    have e2 := q2 x
                    have e3 := q3 x
                    have e4 := q4 x
                    have e5 := q5 x
                    obtain ⟨w9, b9⟩ := x
                    dsimp only at e0 e1 e2 e3 e4 e5 ⊢
                    clear r1 r2 r3 r4 hne y0 y1 y2 y3 y4 y5 q0 q1 q2 q3 q4 q5
                    have cS := HSy.out w9 b9
                    go_wp2_with fail
                    refine cS.mono ?_
                    rintro e w10 ⟨rfl, b10⟩
                    clear cS e0 e1 e2 e3 e4 e5
                    have HS' : Hid (S + sY = 1 + szL (t.kids.take (k + 1))) := (by rw [HST.out, HS.out]; omega : S + sY = 1 + szL (t.kids.take (k + 1)))
                    have hS9 : S + sY ≤ 501 := by
                      have := HS'.out
                      have h9 : szL (t.kids.take (k + 1)) ≤ szL t.kids := by unfold szL; rw [List.map_take]; exact sumN_take _ _
                      omega
                    go_wp2_with fail
                    go_roundw
                    case rel => exact ⟨k + 1, S + sY, by omega, by go_num, by go_num, HS', hS9, bchain hBr (bchain b8 (bchain b9 b10))⟩
                    case measure => simp [intOf]; omega
                · have hkI : ¬ (k : Int) < (L : Int) := by omega
                  have HSS : Hid (S = 1 + szL t.kids) := (by have := HS.out; rwa [List.take_of_length_le (by rw [← HL.out]; omega)] at this : S = 1 + szL t.kids)
                  clear HS
                  obtain ⟨M, hM⟩ : ∃ M, M = t.sys.length := ⟨_, rfl⟩
                  rw [← hM] at y5
                  by_cases hM0 : M = 0
                  · have hnil : t.sys = [] := by rw [hM0] at hM; exact List.eq_nil_of_length_eq_zero hM.symm
                    have hsz : sizeT t = S := by rw [size_kids hnil, HSS.out]
                    have cS := size_any t _ wo (HT.out.blw (bchain b25 b5o)).value (by omega)
                    have hMt : t.sys.length = 0 := by omega
                    rw [hsz] at cS
                    rw [hMt] at cS
                    have hy5 : wo.cell? ⟨w.heap.size, 5, none⟩ = some (.slice sa 0 sc) := by rw [y5, hM0]
                    clear y5 hM hsz hnil hMt
                    go_wp2_with fail
                    refine cS.mono ?_
                    rintro e w9 ⟨rfl, b9⟩
                    clear cS
                    go_wp2_with fail
                    go_ret
                    exact ⟨rfl, bchain halo b9⟩
                  · have hMI : (0 : Int) < (M : Int) := by omega
                    clear hM
                    go_wp2_with fail
                    go_ret
                    exact ⟨rfl, halo⟩
            · have a1' : decide ((a : Int) = 0) = false := by simp; omega
              have a2' : ((a : Int) == 0) = false := by simp; omega
              clear a0 h0
              clear c1 c2 hab
              obtain ⟨_, y0, y1, y2, y3, y4, y5⟩ := HC.out.blw (bchain b25 b57)
              simp only [Nat.zero_add] at y1 y2 y3 y4 y5
              obtain ⟨L, hL⟩ : ∃ L, L = t.kids.length := ⟨_, rfl⟩
              have HL : Hid (L = t.kids.length) := hL
              obtain ⟨fT, hfT⟩ : ∃ f, f = wrongN true 0 0 t := ⟨_, rfl⟩
              have HF : Hid (fT = wrongN true 0 0 t) := hfT
              rw [← hL] at y4
              have hLb : L ≤ 500 := by have := blkL_len t.kids; have := blk_eq t; omega
              have hszb : szL t.kids ≤ 500 := by have := szL_blkL t.kids; have := blk_eq t; omega
              clear hL hfT
              go_wp2_with fail
              go_loopw [13, 78] (fun s i wr => ∃ k S : Nat, k ≤ L ∧ i = .int .i64 k ∧ s = .int .i64 S ∧ Hid (S = 1 + szL (t.kids.take k)) ∧ S ≤ 501 ∧ Below w7.heap.size w7 wr) (fun _ i _ => L - (intOf i).toNat)
              case atStart => exact ⟨0, 1, Nat.zero_le _, rfl, rfl, (by simp [szL] : (1 : Nat) = 1 + szL (t.kids.take 0)), by omega, Below.refl _ _⟩
              case round =>
                clear y0 y1 y2 y3 y4 y5
                obtain ⟨wo, hwo⟩ : ∃ wo, wo = wr := ⟨_, rfl⟩
                subst hwo
                obtain ⟨k, S, hk, rfl, rfl, HS, hSb, hBr⟩ := hrel
                have b5o := bchain b57 hBr
                obtain ⟨_, y0, y1, y2, y3, y4, y5⟩ := HC.out.blw (bchain b25 b5o)
                simp only [Nat.zero_add] at y1 y2 y3 y4 y5
                have halo := bchain hal7 hBr
                by_cases hlt : k < L
                · have hkI : (k : Int) < (L : Int) := by omega
                  obtain ⟨y, hy⟩ := someL (l := t.kids) (k := k) (by rw [← HL.out]; exact hlt)
                  have hmem := List.mem_of_getElem? hy
                  have hby : blk y < blk t := blk_kid hmem
                  have HST : Hid (_ = _) := szL_step hy
                  have hdk := dp_kid hmem
                  have HFK : Hid (fT = 0 → wrongN true 0 0 y = 0) := fun h => formed_kid hmem (by rw [← HF.out]; exact h)
                  obtain ⟨g, off, ra1, rc1, ka1, kc1, sa1, sc1, rfl, hg, q6, qt⟩ := (HT.out.blw (bchain b25 b5o)).kids.at hy
                  obtain ⟨_, d0, d1, d2, d3, d4, d5⟩ := q6
                  obtain ⟨w8, hw8⟩ : ∃ w8, w8 = wo.alloc (.cells #[.int .i64 y.kind, .int .i64 y.n, .string y.name, .slice ra1 y.r.length rc1, .slice ka1 y.kids.length kc1, .slice sa1 y.sys.length sc1] 26) := ⟨_, rfl⟩
                  have b8 : Below wo.heap.size wo w8 := by rw [hw8]; exact belowA _ _
                  have HC8 : Hid (Cs6 w8 wo.heap.size 0 y ra1 rc1 ka1 kc1 sa1 sc1) := by rw [hw8]; exact cs6_new wo y ra1 rc1 ka1 kc1 sa1 sc1
                  have H8 : Hid (_ = _) := hw8
                  have qt8 := qt.blw b8
                  have HT8 : Hid (TmTop Tt w8 y ra1 rc1 ka1 kc1 sa1 sc1) := qt8
                  have b58 := bchain b5o b8
                  have hal8 := bchain halo b8
                  clear hw8 hy qt qt8
                  go_upto_region 17 with fail
                  rw [← H8.out]
                  clear H8 y0 y1 y2 y3 y4 y5 d0 d1 d2 d3 d4 d5
                  obtain ⟨dY, hdY⟩ : ∃ s, s = depthT y := ⟨_, rfl⟩
                  obtain ⟨dT, hdT⟩ : ∃ s, s = depthT t := ⟨_, rfl⟩
                  obtain ⟨fY, hfY⟩ : ∃ s, s = wrongN true 0 0 y := ⟨_, rfl⟩
                  obtain ⟨sY, hsY⟩ : ∃ s, s = sizeT y := ⟨_, rfl⟩
                  rw [← hdY, ← hdT] at hdk
                  rw [← hfY] at HFK
                  rw [← hsY] at HST
                  have hsb : sY ≤ 500 := by have := size_blk y; omega
                  have hdI : decide ((dT : Int) ≤ (dY : Int)) = false := by simp; omega
                  have hdN : ¬ dT ≤ dY := by omega
                  have hne := cw_any w8
                  have y0 : ∀ x : Cw w8, x.1.cell? ⟨w.heap.size, 0, none⟩ = some (.int .i64 t.kind) := fun x => by have := (HC.out.blw (bchain b25 (bchain b58 x.2))).c0; simpa only [Nat.zero_add] using this
                  have y1 : ∀ x : Cw w8, x.1.cell? ⟨w.heap.size, 1, none⟩ = some (.int .i64 t.n) := fun x => by have := (HC.out.blw (bchain b25 (bchain b58 x.2))).c1; simpa only [Nat.zero_add] using this
                  have y2 : ∀ x : Cw w8, x.1.cell? ⟨w.heap.size, 2, none⟩ = some (.string t.name) := fun x => by have := (HC.out.blw (bchain b25 (bchain b58 x.2))).c2; simpa only [Nat.zero_add] using this
                  have y3 : ∀ x : Cw w8, x.1.cell? ⟨w.heap.size, 3, none⟩ = some (.slice ra t.r.length rc) := fun x => by have := (HC.out.blw (bchain b25 (bchain b58 x.2))).c3; simpa only [Nat.zero_add] using this
                  have y4 : ∀ x : Cw w8, x.1.cell? ⟨w.heap.size, 4, none⟩ = some (.slice (some ⟨g, off, none⟩) t.kids.length kc) := fun x => by have := (HC.out.blw (bchain b25 (bchain b58 x.2))).c4; simpa only [Nat.zero_add] using this
                  have y5 : ∀ x : Cw w8, x.1.cell? ⟨w.heap.size, 5, none⟩ = some (.slice sa t.sys.length sc) := fun x => by have := (HC.out.blw (bchain b25 (bchain b58 x.2))).c5; simpa only [Nat.zero_add] using this
                  have q0 : ∀ x : Cw w8, x.1.cell? ⟨wo.heap.size, 0, none⟩ = some (.int .i64 y.kind) := fun x => by have := (HC8.out.blw x.2).c0; simpa only [Nat.zero_add] using this
                  have q1 : ∀ x : Cw w8, x.1.cell? ⟨wo.heap.size, 1, none⟩ = some (.int .i64 y.n) := fun x => by have := (HC8.out.blw x.2).c1; simpa only [Nat.zero_add] using this
                  have q2 : ∀ x : Cw w8, x.1.cell? ⟨wo.heap.size, 2, none⟩ = some (.string y.name) := fun x => by have := (HC8.out.blw x.2).c2; simpa only [Nat.zero_add] using this
                  have q3 : ∀ x : Cw w8, x.1.cell? ⟨wo.heap.size, 3, none⟩ = some (.slice ra1 y.r.length rc1) := fun x => by have := (HC8.out.blw x.2).c3; simpa only [Nat.zero_add] using this
                  have q4 : ∀ x : Cw w8, x.1.cell? ⟨wo.heap.size, 4, none⟩ = some (.slice ka1 y.kids.length kc1) := fun x => by have := (HC8.out.blw x.2).c4; simpa only [Nat.zero_add] using this
                  have q5 : ∀ x : Cw w8, x.1.cell? ⟨wo.heap.size, 5, none⟩ = some (.slice sa1 y.sys.length sc1) := fun x => by have := (HC8.out.blw x.2).c5; simpa only [Nat.zero_add] using this
                  have r1 : Hid (∀ x : Cw w8, Calls Try.prog 13 #[.agg #[.int .i64 t.kind, .int .i64 t.n, .string t.name, .slice ra t.r.length rc, .slice (some ⟨g, off, none⟩) t.kids.length kc, .slice sa t.sys.length sc]] x.1 fun e w' => e = .returned (.int .i64 (fT : Int)) ∧ ∃ x' : Cw w8, w' = x'.1) := fun x => cw_call x (by rw [HF.out]; exact formed_any t _ x.1 (HT.out.blw (bchain b25 (bchain b58 x.2))).value (by omega))
                  have r2 : Hid (∀ x : Cw w8, Calls Try.prog 13 #[.agg #[.int .i64 y.kind, .int .i64 y.n, .string y.name, .slice ra1 y.r.length rc1, .slice ka1 y.kids.length kc1, .slice sa1 y.sys.length sc1]] x.1 fun e w' => e = .returned (.int .i64 (fY : Int)) ∧ ∃ x' : Cw w8, w' = x'.1) := fun x => cw_call x (by rw [hfY]; exact formed_any y _ x.1 (HT8.out.blw x.2).value (by omega))
                  have r3 : Hid (∀ x : Cw w8, Calls Try.prog 19 #[.agg #[.int .i64 y.kind, .int .i64 y.n, .string y.name, .slice ra1 y.r.length rc1, .slice ka1 y.kids.length kc1, .slice sa1 y.sys.length sc1]] x.1 fun e w' => e = .returned (.int .i64 (dY : Int)) ∧ ∃ x' : Cw w8, w' = x'.1) := fun x => cw_call x (by rw [hdY]; exact depth_any y _ x.1 (HT8.out.blw x.2).value (by omega))
                  have r4 : Hid (∀ x : Cw w8, Calls Try.prog 19 #[.agg #[.int .i64 t.kind, .int .i64 t.n, .string t.name, .slice ra t.r.length rc, .slice (some ⟨g, off, none⟩) t.kids.length kc, .slice sa t.sys.length sc]] x.1 fun e w' => e = .returned (.int .i64 (dT : Int)) ∧ ∃ x' : Cw w8, w' = x'.1) := fun x => cw_call x (by rw [hdT]; exact depth_any t _ x.1 (HT.out.blw (bchain b25 (bchain b58 x.2))).value (by omega))
                  have HSy : Hid (∀ W', Below w8.heap.size w8 W' → Calls Try.prog 17 #[.agg #[.int .i64 y.kind, .int .i64 y.n, .string y.name, .slice ra1 y.r.length rc1, .slice ka1 y.kids.length kc1, .slice sa1 y.sys.length sc1]] W' fun e w' => e = .returned (.int .i64 (sY : Int)) ∧ Below W'.heap.size W' w') := fun W' q => by rw [hsY]; exact size_any y _ W' (HT8.out.blw q).value (by omega)
                  clear hdY hdT hfY hsY hdk
                  by_cases hf0 : fT = 0
                  · obtain rfl : fY = 0 := HFK.out hf0
                    subst hf0
                    refine wp_region_cw (by kernel_rfl) (by kernel_rfl) ?_
                    repeat (first | go_big_quiet_step (fail) | quiet_step (fail))
                    first | go_big_quiet_step (exact r1.out _) | quiet_step (exact r1.out _)
                    repeat (first | go_big_quiet_step (fail) | quiet_step (fail))
                    first | go_big_quiet_step (exact r2.out _) | quiet_step (exact r2.out _)
                    repeat (first | go_big_quiet_step (fail) | quiet_step (fail))
                    first | go_big_quiet_step (exact r3.out _) | quiet_step (exact r3.out _)
                    repeat (first | go_big_quiet_step (fail) | quiet_step (fail))
                    first | go_big_quiet_step (exact r4.out _) | quiet_step (exact r4.out _)
                    repeat (first | go_big_quiet_step (fail) | quiet_step (fail))
                    refine wpQuiet_nil ?_
                    rintro _ ⟨x, rfl⟩
                    have e0 := q0 x
                    have e1 := q1 x
                    have e2 := q2 x
                    have e3 := q3 x
                    have e4 := q4 x
                    have e5 := q5 x
                    obtain ⟨w9, b9⟩ := x
                    dsimp only at e0 e1 e2 e3 e4 e5 ⊢
                    clear r1 r2 r3 r4 hne y0 y1 y2 y3 y4 y5 q0 q1 q2 q3 q4 q5
                    have cS := HSy.out w9 b9
                    go_wp2_with fail
                    refine cS.mono ?_
                    rintro e w10 ⟨rfl, b10⟩
                    clear cS e0 e1 e2 e3 e4 e5
                    have HS' : Hid (S + sY = 1 + szL (t.kids.take (k + 1))) := (by rw [HST.out, HS.out]; omega : S + sY = 1 + szL (t.kids.take (k + 1)))
                    have hS9 : S + sY ≤ 501 := by
                      have := HS'.out
                      have h9 : szL (t.kids.take (k + 1)) ≤ szL t.kids := by unfold szL; rw [List.map_take]; exact sumN_take _ _
                      omega
                    go_wp2_with fail
                    go_roundw
                    case rel => exact ⟨k + 1, S + sY, by omega, by go_num, by go_num, HS', hS9, bchain hBr (bchain b8 (bchain b9 b10))⟩
                    case measure => simp [intOf]; omega
                  · have hfI : decide ((fT : Int) = 0) = false := by simp; omega
                    have hfI2 : ((fT : Int) == 0) = false := by simp; omega
                    clear hf0
                    refine wp_region_cw (by kernel_rfl) (by kernel_rfl) ?_
                    repeat (first | go_big_quiet_step (fail) | quiet_step (fail))
                    first | go_big_quiet_step (exact r1.out _) | quiet_step (exact r1.out _)
                    repeat (first | go_big_quiet_step (fail) | quiet_step (fail))
                    first | go_big_quiet_step (exact r3.out _) | quiet_step (exact r3.out _)
                    repeat (first | go_big_quiet_step (fail) | quiet_step (fail))
                    first | go_big_quiet_step (exact r4.out _) | quiet_step (exact r4.out _)
                    repeat (first | go_big_quiet_step (fail) | quiet_step (fail))
                    refine wpQuiet_nil ?_
                    rintro _ ⟨x, rfl⟩
                    have e0 := q0 x
                    have e1 := q1 x
                    have e2 := q2 x
                    have e3 := q3 x
                    have e4 := q4 x
                    have e5 := q5 x
                    obtain ⟨w9, b9⟩ := x
                    dsimp only at e0 e1 e2 e3 e4 e5 ⊢
                    clear r1 r2 r3 r4 hne y0 y1 y2 y3 y4 y5 q0 q1 q2 q3 q4 q5
                    have cS := HSy.out w9 b9
                    go_wp2_with fail
                    refine cS.mono ?_
                    rintro e w10 ⟨rfl, b10⟩
                    clear cS e0 e1 e2 e3 e4 e5
                    have HS' : Hid (S + sY = 1 + szL (t.kids.take (k + 1))) := (by rw [HST.out, HS.out]; omega : S + sY = 1 + szL (t.kids.take (k + 1)))
                    have hS9 : S + sY ≤ 501 := by
                      have := HS'.out
                      have h9 : szL (t.kids.take (k + 1)) ≤ szL t.kids := by unfold szL; rw [List.map_take]; exact sumN_take _ _
                      omega
                    go_wp2_with fail
                    go_roundw
                    case rel => exact ⟨k + 1, S + sY, by omega, by go_num, by go_num, HS', hS9, bchain hBr (bchain b8 (bchain b9 b10))⟩
                    case measure => simp [intOf]; omega
                · have hkI : ¬ (k : Int) < (L : Int) := by omega
                  have HSS : Hid (S = 1 + szL t.kids) := (by have := HS.out; rwa [List.take_of_length_le (by rw [← HL.out]; omega)] at this : S = 1 + szL t.kids)
                  clear HS
                  obtain ⟨M, hM⟩ : ∃ M, M = t.sys.length := ⟨_, rfl⟩
                  rw [← hM] at y5
                  by_cases hM0 : M = 0
                  · have hnil : t.sys = [] := by rw [hM0] at hM; exact List.eq_nil_of_length_eq_zero hM.symm
                    have hsz : sizeT t = S := by rw [size_kids hnil, HSS.out]
                    have cS := size_any t _ wo (HT.out.blw (bchain b25 b5o)).value (by omega)
                    have hMt : t.sys.length = 0 := by omega
                    rw [hsz] at cS
                    rw [hMt] at cS
                    have hy5 : wo.cell? ⟨w.heap.size, 5, none⟩ = some (.slice sa 0 sc) := by rw [y5, hM0]
                    clear y5 hM hsz hnil hMt
                    go_wp2_with fail
                    refine cS.mono ?_
                    rintro e w9 ⟨rfl, b9⟩
                    clear cS
                    go_wp2_with fail
                    go_ret
                    exact ⟨rfl, bchain halo b9⟩
                  · have hMI : (0 : Int) < (M : Int) := by omega
                    clear hM
                    go_wp2_with fail
                    go_ret
                    exact ⟨rfl, halo⟩
end Go.Proofs.Ythhnkpgagfjdbaa
