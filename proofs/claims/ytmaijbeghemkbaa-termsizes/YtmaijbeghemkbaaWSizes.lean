/- How many nodes a term has, how deep it is, whether two are the same, a copy: as the document has it. -/
import Derived.Test.YtmaijbeghemkbaaYRCopy
import Derived.Test.YtmaijbeghemkbaaYRSame
import Derived.Test.YtmaijbeghemkbaaYRSize
import Derived.Test.YtmaijbeghemkbaaYSame
import Derived.Test.YtmaijbeghemkbaaYSpoil
import Derived.Test.YtmaijbeghemkbaaYWorks
import Derived.Test.YtmaijbeghemkbaaYBulk
namespace Go.Proofs.Ytmaijbeghemkbaa
open Go.RowKit
set_option linter.unusedVariables false
set_option linter.unusedSimpArgs false

set_option maxRecDepth 100000 in
set_option maxHeartbeats 8000000 in
theorem walk_TermSizes (t : Tm) (v : Value) (u : Tm) (v' : Value) (w : World) (hv : TmIn Tt w t v) (hv' : TmIn Tt w u v') :
    Calls Try.prog 3 #[v, v'] w fun e w' => e = .returned (.bool true) ∧ Below w.heap.size w w' := by
  obtain ⟨ra1, rc1, ka1, kc1, sa1, sc1, rfl, ht⟩ := hv.form
  obtain ⟨ra2, rc2, ka2, kc2, sa2, sc2, rfl, hu⟩ := hv'.form
  obtain ⟨W, hW⟩ : ∃ W, W = (w.alloc (.cells #[.int .i64 t.kind, .int .i64 t.n, .string t.name, .slice ra1 t.r.length rc1, .slice ka1 t.kids.length kc1, .slice sa1 t.sys.length sc1] 26)).alloc (.cells #[.int .i64 u.kind, .int .i64 u.n, .string u.name, .slice ra2 u.r.length rc2, .slice ka2 u.kids.length kc2, .slice sa2 u.sys.length sc2] 26) := ⟨_, rfl⟩
  have bW : Below w.heap.size w W := by rw [hW]; exact bchain (belowA _ _) (belowA _ _)
  have sW : W.heap.size = w.heap.size + 2 := by rw [hW]; simp
  obtain ⟨X, hX⟩ : ∃ X, X = w.heap.size := ⟨_, rfl⟩
  have x1 : Six W X (.int .i64 t.kind) (.int .i64 t.n) (.string t.name) (.slice ra1 t.r.length rc1) (.slice ka1 t.kids.length kc1) (.slice sa1 t.sys.length sc1) := ⟨by rw [hX, hW]; exact (Below.heap_alloc _ _ _ (by simp)).trans (heapNew w _)⟩
  have x2 : Six W (X + 1) (.int .i64 u.kind) (.int .i64 u.n) (.string u.name) (.slice ra2 u.r.length rc2) (.slice ka2 u.kids.length kc2) (.slice sa2 u.sys.length sc2) := ⟨by rw [hX, hW]; have := heapNew (w.alloc (.cells #[.int .i64 t.kind, .int .i64 t.n, .string t.name, .slice ra1 t.r.length rc1, .slice ka1 t.kids.length kc1, .slice sa1 t.sys.length sc1] 26)) (.cells #[.int .i64 u.kind, .int .i64 u.n, .string u.name, .slice ra2 u.r.length rc2, .slice ka2 u.kids.length kc2, .slice sa2 u.sys.length sc2] 26); rwa [World.size_alloc] at this⟩
  have HX1 : Hid (∀ V, Below W.heap.size W V → Six V X (.int .i64 t.kind) (.int .i64 t.n) (.string t.name) (.slice ra1 t.r.length rc1) (.slice ka1 t.kids.length kc1) (.slice sa1 t.sys.length sc1)) := fun V q => x1.blw q
  have HX2 : Hid (∀ V, Below W.heap.size W V → Six V (X + 1) (.int .i64 u.kind) (.int .i64 u.n) (.string u.name) (.slice ra2 u.r.length rc2) (.slice ka2 u.kids.length kc2) (.slice sa2 u.sys.length sc2)) := fun V q => x2.blw q
  have HT1 : Hid (∀ V, Below W.heap.size W V → TmIn Tt V t (.agg #[.int .i64 t.kind, .int .i64 t.n, .string t.name, .slice ra1 t.r.length rc1, .slice ka1 t.kids.length kc1, .slice sa1 t.sys.length sc1])) := fun V q => ((ht.blw bW).blw q).value
  have HT2 : Hid (∀ V, Below W.heap.size W V → TmIn Tt V u (.agg #[.int .i64 u.kind, .int .i64 u.n, .string u.name, .slice ra2 u.r.length rc2, .slice ka2 u.kids.length kc2, .slice sa2 u.sys.length sc2])) := fun V q => ((hu.blw bW).blw q).value
  have HW : Hid (_ = _) := hW
  have HX : Hid (X = w.heap.size) := hX
  have HsW : Hid (W.heap.size = X + 2) := (by omega : W.heap.size = X + 2)
  clear hW hv hv' ht hu x1 x2 hX sW
  go_enter Try.func3, Try.ntmps3
  go_upto_region 1 with fail
  rw [← HW.out]
  simp only [← HX.out]
  clear HW
  obtain ⟨y0, y1, y2, y3, y4, y5, _⟩ := (HX1.out W (Below.refl _ _)).cells
  have c1 := great_any t _ W (HT1.out W (Below.refl _ _))
  by_cases hgt : 500 < blk t
  · rw [decide_eq_true hgt] at c1
    go_wp2_with fail
    refine c1.mono ?_
    rintro e w3 ⟨rfl, b3⟩
    clear c1 y0 y1 y2 y3 y4 y5
    have cw := works_any w3
    go_wp2_with fail
    refine cw.mono ?_
    rintro e w4 ⟨rfl, b4⟩
    clear cw
    go_wp2_with fail
    go_ret
    exact ⟨rfl, bchain bW (bchain b3 b4)⟩
  · rw [decide_eq_false hgt] at c1
    go_wp2_with fail
    refine c1.mono ?_
    rintro e w2 ⟨rfl, b2⟩
    clear c1 y0 y1 y2 y3 y4 y5
    obtain ⟨y0, y1, y2, y3, y4, y5, _⟩ := (HX2.out w2 b2).cells
    have c2 := great_any u _ w2 (HT2.out w2 b2)
    by_cases hgu : 500 < blk u
    · rw [decide_eq_true hgu] at c2
      go_wp2_with fail
      refine c2.mono ?_
      rintro e w3 ⟨rfl, b3⟩
      clear c2 y0 y1 y2 y3 y4 y5
      have cw := works_any w3
      go_wp2_with fail
      refine cw.mono ?_
      rintro e w4 ⟨rfl, b4⟩
      clear cw
      go_wp2_with fail
      go_ret
      exact ⟨rfl, bchain bW (bchain b2 (bchain b3 b4))⟩
    · rw [decide_eq_false hgu] at c2
      go_wp2_with fail
      refine c2.mono ?_
      rintro e w3 ⟨rfl, b3⟩
      clear c2 y0 y1 y2 y3 y4 y5
      have B3 := bchain b2 b3
      obtain ⟨y0, y1, y2, y3, y4, y5, _⟩ := (HX1.out w3 B3).cells
      have c3 := rCopy_any t _ w3 (HT1.out w3 B3) (by omega)
      go_wp2_with fail
      refine c3.mono ?_
      rintro e w4 ⟨v4, rfl, hv4, b4⟩
      clear c3 y0 y1 y2 y3 y4 y5
      obtain ⟨ra3, rc3, ka3, kc3, sa3, sc3, rfl, ht4⟩ := hv4.form
      have B4 := bchain B3 b4
      obtain ⟨s5, hs5⟩ : ∃ s, s = w4.heap.size := ⟨_, rfl⟩
      obtain ⟨w5, hw5⟩ : ∃ V, V = w4.alloc (.cells #[.int .i64 t.kind, .int .i64 t.n, .string t.name, .slice ra3 t.r.length rc3, .slice ka3 t.kids.length kc3, .slice sa3 t.sys.length sc3] 26) := ⟨_, rfl⟩
      have b5 : Below w4.heap.size w4 w5 := by rw [hw5]; exact belowA _ _
      have n5 : Six w5 s5 (.int .i64 t.kind) (.int .i64 t.n) (.string t.name) (.slice ra3 t.r.length rc3) (.slice ka3 t.kids.length kc3) (.slice sa3 t.sys.length sc3) := ⟨by rw [hw5, hs5]; exact heapNew _ _⟩
      have B5 := bchain B4 b5
      have z5 : w5.heap.size = s5 + 1 := by rw [hw5, hs5]; simp
      have t5 : TmTop Tt w5 t ra3 rc3 ka3 kc3 sa3 sc3 := (ht4.blw b5).up fun _ _ => trivial
      have Hs5 : Hid (s5 = w4.heap.size) := hs5
      have H5 : Hid (_ = _) := hw5
      clear hs5 hw5 ht4 hv4
      go_upto_region 4 with fail
      rw [← H5.out]
      simp only [← Hs5.out]
      clear H5
      obtain ⟨y0, y1, y2, y3, y4, y5, _⟩ := n5.cells
      have c6 := copy_any t _ w5 t5.value (by omega)
      go_wp2_with fail
      refine c6.mono ?_
      rintro e w6 ⟨v6, rfl, hv6, b6⟩
      clear c6 y0 y1 y2 y3 y4 y5
      obtain ⟨ra4, rc4, ka4, kc4, sa4, sc4, rfl, ht6⟩ := hv6.form
      obtain ⟨s6, hs6⟩ : ∃ s, s = w6.heap.size := ⟨_, rfl⟩
      obtain ⟨w7, hw7⟩ : ∃ V, V = w6.alloc (.cells #[.int .i64 t.kind, .int .i64 t.n, .string t.name, .slice ra4 t.r.length rc4, .slice ka4 t.kids.length kc4, .slice sa4 t.sys.length sc4] 26) := ⟨_, rfl⟩
      have b7 : Below w6.heap.size w6 w7 := by rw [hw7]; exact belowA _ _
      have n6 : Six w7 s6 (.int .i64 t.kind) (.int .i64 t.n) (.string t.name) (.slice ra4 t.r.length rc4) (.slice ka4 t.kids.length kc4) (.slice sa4 t.sys.length sc4) := ⟨by rw [hw7, hs6]; exact heapNew _ _⟩
      have B57 : Below w5.heap.size w5 w7 := bchain b6 b7
      have B7 := bchain B5 B57
      have Hc : Hid (∀ V, Below w7.heap.size w7 V → TmIn (OkN w5.heap.size V) V t (.agg #[.int .i64 t.kind, .int .i64 t.n, .string t.name, .slice ra4 t.r.length rc4, .slice ka4 t.kids.length kc4, .slice sa4 t.sys.length sc4])) := fun V q => by
        have q2 := bchain b7 q
        exact ht6.value.keep q2.size (fun _ h => h.blw q2) (fun g _ hg => q2.block g hg)
      have Ho : Hid (∀ V, Below w5.heap.size w5 V → TmIn Tt V t (.agg #[.int .i64 t.kind, .int .i64 t.n, .string t.name, .slice ra3 t.r.length rc3, .slice ka3 t.kids.length kc3, .slice sa3 t.sys.length sc3]) ∧ Six V s5 (.int .i64 t.kind) (.int .i64 t.n) (.string t.name) (.slice ra3 t.r.length rc3) (.slice ka3 t.kids.length kc3) (.slice sa3 t.sys.length sc3)) := fun V q => ⟨(t5.blw q).value, n5.blw q⟩
      have HB : Hid (Below W.heap.size W w5) := B5
      have Hs6 : Hid (s6 = w6.heap.size) := hs6
      have H7 : Hid (_ = _) := hw7
      have hzl := b6.size
      clear hs6 hw7 ht6 hv6 b2 b3 B3 b4 B4 b5 t5 n5 b6 b7
      go_upto_region 5 with fail
      rw [← H7.out]
      simp only [← Hs6.out]
      clear H7
      have hne := cw_any w7
      have a0 : ∀ x : Cw w7, x.1.cell? ⟨X, 0, none⟩ = some (.int .i64 t.kind) := fun x => (HX1.out x.1 (bchain B7 x.2)).cells.1
      have a1 : ∀ x : Cw w7, x.1.cell? ⟨X, 1, none⟩ = some (.int .i64 t.n) := fun x => (HX1.out x.1 (bchain B7 x.2)).cells.2.1
      have a2 : ∀ x : Cw w7, x.1.cell? ⟨X, 2, none⟩ = some (.string t.name) := fun x => (HX1.out x.1 (bchain B7 x.2)).cells.2.2.1
      have a3 : ∀ x : Cw w7, x.1.cell? ⟨X, 3, none⟩ = some (.slice ra1 t.r.length rc1) := fun x => (HX1.out x.1 (bchain B7 x.2)).cells.2.2.2.1
      have a4 : ∀ x : Cw w7, x.1.cell? ⟨X, 4, none⟩ = some (.slice ka1 t.kids.length kc1) := fun x => (HX1.out x.1 (bchain B7 x.2)).cells.2.2.2.2.1
      have a5 : ∀ x : Cw w7, x.1.cell? ⟨X, 5, none⟩ = some (.slice sa1 t.sys.length sc1) := fun x => (HX1.out x.1 (bchain B7 x.2)).cells.2.2.2.2.2.1
      have b0 : ∀ x : Cw w7, x.1.cell? ⟨(X + 1), 0, none⟩ = some (.int .i64 u.kind) := fun x => (HX2.out x.1 (bchain B7 x.2)).cells.1
      have b1 : ∀ x : Cw w7, x.1.cell? ⟨(X + 1), 1, none⟩ = some (.int .i64 u.n) := fun x => (HX2.out x.1 (bchain B7 x.2)).cells.2.1
      have b2 : ∀ x : Cw w7, x.1.cell? ⟨(X + 1), 2, none⟩ = some (.string u.name) := fun x => (HX2.out x.1 (bchain B7 x.2)).cells.2.2.1
      have b3 : ∀ x : Cw w7, x.1.cell? ⟨(X + 1), 3, none⟩ = some (.slice ra2 u.r.length rc2) := fun x => (HX2.out x.1 (bchain B7 x.2)).cells.2.2.2.1
      have b4 : ∀ x : Cw w7, x.1.cell? ⟨(X + 1), 4, none⟩ = some (.slice ka2 u.kids.length kc2) := fun x => (HX2.out x.1 (bchain B7 x.2)).cells.2.2.2.2.1
      have b5 : ∀ x : Cw w7, x.1.cell? ⟨(X + 1), 5, none⟩ = some (.slice sa2 u.sys.length sc2) := fun x => (HX2.out x.1 (bchain B7 x.2)).cells.2.2.2.2.2.1
      have c0 : ∀ x : Cw w7, x.1.cell? ⟨s5, 0, none⟩ = some (.int .i64 t.kind) := fun x => ((Ho.out x.1 (bchain B57 x.2)).2).cells.1
      have c1 : ∀ x : Cw w7, x.1.cell? ⟨s5, 1, none⟩ = some (.int .i64 t.n) := fun x => ((Ho.out x.1 (bchain B57 x.2)).2).cells.2.1
      have c2 : ∀ x : Cw w7, x.1.cell? ⟨s5, 2, none⟩ = some (.string t.name) := fun x => ((Ho.out x.1 (bchain B57 x.2)).2).cells.2.2.1
      have c3 : ∀ x : Cw w7, x.1.cell? ⟨s5, 3, none⟩ = some (.slice ra3 t.r.length rc3) := fun x => ((Ho.out x.1 (bchain B57 x.2)).2).cells.2.2.2.1
      have c4 : ∀ x : Cw w7, x.1.cell? ⟨s5, 4, none⟩ = some (.slice ka3 t.kids.length kc3) := fun x => ((Ho.out x.1 (bchain B57 x.2)).2).cells.2.2.2.2.1
      have c5 : ∀ x : Cw w7, x.1.cell? ⟨s5, 5, none⟩ = some (.slice sa3 t.sys.length sc3) := fun x => ((Ho.out x.1 (bchain B57 x.2)).2).cells.2.2.2.2.2.1
      have d0 : ∀ x : Cw w7, x.1.cell? ⟨s6, 0, none⟩ = some (.int .i64 t.kind) := fun x => (n6.blw x.2).cells.1
      have d1 : ∀ x : Cw w7, x.1.cell? ⟨s6, 1, none⟩ = some (.int .i64 t.n) := fun x => (n6.blw x.2).cells.2.1
      have d2 : ∀ x : Cw w7, x.1.cell? ⟨s6, 2, none⟩ = some (.string t.name) := fun x => (n6.blw x.2).cells.2.2.1
      have d3 : ∀ x : Cw w7, x.1.cell? ⟨s6, 3, none⟩ = some (.slice ra4 t.r.length rc4) := fun x => (n6.blw x.2).cells.2.2.2.1
      have d4 : ∀ x : Cw w7, x.1.cell? ⟨s6, 4, none⟩ = some (.slice ka4 t.kids.length kc4) := fun x => (n6.blw x.2).cells.2.2.2.2.1
      have d5 : ∀ x : Cw w7, x.1.cell? ⟨s6, 5, none⟩ = some (.slice sa4 t.sys.length sc4) := fun x => (n6.blw x.2).cells.2.2.2.2.2.1
      obtain ⟨S, hS⟩ : ∃ S, S = sizeT t := ⟨_, rfl⟩
      obtain ⟨D, hD⟩ : ∃ S, S = depthT t := ⟨_, rfl⟩
      obtain ⟨q, hq⟩ : ∃ q : Bool, q = true ↔ t = u := bool_of _
      have T1 : ∀ x : Cw w7, TmIn Tt x.1 t (.agg #[.int .i64 t.kind, .int .i64 t.n, .string t.name, .slice ra1 t.r.length rc1, .slice ka1 t.kids.length kc1, .slice sa1 t.sys.length sc1]) := fun x => HT1.out x.1 (bchain B7 x.2)
      have T2 : ∀ x : Cw w7, TmIn Tt x.1 u (.agg #[.int .i64 u.kind, .int .i64 u.n, .string u.name, .slice ra2 u.r.length rc2, .slice ka2 u.kids.length kc2, .slice sa2 u.sys.length sc2]) := fun x => HT2.out x.1 (bchain B7 x.2)
      have T3 : ∀ x : Cw w7, TmIn Tt x.1 t (.agg #[.int .i64 t.kind, .int .i64 t.n, .string t.name, .slice ra3 t.r.length rc3, .slice ka3 t.kids.length kc3, .slice sa3 t.sys.length sc3]) := fun x => (Ho.out x.1 (bchain B57 x.2)).1
      have T4 : ∀ x : Cw w7, TmIn Tt x.1 t (.agg #[.int .i64 t.kind, .int .i64 t.n, .string t.name, .slice ra4 t.r.length rc4, .slice ka4 t.kids.length kc4, .slice sa4 t.sys.length sc4]) := fun x => (Hc.out x.1 x.2).up fun _ _ => trivial
      have r1 : Hid (∀ x : Cw w7, Calls Try.prog 10 #[.agg #[.int .i64 t.kind, .int .i64 t.n, .string t.name, .slice ra3 t.r.length rc3, .slice ka3 t.kids.length kc3, .slice sa3 t.sys.length sc3]] x.1 fun e w' => e = .returned (.int .i64 (S : Int)) ∧ ∃ x' : Cw w7, w' = x'.1) := fun x => cw_call x (by rw [hS]; exact size_any t _ x.1 (T3 x) (by omega))
      have r2 : Hid (∀ x : Cw w7, Calls Try.prog 11 #[.agg #[.int .i64 t.kind, .int .i64 t.n, .string t.name, .slice ra1 t.r.length rc1, .slice ka1 t.kids.length kc1, .slice sa1 t.sys.length sc1]] x.1 fun e w' => e = .returned (.int .i64 (S : Int)) ∧ ∃ x' : Cw w7, w' = x'.1) := fun x => cw_call x (by rw [hS]; exact rsize_any _ t _ x.1 (Nat.le_refl _) (by omega) (T1 x))
      have r3 : Hid (∀ x : Cw w7, Calls Try.prog 12 #[.agg #[.int .i64 t.kind, .int .i64 t.n, .string t.name, .slice ra3 t.r.length rc3, .slice ka3 t.kids.length kc3, .slice sa3 t.sys.length sc3]] x.1 fun e w' => e = .returned (.int .i64 (D : Int)) ∧ ∃ x' : Cw w7, w' = x'.1) := fun x => cw_call x (by rw [hD]; exact depth_any t _ x.1 (T3 x) (by omega))
      have r4 : Hid (∀ x : Cw w7, Calls Try.prog 13 #[.agg #[.int .i64 t.kind, .int .i64 t.n, .string t.name, .slice ra1 t.r.length rc1, .slice ka1 t.kids.length kc1, .slice sa1 t.sys.length sc1]] x.1 fun e w' => e = .returned (.int .i64 (D : Int)) ∧ ∃ x' : Cw w7, w' = x'.1) := fun x => cw_call x (by rw [hD]; exact rdepth_any _ t _ x.1 (Nat.le_refl _) (by omega) (T1 x))
      have r5 : Hid (∀ x : Cw w7, Calls Try.prog 14 #[.agg #[.int .i64 t.kind, .int .i64 t.n, .string t.name, .slice ra3 t.r.length rc3, .slice ka3 t.kids.length kc3, .slice sa3 t.sys.length sc3], .agg #[.int .i64 u.kind, .int .i64 u.n, .string u.name, .slice ra2 u.r.length rc2, .slice ka2 u.kids.length kc2, .slice sa2 u.sys.length sc2]] x.1 fun e w' => e = .returned (.bool q) ∧ ∃ x' : Cw w7, w' = x'.1) := fun x => cw_call x (by exact sameT_any t u q _ _ x.1 (T3 x) (T2 x) (by omega) hq)
      have r6 : Hid (∀ x : Cw w7, Calls Try.prog 15 #[.agg #[.int .i64 t.kind, .int .i64 t.n, .string t.name, .slice ra1 t.r.length rc1, .slice ka1 t.kids.length kc1, .slice sa1 t.sys.length sc1], .agg #[.int .i64 u.kind, .int .i64 u.n, .string u.name, .slice ra2 u.r.length rc2, .slice ka2 u.kids.length kc2, .slice sa2 u.sys.length sc2]] x.1 fun e w' => e = .returned (.bool q) ∧ ∃ x' : Cw w7, w' = x'.1) := fun x => cw_call x (by exact rsame_any _ t u q _ _ x.1 (T1 x) (T2 x) (Nat.le_refl _) (by omega) hq)
      have r7 : Hid (∀ x : Cw w7, Calls Try.prog 14 #[.agg #[.int .i64 t.kind, .int .i64 t.n, .string t.name, .slice ra3 t.r.length rc3, .slice ka3 t.kids.length kc3, .slice sa3 t.sys.length sc3], .agg #[.int .i64 t.kind, .int .i64 t.n, .string t.name, .slice ra3 t.r.length rc3, .slice ka3 t.kids.length kc3, .slice sa3 t.sys.length sc3]] x.1 fun e w' => e = .returned (.bool true) ∧ ∃ x' : Cw w7, w' = x'.1) := fun x => cw_call x (by exact sameT_any t t true _ _ x.1 (T3 x) (T3 x) (by omega) (by simp))
      have r8 : Hid (∀ x : Cw w7, Calls Try.prog 15 #[.agg #[.int .i64 t.kind, .int .i64 t.n, .string t.name, .slice ra4 t.r.length rc4, .slice ka4 t.kids.length kc4, .slice sa4 t.sys.length sc4], .agg #[.int .i64 t.kind, .int .i64 t.n, .string t.name, .slice ra1 t.r.length rc1, .slice ka1 t.kids.length kc1, .slice sa1 t.sys.length sc1]] x.1 fun e w' => e = .returned (.bool true) ∧ ∃ x' : Cw w7, w' = x'.1) := fun x => cw_call x (by exact rsame_any _ t t true _ _ x.1 (T4 x) (T1 x) (Nat.le_refl _) (by omega) (by simp))
      have hqq : (q != q) = false := by cases q <;> rfl
      clear hS hD hq T1 T2 T3 T4
      refine wp_region_cw (by kernel_rfl) (by kernel_rfl) ?_
      repeat (first | go_big_quiet_step (fail) | quiet_step (fail))
      first | go_big_quiet_step (exact r1.out _) | quiet_step (exact r1.out _)
      repeat (first | go_big_quiet_step (fail) | quiet_step (fail))
      first | go_big_quiet_step (exact r2.out _) | quiet_step (exact r2.out _)
      repeat (first | go_big_quiet_step (fail) | quiet_step (fail))
      first | go_big_quiet_step (exact r3.out _) | quiet_step (exact r3.out _)
      repeat (first | go_big_quiet_step (fail) | quiet_step (fail))
      first | go_big_quiet_step (exact r4.out _) | quiet_step (exact r4.out _)
      repeat (first | go_big_quiet_step (fail) | quiet_step (fail))
      first | go_big_quiet_step (exact r5.out _) | quiet_step (exact r5.out _)
      repeat (first | go_big_quiet_step (fail) | quiet_step (fail))
      first | go_big_quiet_step (exact r6.out _) | quiet_step (exact r6.out _)
      repeat (first | go_big_quiet_step (fail) | quiet_step (fail))
      first | go_big_quiet_step (exact r7.out _) | quiet_step (exact r7.out _)
      repeat (first | go_big_quiet_step (fail) | quiet_step (fail))
      first | go_big_quiet_step (exact r8.out _) | quiet_step (exact r8.out _)
      repeat (first | go_big_quiet_step (fail) | quiet_step (fail))
      refine wpQuiet_nil ?_
      rintro _ ⟨x, rfl⟩
      obtain ⟨w9, b9⟩ := x
      dsimp only
      clear hne a0 a1 a2 a3 a4 a5 b0 b1 b2 b3 b4 b5 c0 c1 c2 c3 c4 c5 d0 d1 d2 d3 d4 d5 r1 r2 r3 r4 r5 r6 r7 r8
      have n9 := n6.blw b9
      obtain ⟨y0, y1, y2, y3, y4, y5, _⟩ := n9.cells
      have B9 := bchain B57 b9
      have hsz := B9.size
      have cs := spoil_any _ w5.heap.size _ w9 (sh_of (blk t) t _ (Hc.out w9 b9) (Nat.le_refl _) (by omega)) hsz
      go_upto_region 7 with fail
      go_wp2_with fail
      refine cs.mono ?_
      rintro e w10 ⟨⟨rr, rfl⟩, p10⟩
      clear cs y0 y1 y2 y3 y4 y5
      have B10 : Below w5.heap.size w5 w10 := B9.trans (p10.below hsz)
      have BW10 := bchain HB.out B10
      obtain ⟨o1, o2⟩ := Ho.out w10 B10
      obtain ⟨y0, y1, y2, y3, y4, y5, _⟩ := o2.cells
      obtain ⟨x0, x1, x2, x3, x4, x5, _⟩ := (HX1.out w10 BW10).cells
      have cq := rsame_any _ t t true _ _ w10 o1 (HT1.out w10 BW10) (Nat.le_refl _) (by omega) (by simp)
      go_wp2_with fail
      refine cq.mono ?_
      rintro e w3 ⟨rfl, b3⟩
      clear cq y0 y1 y2 y3 y4 y5 x0 x1 x2 x3 x4 x5
      have cw := works_any w3
      go_wp2_with fail
      refine cw.mono ?_
      rintro e w4 ⟨rfl, b4⟩
      clear cw
      go_wp2_with fail
      go_ret
      exact ⟨rfl, bchain bW (bchain BW10 (bchain b3 b4))⟩
end Go.Proofs.Ytmaijbeghemkbaa
