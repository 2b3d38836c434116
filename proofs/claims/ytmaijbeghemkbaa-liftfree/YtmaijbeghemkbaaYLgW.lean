/- The chapter's examples, of lifts. -/
import Derived.Test.YtmaijbeghemkbaaYLfF
import Derived.Test.YtmaijbeghemkbaaYWorks
namespace Go.Proofs.Ytmaijbeghemkbaa
open Go.RowKit
set_option linter.unusedVariables false
set_option linter.unusedSimpArgs false

def tApp (m n : Int) : Tm := .mk 6 0 ⟨#[]⟩ [] [tV m, tV n] []
def tLm (m n : Int) : Tm := .mk 5 0 ⟨#[]⟩ [] [tApp m n] []
def cOf (n : Fin 4294967296) : C := (n, 0)
def tLp (n : Fin 4294967296) : Tm := .mk 21 0 ⟨#[]⟩ [cOf n] [] []
def tPl (n : Fin 4294967296) : Tm := .mk 12 0 ⟨#[]⟩ [] [tLp n] []
theorem lw_vE : varsE 0 2 (tLm 0 1) = 0 := by decide +kernel
theorem lw_vT : varsT 0 2 (tLm 0 1) = tLm 0 3 := by kernel_rfl
theorem lw_dE : dimsE 0 1 (tPl 3) = 0 := by decide +kernel
theorem lw_dT : dimsT 0 1 (tPl 3) = tPl 5 := by kernel_rfl
theorem lw_b1 : blk (tLm 0 1) ≤ 20000 := by decide +kernel
theorem lw_b2 : blk (tPl 3) ≤ 20000 := by decide +kernel
theorem tApp_in (w : World) (g : Nat) (h : w.heap[g]? = some (.cells #[.int .i64 1, .int .i64 0, .string ⟨#[]⟩, .slice none 0 0, .slice none 0 0, .slice none 0 0, .int .i64 1, .int .i64 1, .string ⟨#[]⟩, .slice none 0 0, .slice none 0 0, .slice none 0 0] 26 (0, 0))) :
    TmIn Tt w (tApp 0 1) (.agg #[.int .i64 6, .int .i64 0, .string ⟨#[]⟩, .slice none 0 0, .slice (some ⟨g, 0, none⟩) 2 2, .slice none 0 0]) := by
  refine .mk _ _ _ _ _ _ _ _ _ ⟨by decide, by decide⟩ ⟨by decide, by decide⟩ (cl_nil0 w) ⟨_, _, rfl, Nat.le_refl _, fun j x hx => ?_⟩ (sy_nil0 w)
  have hj : j = 0 ∨ j = 1 := by have := some_lt hx; simp at this; omega
  rcases hj with rfl | rfl
  · simp only [List.getElem?_cons_zero, Option.some.injEq] at hx
    subst hx
    refine ⟨g, 0, _, _, _, _, _, _, rfl, trivial, (Array.getElem?_eq_some_iff.1 h).1, tV_in w 0 ⟨by decide, by decide⟩, ?_, ?_, ?_, ?_, ?_, ?_⟩ <;> (unfold World.cell?; simp [h])
  · simp only [List.getElem?_cons_succ, List.getElem?_cons_zero, Option.some.injEq] at hx
    subst hx
    refine ⟨g, 0, _, _, _, _, _, _, rfl, trivial, (Array.getElem?_eq_some_iff.1 h).1, tV_in w 1 ⟨by decide, by decide⟩, ?_, ?_, ?_, ?_, ?_, ?_⟩ <;> (unfold World.cell?; simp [h])
theorem tLm_in (w : World) (g g2 : Nat) (h2 : w.heap[g2]? = some (.cells #[.int .i64 1, .int .i64 0, .string ⟨#[]⟩, .slice none 0 0, .slice none 0 0, .slice none 0 0, .int .i64 1, .int .i64 1, .string ⟨#[]⟩, .slice none 0 0, .slice none 0 0, .slice none 0 0] 26 (0, 0)))
    (h : w.heap[g]? = some (.cells #[.int .i64 6, .int .i64 0, .string ⟨#[]⟩, .slice none 0 0, .slice (some ⟨g2, 0, none⟩) 2 2, .slice none 0 0] 26 (0, 0))) :
    TmIn Tt w (tLm 0 1) (.agg #[.int .i64 5, .int .i64 0, .string ⟨#[]⟩, .slice none 0 0, .slice (some ⟨g, 0, none⟩) 1 1, .slice none 0 0]) := by
  refine .mk _ _ _ _ _ _ _ _ _ ⟨by decide, by decide⟩ ⟨by decide, by decide⟩ (cl_nil0 w) ⟨_, _, rfl, Nat.le_refl _, fun j x hx => ?_⟩ (sy_nil0 w)
  have hj : j = 0 := by have := some_lt hx; simp at this; omega
  subst hj
  simp only [List.getElem?_cons_zero, Option.some.injEq] at hx
  subst hx
  refine ⟨g, 0, _, _, _, _, _, _, rfl, trivial, (Array.getElem?_eq_some_iff.1 h).1, tApp_in w g2 h2, ?_, ?_, ?_, ?_, ?_, ?_⟩ <;> (unfold World.cell?; simp [h])
theorem row1_in (w : World) (g : Nat) (n : Fin 4294967296) (h : w.heap[g]? = some (.cells #[.int .u32 (n.val : Int), .int .u32 0] 48 (0, 0))) : ClRow Tt w [cOf n] (.slice (some ⟨g, 0, none⟩) 1 1) := by
  refine ⟨_, _, rfl, Nat.le_refl _, fun j x hx => ?_⟩
  have hj : j = 0 := by have := some_lt hx; simp at this; omega
  subst hj
  simp only [List.getElem?_cons_zero, Option.some.injEq] at hx
  subst hx
  refine ⟨g, 0, rfl, trivial, (Array.getElem?_eq_some_iff.1 h).1, ?_, ?_⟩ <;> (unfold World.cell?; simp [h, cOf])
theorem tPl_in (w : World) (g g2 : Nat) (n : Fin 4294967296) (h2 : w.heap[g2]? = some (.cells #[.int .u32 (n.val : Int), .int .u32 0] 48 (0, 0)))
    (h : w.heap[g]? = some (.cells #[.int .i64 21, .int .i64 0, .string ⟨#[]⟩, .slice (some ⟨g2, 0, none⟩) 1 1, .slice none 0 0, .slice none 0 0] 26 (0, 0))) :
    TmIn Tt w (tPl n) (.agg #[.int .i64 12, .int .i64 0, .string ⟨#[]⟩, .slice none 0 0, .slice (some ⟨g, 0, none⟩) 1 1, .slice none 0 0]) := by
  refine .mk _ _ _ _ _ _ _ _ _ ⟨by decide, by decide⟩ ⟨by decide, by decide⟩ (cl_nil0 w) ⟨_, _, rfl, Nat.le_refl _, fun j x hx => ?_⟩ (sy_nil0 w)
  have hj : j = 0 := by have := some_lt hx; simp at this; omega
  subst hj
  simp only [List.getElem?_cons_zero, Option.some.injEq] at hx
  subst hx
  have hl : TmIn Tt w (tLp n) (.agg #[.int .i64 21, .int .i64 0, .string ⟨#[]⟩, .slice (some ⟨g2, 0, none⟩) 1 1, .slice none 0 0, .slice none 0 0]) :=
    .mk _ _ _ _ _ _ _ _ _ ⟨by decide, by decide⟩ ⟨by decide, by decide⟩ (row1_in w g2 n h2) (kd_nil0 w) (sy_nil0 w)
  refine ⟨g, 0, _, _, _, _, _, _, rfl, trivial, (Array.getElem?_eq_some_iff.1 h).1, hl, ?_, ?_, ?_, ?_, ?_, ?_⟩ <;> (unfold World.cell?; simp [h])
set_option maxRecDepth 100000 in
set_option maxHeartbeats 4000000 in
theorem works11_any (hLA : LAll) (w : World) : Calls Try.prog 17 #[] w fun e w' => e = .returned (.bool true) ∧ Below w.heap.size w w' := by
  obtain ⟨w1, hw1⟩ : ∃ W, W = ((w.alloc (.cells #[.int .i64 1, .int .i64 0, .string ⟨#[]⟩, .slice none 0 0, .slice none 0 0, .slice none 0 0, .int .i64 1, .int .i64 1, .string ⟨#[]⟩, .slice none 0 0, .slice none 0 0, .slice none 0 0] 26)).alloc (.cells #[.int .i64 6, .int .i64 0, .string ⟨#[]⟩, .slice none 0 0, .slice (some ⟨w.heap.size, 0, none⟩) 2 2, .slice none 0 0] 26)).alloc (.cells #[.int .i64 5, .int .i64 0, .string ⟨#[]⟩, .slice none 0 0, .slice (some ⟨w.heap.size + 1, 0, none⟩) 1 1, .slice none 0 0] 26) := ⟨_, rfl⟩
  have b1 : Below w.heap.size w w1 := by rw [hw1]; exact bchain (bchain (belowA _ _) (belowA _ _)) (belowA _ _)
  have m0 : w1.heap[w.heap.size]? = some (.cells #[.int .i64 1, .int .i64 0, .string ⟨#[]⟩, .slice none 0 0, .slice none 0 0, .slice none 0 0, .int .i64 1, .int .i64 1, .string ⟨#[]⟩, .slice none 0 0, .slice none 0 0, .slice none 0 0] 26 (0, 0)) := by
    rw [hw1]; exact (Below.heap_alloc _ _ _ (by simp; omega)).trans ((Below.heap_alloc _ _ _ (by simp)).trans (heapNew w _))
  have m1 : w1.heap[w.heap.size + 1]? = some (.cells #[.int .i64 6, .int .i64 0, .string ⟨#[]⟩, .slice none 0 0, .slice (some ⟨w.heap.size, 0, none⟩) 2 2, .slice none 0 0] 26 (0, 0)) := by
    rw [hw1]; refine (Below.heap_alloc _ _ _ (by simp)).trans ?_
    have := heapNew (w.alloc (.cells #[.int .i64 1, .int .i64 0, .string ⟨#[]⟩, .slice none 0 0, .slice none 0 0, .slice none 0 0, .int .i64 1, .int .i64 1, .string ⟨#[]⟩, .slice none 0 0, .slice none 0 0, .slice none 0 0] 26)) (.cells #[.int .i64 6, .int .i64 0, .string ⟨#[]⟩, .slice none 0 0, .slice (some ⟨w.heap.size, 0, none⟩) 2 2, .slice none 0 0] 26); rwa [World.size_alloc] at this
  have m2 : Six w1 (w.heap.size + 2) (.int .i64 5) (.int .i64 0) (.string ⟨#[]⟩) (.slice none 0 0) (.slice (some ⟨w.heap.size + 1, 0, none⟩) 1 1) (.slice none 0 0) := ⟨by
    rw [hw1]
    have := heapNew ((w.alloc (.cells #[.int .i64 1, .int .i64 0, .string ⟨#[]⟩, .slice none 0 0, .slice none 0 0, .slice none 0 0, .int .i64 1, .int .i64 1, .string ⟨#[]⟩, .slice none 0 0, .slice none 0 0, .slice none 0 0] 26)).alloc (.cells #[.int .i64 6, .int .i64 0, .string ⟨#[]⟩, .slice none 0 0, .slice (some ⟨w.heap.size, 0, none⟩) 2 2, .slice none 0 0] 26)) (.cells #[.int .i64 5, .int .i64 0, .string ⟨#[]⟩, .slice none 0 0, .slice (some ⟨w.heap.size + 1, 0, none⟩) 1 1, .slice none 0 0] 26); rwa [World.size_alloc, World.size_alloc] at this⟩
  have c2 := lvars_any hLA (tLm 0 1) _ w1 (tLm_in w1 (w.heap.size + 1) w.heap.size m0 m1) lw_b1 0 2 ⟨by decide, by decide⟩
  rw [lw_vE, lw_vT] at c2
  obtain ⟨y0, y1, y2, y3, y4, y5, _⟩ := m2.cells
  have H1 : Hid (_ = _) := hw1
  clear hw1 m0 m1 m2
  go_enter Try.func17, Try.ntmps17
  go_upto_region 2 with fail
  rw [← H1.out]
  clear H1
  go_wp2_with fail
  refine c2.mono ?_
  rintro e w2 ⟨v2, rfl, hv2, b2⟩
  clear c2 y0 y1 y2 y3 y4 y5
  obtain ⟨ra2, rc2, ka2, kc2, sa2, sc2, rfl, ht2⟩ := hv2.form
  have B2 := bchain b1 b2
  obtain ⟨A, hA⟩ : ∃ A, A = w2.heap.size := ⟨_, rfl⟩
  obtain ⟨w3, hw3⟩ : ∃ W, W = w2.alloc (.cells #[.int .i64 5, .int .i64 0, .string ⟨#[]⟩, .slice ra2 0 rc2, .slice ka2 1 kc2, .slice sa2 0 sc2] 26) := ⟨_, rfl⟩
  have b3 : Below w2.heap.size w2 w3 := by rw [hw3]; exact belowA _ _
  have n3 : Six w3 A (.int .i64 5) (.int .i64 0) (.string ⟨#[]⟩) (.slice ra2 0 rc2) (.slice ka2 1 kc2) (.slice sa2 0 sc2) := ⟨by rw [hw3, hA]; exact heapNew _ _⟩
  have B3 := bchain B2 b3
  have HTa : Hid (TmTop Tt w3 (tLm 0 3) ra2 rc2 ka2 kc2 sa2 sc2) := (ht2.blw b3).up fun _ _ => trivial
  have HA : Hid (A = w2.heap.size) := hA
  have H3 : Hid (_ = _) := hw3
  clear hA hw3 ht2 hv2
  simp only [tLm, List.length_cons, List.length_nil, Nat.zero_add]
  go_upto_region 3 with fail
  rw [← H3.out]
  simp only [← HA.out]
  clear H3
  obtain ⟨C1, hC1⟩ : ∃ c, c = w3.heap.size := ⟨_, rfl⟩
  obtain ⟨w4, hw4⟩ : ∃ W, W = ((w3.alloc (.cells #[.int .u32 3, .int .u32 0] 48)).alloc (.cells #[.int .i64 21, .int .i64 0, .string ⟨#[]⟩, .slice (some ⟨C1, 0, none⟩) 1 1, .slice none 0 0, .slice none 0 0] 26)).alloc (.cells #[.int .i64 12, .int .i64 0, .string ⟨#[]⟩, .slice none 0 0, .slice (some ⟨C1 + 1, 0, none⟩) 1 1, .slice none 0 0] 26) := ⟨_, rfl⟩
  have b4 : Below w3.heap.size w3 w4 := by rw [hw4]; exact bchain (bchain (belowA _ _) (belowA _ _)) (belowA _ _)
  have p0 : w4.heap[C1]? = some (.cells #[.int .u32 3, .int .u32 0] 48 (0, 0)) := by
    rw [hw4, hC1]; exact (Below.heap_alloc _ _ _ (by simp; omega)).trans ((Below.heap_alloc _ _ _ (by simp)).trans (heapNew w3 _))
  have p1 : w4.heap[C1 + 1]? = some (.cells #[.int .i64 21, .int .i64 0, .string ⟨#[]⟩, .slice (some ⟨C1, 0, none⟩) 1 1, .slice none 0 0, .slice none 0 0] 26 (0, 0)) := by
    rw [hw4, hC1]; refine (Below.heap_alloc _ _ _ (by simp)).trans ?_
    have := heapNew (w3.alloc (.cells #[.int .u32 3, .int .u32 0] 48)) (.cells #[.int .i64 21, .int .i64 0, .string ⟨#[]⟩, .slice (some ⟨w3.heap.size, 0, none⟩) 1 1, .slice none 0 0, .slice none 0 0] 26); rwa [World.size_alloc] at this
  have p2 : Six w4 (C1 + 2) (.int .i64 12) (.int .i64 0) (.string ⟨#[]⟩) (.slice none 0 0) (.slice (some ⟨C1 + 1, 0, none⟩) 1 1) (.slice none 0 0) := ⟨by
    rw [hw4, hC1]
    have := heapNew ((w3.alloc (.cells #[.int .u32 3, .int .u32 0] 48)).alloc (.cells #[.int .i64 21, .int .i64 0, .string ⟨#[]⟩, .slice (some ⟨w3.heap.size, 0, none⟩) 1 1, .slice none 0 0, .slice none 0 0] 26)) (.cells #[.int .i64 12, .int .i64 0, .string ⟨#[]⟩, .slice none 0 0, .slice (some ⟨w3.heap.size + 1, 0, none⟩) 1 1, .slice none 0 0] 26); rwa [World.size_alloc, World.size_alloc] at this⟩
  have c5 := ldims_any hLA (tPl 3) _ w4 (tPl_in w4 (C1 + 1) C1 3 p0 p1) lw_b2 0 1 ⟨by decide, by decide⟩
  rw [lw_dE, lw_dT] at c5
  obtain ⟨y0, y1, y2, y3, y4, y5, _⟩ := p2.cells
  have H4 : Hid (_ = _) := hw4
  have HC : Hid (C1 = w3.heap.size) := hC1
  clear hw4 hC1 p0 p1 p2
  go_upto_region 4 with fail
  simp only [← HC.out]
  rw [← H4.out]
  clear H4
  go_wp2_with fail
  refine c5.mono ?_
  rintro e w5 ⟨v5, rfl, hv5, b5⟩
  clear c5 y0 y1 y2 y3 y4 y5
  obtain ⟨ra5, rc5, ka5, kc5, sa5, sc5, rfl, ht5⟩ := hv5.form
  obtain ⟨D, hD⟩ : ∃ A, A = w5.heap.size := ⟨_, rfl⟩
  obtain ⟨w6, hw6⟩ : ∃ W, W = w5.alloc (.cells #[.int .i64 12, .int .i64 0, .string ⟨#[]⟩, .slice ra5 0 rc5, .slice ka5 1 kc5, .slice sa5 0 sc5] 26) := ⟨_, rfl⟩
  have b6 : Below w5.heap.size w5 w6 := by rw [hw6]; exact belowA _ _
  have n6 : Six w6 D (.int .i64 12) (.int .i64 0) (.string ⟨#[]⟩) (.slice ra5 0 rc5) (.slice ka5 1 kc5) (.slice sa5 0 sc5) := ⟨by rw [hw6, hD]; exact heapNew _ _⟩
  have b36 := bchain b4 (bchain b5 b6)
  have B6 := bchain B3 b36
  have tb : TmTop Tt w6 (tPl 5) ra5 rc5 ka5 kc5 sa5 sc5 := (ht5.blw b6).up fun _ _ => trivial
  have ta := HTa.out.blw b36
  have n3b := n3.blw b36
  have Hn6 : Hid (_ = _) := hD
  have H6 : Hid (_ = _) := hw6
  clear hD hw6 ht5 hv5
  obtain ⟨g1, o1, ra6, rc6, ka6, kc6, sa6, sc6, rfl, _, s1, t1⟩ := ta.kids.at (j := 0) (x := tApp 0 3) rfl
  obtain ⟨g2, o2, ra7, rc7, ka7, kc7, sa7, sc7, rfl, _, s2, t2⟩ := t1.kids.at (j := 0) (x := tV 0) rfl
  obtain ⟨g3, o3, ra8, rc8, ka8, kc8, sa8, sc8, e3, _, s3, t3⟩ := t1.kids.at (j := 1) (x := tV 3) rfl
  injection e3 with e3
  injection e3 with e3 e4
  subst e3 e4
  obtain ⟨g4, o4, ra9, rc9, ka9, kc9, sa9, sc9, rfl, _, s4, t4⟩ := tb.kids.at (j := 0) (x := tLp 5) rfl
  have q0 := n3b.cells.2.2.2.2.1
  have q1 : w6.cell? ⟨g1, o1 + 4, none⟩ = some (.slice (some ⟨g2, o2, none⟩) 2 kc6) := by have := s1.c4; simpa [tApp] using this
  have q2 : w6.cell? ⟨g2, o2 + 1, none⟩ = some (.int .i64 0) := by have := s2.c1; simpa [tV] using this
  have q3 : w6.cell? ⟨g2, o2 + 6 + 1, none⟩ = some (.int .i64 3) := by have := s3.c1; simpa [tV] using this
  have q4 := n6.cells.2.2.2.2.1
  have q5 : w6.cell? ⟨g4, o4 + 3, none⟩ = some (.slice ra9 1 rc9) := by have := s4.c3; simpa [tLp] using this
  have b7 := belowA w6 (.cells #[.int .u32 5, .int .u32 0] 48)
  have c7 := same_any [cOf 5] [cOf 5] (.slice ra9 1 rc9) _ (w6.alloc (.cells #[.int .u32 5, .int .u32 0] 48)) (t4.row.blw b7).row (row1_in _ w6.heap.size 5 (heapNew w6 _)).row (by simp)
  rw [decide_eq_true rfl] at c7
  clear s1 t1 s2 t2 s3 t3 s4 t4 ta tb n3 n3b n6
  simp only [tPl, List.length_cons, List.length_nil, Nat.zero_add]
  go_upto_region 5 with fail
  rw [← H6.out]
  simp only [← Hn6.out]
  clear H6
  go_wp2_with fail
  refine c7.mono ?_
  rintro e w9 ⟨rfl, b9⟩
  clear c7 q0 q1 q2 q3 q4 q5
  go_wp2_with fail
  go_ret
  exact ⟨rfl, bchain B6 (bchain b7 b9)⟩
end Go.Proofs.Ytmaijbeghemkbaa
