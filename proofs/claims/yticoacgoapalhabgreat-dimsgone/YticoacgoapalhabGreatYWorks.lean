/- The chapter's examples. -/
import Derived.Deep.RegionHeld3
import Derived.Test.YticoacgoapalhabGreatYSame
import Derived.Test.YticoacgoapalhabGreatYUses
import Derived.Test.YticoacgoapalhabGreatYRight
namespace Go.Proofs.YticoacgoapalhabGreat
open Go.RowKit
set_option linter.unusedVariables false
set_option linter.unusedSimpArgs false

def tV (n : Int) : Tm := .mk 1 n ⟨#[]⟩ [] [] []
def tL (n : Int) : Tm := .mk 5 0 ⟨#[]⟩ [] [tV n] []
def tA : Tm := .mk 6 0 ⟨#[]⟩ [] [tV 1, tL 2] []
theorem tL_pts (n : Int) : (tL n).pts = [(tV n, 1, 0)] := by rfl
theorem tV_pts (n : Int) : (tV n).pts = [] := by rfl
theorem tA_pts : tA.pts = [(tV 1, 0, 0), (tL 2, 0, 0)] := by rfl
theorem w1_right : rightN 0 0 (tL 0) = 0 := by
  have hd : ¬ 200 < depthT (tL 0) := by simp [depthT, tL, tV, Tm.fold, maxL]
  have n1 : (tL 0).node false 0 0 0 0 = true := by kernel_rfl
  have n2 : (tV 0).node false 0 0 1 0 = true := by kernel_rfl
  have ho : okT false 0 0 (tL 0) 0 0 = true := by
    rw [ok_eq, tL_pts, n1]
    simp only [List.all_cons, List.all_nil, Bool.and_true, Bool.true_and, Nat.zero_add]
    rw [ok_eq, tV_pts, n2]; rfl
  simp [rightN, wrongN, hd, ho]
theorem w2_right : rightN 0 0 (tV 0) = 100 := by
  have hd : ¬ 200 < depthT (tV 0) := by simp [depthT, tL, tV, Tm.fold, maxL]
  have n1 : (tV 0).node false 0 0 0 0 = false := by kernel_rfl
  have ho : okT false 0 0 (tV 0) 0 0 = false := by rw [ok_eq, n1]; rfl
  simp [rightN, wrongN, hd, ho]
theorem us_tV (n m : Int) (b : Nat) : usT n (tV m) b = (decide (0 ≤ n) && decide (m = n + b)) := by rw [us_eq, tV_pts, Bool.eq_iff_iff]; simp [tV]; exact fun _ => ⟨of_decide_eq_true, decide_eq_true⟩
theorem us_tL (n m : Int) (b : Nat) : usT n (tL m) b = usT n (tV m) (b + 1) := by rw [us_eq, tL_pts]; simp [tL]
theorem us_tA (n : Int) (b : Nat) : usT n tA b = (usT n (tV 1) b || usT n (tL 2) b) := by rw [us_eq, tA_pts]; simp [tA]
theorem w3_size : sizeT tA = 4 := by simp [sizeT, tA, tL, tV, Tm.fold]
theorem w4_uses : usT 1 tA 0 = true := by rw [us_tA, us_tV]; rfl
theorem w5_uses : usT 0 tA 0 = false := by rw [us_tA, us_tL, us_tV, us_tV]; rfl
theorem blk_tA : blk tA ≤ 20000 := by have e0 : ByteArray.size ⟨#[]⟩ = 0 := rfl; simp [blk, tA, tL, tV, Tm.fold, e0]
theorem blk_tL : blk (tL 0) ≤ 20000 := by have e0 : ByteArray.size ⟨#[]⟩ = 0 := rfl; simp [blk, tA, tL, tV, Tm.fold, e0]
theorem blk_tV : blk (tV 0) ≤ 20000 := by have e0 : ByteArray.size ⟨#[]⟩ = 0 := rfl; simp [blk, tA, tL, tV, Tm.fold, e0]
theorem cl_nil0 (w : World) : ClRow Tt w [] (.slice none 0 0) := ⟨none, 0, rfl, Nat.le_refl _, fun j c h => by simp at h⟩
theorem kd_nil0 (w : World) : KdT Tt w (TmIn Tt w) [] (.slice none 0 0) := ⟨none, 0, rfl, Nat.le_refl _, fun j c h => by simp at h⟩
theorem sy_nil0 (w : World) : SyT Tt w (TmIn Tt w) [] (.slice none 0 0) := ⟨none, 0, rfl, Nat.le_refl _, fun j c h => by simp at h⟩
theorem tV_in (w : World) (n : Int) (hn : I64 n) : TmIn Tt w (tV n) (.agg #[.int .i64 1, .int .i64 n, .string ⟨#[]⟩, .slice none 0 0, .slice none 0 0, .slice none 0 0]) :=
  .mk _ _ _ _ _ _ _ _ _ ⟨by decide, by decide⟩ hn (cl_nil0 w) (kd_nil0 w) (sy_nil0 w)
theorem tL_in (w : World) (n : Int) (hn : I64 n) (g : Nat) (h : w.heap[g]? = some (.cells #[.int .i64 1, .int .i64 n, .string ⟨#[]⟩, .slice none 0 0, .slice none 0 0, .slice none 0 0] 26 (0, 0))) :
    TmIn Tt w (tL n) (.agg #[.int .i64 5, .int .i64 0, .string ⟨#[]⟩, .slice none 0 0, .slice (some ⟨g, 0, none⟩) 1 1, .slice none 0 0]) := by
  refine .mk _ _ _ _ _ _ _ _ _ ⟨by decide, by decide⟩ ⟨by decide, by decide⟩ (cl_nil0 w) ⟨_, _, rfl, Nat.le_refl _, fun j x hx => ?_⟩ (sy_nil0 w)
  have hj : j = 0 := by have := some_lt hx; simp at this; omega
  subst hj
  simp only [List.getElem?_cons_zero, Option.some.injEq] at hx
  subst hx
  refine ⟨g, 0, _, _, _, _, _, _, rfl, trivial, (Array.getElem?_eq_some_iff.1 h).1, tV_in w n hn, ?_, ?_, ?_, ?_, ?_, ?_⟩ <;> (unfold World.cell?; simp [h])
theorem tA_in (w : World) (g g2 : Nat) (h2 : w.heap[g2]? = some (.cells #[.int .i64 1, .int .i64 2, .string ⟨#[]⟩, .slice none 0 0, .slice none 0 0, .slice none 0 0] 26 (0, 0)))
    (h : w.heap[g]? = some (.cells #[.int .i64 1, .int .i64 1, .string ⟨#[]⟩, .slice none 0 0, .slice none 0 0, .slice none 0 0, .int .i64 5, .int .i64 0, .string ⟨#[]⟩, .slice none 0 0, .slice (some ⟨g2, 0, none⟩) 1 1, .slice none 0 0] 26 (0, 0))) :
    TmIn Tt w tA (.agg #[.int .i64 6, .int .i64 0, .string ⟨#[]⟩, .slice none 0 0, .slice (some ⟨g, 0, none⟩) 2 2, .slice none 0 0]) := by
  refine .mk _ _ _ _ _ _ _ _ _ ⟨by decide, by decide⟩ ⟨by decide, by decide⟩ (cl_nil0 w) ⟨_, _, rfl, Nat.le_refl _, fun j x hx => ?_⟩ (sy_nil0 w)
  have hj : j = 0 ∨ j = 1 := by have := some_lt hx; simp at this; omega
  rcases hj with rfl | rfl
  · simp only [List.getElem?_cons_zero, Option.some.injEq] at hx
    subst hx
    refine ⟨g, 0, _, _, _, _, _, _, rfl, trivial, (Array.getElem?_eq_some_iff.1 h).1, tV_in w 1 ⟨by decide, by decide⟩, ?_, ?_, ?_, ?_, ?_, ?_⟩ <;> (unfold World.cell?; simp [h])
  · simp only [List.getElem?_cons_succ, List.getElem?_cons_zero, Option.some.injEq] at hx
    subst hx
    refine ⟨g, 0, _, _, _, _, _, _, rfl, trivial, (Array.getElem?_eq_some_iff.1 h).1, tL_in w 2 ⟨by decide, by decide⟩ g2 h2, ?_, ?_, ?_, ?_, ?_, ?_⟩ <;> (unfold World.cell?; simp [h])
theorem box_works (w : World) : ∃ W, W = ((((w.alloc (.cells #[.int .i64 1, .int .i64 0, .string ⟨#[]⟩, .slice none 0 0, .slice none 0 0, .slice none 0 0] 26)).alloc (.cells #[.int .i64 5, .int .i64 0, .string ⟨#[]⟩, .slice none 0 0, .slice (some ⟨w.heap.size, 0, none⟩) 1 1, .slice none 0 0] 26)).alloc (.cells #[.int .i64 1, .int .i64 2, .string ⟨#[]⟩, .slice none 0 0, .slice none 0 0, .slice none 0 0] 26)).alloc (.cells #[.int .i64 1, .int .i64 1, .string ⟨#[]⟩, .slice none 0 0, .slice none 0 0, .slice none 0 0, .int .i64 5, .int .i64 0, .string ⟨#[]⟩, .slice none 0 0, .slice (some ⟨w.heap.size + 2, 0, none⟩) 1 1, .slice none 0 0] 26)).alloc (.cells #[.int .i64 6, .int .i64 0, .string ⟨#[]⟩, .slice none 0 0, .slice (some ⟨w.heap.size + 3, 0, none⟩) 2 2, .slice none 0 0] 26) ∧ Below w.heap.size w W ∧ W.heap.size = w.heap.size + 5 ∧ Six W (w.heap.size + 1) (.int .i64 5) (.int .i64 0) (.string ⟨#[]⟩) (.slice none 0 0) (.slice (some ⟨w.heap.size, 0, none⟩) 1 1) (.slice none 0 0) ∧ Six W (w.heap.size + 4) (.int .i64 6) (.int .i64 0) (.string ⟨#[]⟩) (.slice none 0 0) (.slice (some ⟨w.heap.size + 3, 0, none⟩) 2 2) (.slice none 0 0) ∧
    TmIn Tt W (tL 0) (.agg #[.int .i64 5, .int .i64 0, .string ⟨#[]⟩, .slice none 0 0, .slice (some ⟨w.heap.size, 0, none⟩) 1 1, .slice none 0 0]) ∧ TmIn Tt W tA (.agg #[.int .i64 6, .int .i64 0, .string ⟨#[]⟩, .slice none 0 0, .slice (some ⟨w.heap.size + 3, 0, none⟩) 2 2, .slice none 0 0]) := by
  obtain ⟨w1, h1⟩ : ∃ w1, w1 = w.alloc (.cells #[.int .i64 1, .int .i64 0, .string ⟨#[]⟩, .slice none 0 0, .slice none 0 0, .slice none 0 0] 26) := ⟨_, rfl⟩
  obtain ⟨w2, h2⟩ : ∃ w2, w2 = w1.alloc (.cells #[.int .i64 5, .int .i64 0, .string ⟨#[]⟩, .slice none 0 0, .slice (some ⟨w.heap.size, 0, none⟩) 1 1, .slice none 0 0] 26) := ⟨_, rfl⟩
  obtain ⟨w3, h3⟩ : ∃ w3, w3 = w2.alloc (.cells #[.int .i64 1, .int .i64 2, .string ⟨#[]⟩, .slice none 0 0, .slice none 0 0, .slice none 0 0] 26) := ⟨_, rfl⟩
  obtain ⟨w4, h4⟩ : ∃ w4, w4 = w3.alloc (.cells #[.int .i64 1, .int .i64 1, .string ⟨#[]⟩, .slice none 0 0, .slice none 0 0, .slice none 0 0, .int .i64 5, .int .i64 0, .string ⟨#[]⟩, .slice none 0 0, .slice (some ⟨w.heap.size + 2, 0, none⟩) 1 1, .slice none 0 0] 26) := ⟨_, rfl⟩
  obtain ⟨w5, h5⟩ : ∃ w5, w5 = w4.alloc (.cells #[.int .i64 6, .int .i64 0, .string ⟨#[]⟩, .slice none 0 0, .slice (some ⟨w.heap.size + 3, 0, none⟩) 2 2, .slice none 0 0] 26) := ⟨_, rfl⟩
  have s1 : w1.heap.size = w.heap.size + 1 := by rw [h1]; simp
  have s2 : w2.heap.size = w.heap.size + 2 := by rw [h2]; simp; omega
  have s3 : w3.heap.size = w.heap.size + 3 := by rw [h3]; simp; omega
  have s4 : w4.heap.size = w.heap.size + 4 := by rw [h4]; simp; omega
  have s5 : w5.heap.size = w.heap.size + 5 := by rw [h5]; simp; omega
  have m0 := heapNew w (.cells #[.int .i64 1, .int .i64 0, .string ⟨#[]⟩, .slice none 0 0, .slice none 0 0, .slice none 0 0] 26)
  have m1 := heapNew w1 (.cells #[.int .i64 5, .int .i64 0, .string ⟨#[]⟩, .slice none 0 0, .slice (some ⟨w.heap.size, 0, none⟩) 1 1, .slice none 0 0] 26)
  have m2 := heapNew w2 (.cells #[.int .i64 1, .int .i64 2, .string ⟨#[]⟩, .slice none 0 0, .slice none 0 0, .slice none 0 0] 26)
  have m3 := heapNew w3 (.cells #[.int .i64 1, .int .i64 1, .string ⟨#[]⟩, .slice none 0 0, .slice none 0 0, .slice none 0 0, .int .i64 5, .int .i64 0, .string ⟨#[]⟩, .slice none 0 0, .slice (some ⟨w.heap.size + 2, 0, none⟩) 1 1, .slice none 0 0] 26)
  have m4 := heapNew w4 (.cells #[.int .i64 6, .int .i64 0, .string ⟨#[]⟩, .slice none 0 0, .slice (some ⟨w.heap.size + 3, 0, none⟩) 2 2, .slice none 0 0] 26)
  have b1 : Below w.heap.size w w1 := by rw [h1]; exact belowA _ _
  have b2 : Below w1.heap.size w1 w2 := by rw [h2]; exact belowA _ _
  have b3 : Below w2.heap.size w2 w3 := by rw [h3]; exact belowA _ _
  have b4 : Below w3.heap.size w3 w4 := by rw [h4]; exact belowA _ _
  have b5 : Below w4.heap.size w4 w5 := by rw [h5]; exact belowA _ _
  rw [← h1] at m0
  rw [← h2, s1] at m1
  rw [← h3, s2] at m2
  rw [← h4, s3] at m3
  rw [← h5, s4] at m4
  have b45 := bchain b4 b5
  have b35 := bchain b3 b45
  have b25 := bchain b2 b35
  have q0 := (b25.block _ (by omega)).trans m0
  have q1 := (b35.block _ (by omega)).trans m1
  have q2 := (b45.block _ (by omega)).trans m2
  have q3 := (b5.block _ (by omega)).trans m3
  refine ⟨w5, by rw [h5, h4, h3, h2, h1], bchain b1 b25, s5, ⟨q1⟩, ⟨m4⟩, tL_in _ 0 ⟨by decide, by decide⟩ _ q0, tA_in _ _ _ q2 q3⟩
def WkS (w : World) (W : World) : Prop := Six W (w.heap.size + 1) (.int .i64 5) (.int .i64 0) (.string ⟨#[]⟩) (.slice none 0 0) (.slice (some ⟨w.heap.size, 0, none⟩) 1 1) (.slice none 0 0) ∧ Six W (w.heap.size + 4) (.int .i64 6) (.int .i64 0) (.string ⟨#[]⟩) (.slice none 0 0) (.slice (some ⟨w.heap.size + 3, 0, none⟩) 2 2) (.slice none 0 0)
end Go.Proofs.YticoacgoapalhabGreat
