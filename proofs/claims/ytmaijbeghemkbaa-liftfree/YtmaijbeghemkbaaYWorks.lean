/- The chapter's examples. -/
import Derived.Deep.RegionHeld3
import Derived.Test.YtmaijbeghemkbaaYSame
import Derived.Test.YtmaijbeghemkbaaYUses
import Derived.Test.YtmaijbeghemkbaaYRight
namespace Go.Proofs.Ytmaijbeghemkbaa
open Go.RowKit
set_option linter.unusedVariables false
set_option linter.unusedSimpArgs false

set_option maxRecDepth 100000 in
set_option maxHeartbeats 4000000 in
theorem usesT_any (n : Int) (t : Tm) (v : Value) (w : World) (hv : TmIn Tt w t v) (hb : blk t ≤ 100000) :
    Calls Try.prog 25 #[v, .int .i64 n] w fun e w' => e = .returned (.bool (usT n t 0)) ∧ Below w.heap.size w w' := by
  obtain ⟨ra, rc, ka, kc, sa, sc, rfl, ht⟩ := hv.form
  obtain ⟨w1, hw1⟩ : ∃ w1, w1 = w.alloc (.cells #[.int .i64 t.kind, .int .i64 t.n, .string t.name, .slice ra t.r.length rc, .slice ka t.kids.length kc, .slice sa t.sys.length sc] 26) := ⟨_, rfl⟩
  have b1 : Below w.heap.size w w1 := by rw [hw1]; exact belowA _ _
  have c6 : Cs6 w1 w.heap.size 0 t ra rc ka kc sa sc := by rw [hw1]; exact cs6_new w t ra rc ka kc sa sc
  have cc := uses_any n (blk t) t 0 0 w.heap.size 0 ra rc ka kc sa sc w1 c6 (ht.blw b1) (Nat.le_refl _) (by omega) (by omega)
  have H1 : Hid (_ = _) := hw1
  clear hw1 hv ht c6
  go_enter Try.func25, Try.ntmps25
  go_upto_region 1 with fail
  rw [← H1.out]
  go_wp2_with fail
  refine cc.mono ?_
  rintro e w3 ⟨rfl, hb3⟩
  go_wp2_with fail
  go_ret
  exact ⟨rfl, bchain b1 hb3⟩
def tV (n : Int) : Tm := .mk 1 n ⟨#[]⟩ [] [] []
def tL (n : Int) : Tm := .mk 5 0 ⟨#[]⟩ [] [tV n] []
def tA : Tm := .mk 6 0 ⟨#[]⟩ [] [tV 1, tL 2] []
theorem tL_pts (n : Int) : (tL n).pts = [(tV n, 1, 0)] := by rfl
theorem tV_pts (n : Int) : (tV n).pts = [] := by rfl
theorem tA_pts : tA.pts = [(tV 1, 0, 0), (tL 2, 0, 0)] := by rfl
theorem w1_right : rightN 0 0 (tL 0) = 0 := by
  have hd : ¬ 200 < depthT (tL 0) := by simp [depthT, tL, tV, Tm.fold, maxL]
  have n1 : (tL 0).node false 0 0 0 0 = true := by kernel_rfl
  have n2 : (tV 0).node false 0 0 1 0 = true := by kernel_rfl
  have ho : okT false 0 0 (tL 0) 0 0 = true := by
    rw [ok_eq, tL_pts, n1]
    simp only [List.all_cons, List.all_nil, Bool.and_true, Bool.true_and, Nat.zero_add]
    rw [ok_eq, tV_pts, n2]; rfl
  simp [rightN, wrongN, hd, ho]
theorem w2_right : rightN 0 0 (tV 0) = 100 := by
  have hd : ¬ 200 < depthT (tV 0) := by simp [depthT, tL, tV, Tm.fold, maxL]
  have n1 : (tV 0).node false 0 0 0 0 = false := by kernel_rfl
  have ho : okT false 0 0 (tV 0) 0 0 = false := by rw [ok_eq, n1]; rfl
  simp [rightN, wrongN, hd, ho]
theorem us_tV (n m : Int) (b : Nat) : usT n (tV m) b = (decide (0 ≤ n) && decide (m = n + b)) := by rw [us_eq, tV_pts, Bool.eq_iff_iff]; simp [tV]; exact fun _ => ⟨of_decide_eq_true, decide_eq_true⟩
theorem us_tL (n m : Int) (b : Nat) : usT n (tL m) b = usT n (tV m) (b + 1) := by rw [us_eq, tL_pts]; simp [tL]
theorem us_tA (n : Int) (b : Nat) : usT n tA b = (usT n (tV 1) b || usT n (tL 2) b) := by rw [us_eq, tA_pts]; simp [tA]
theorem w3_size : sizeT tA = 4 := by simp [sizeT, tA, tL, tV, Tm.fold]
theorem w4_uses : usT 1 tA 0 = true := by rw [us_tA, us_tV]; rfl
theorem w5_uses : usT 0 tA 0 = false := by rw [us_tA, us_tL, us_tV, us_tV]; rfl
theorem blk_tA : blk tA ≤ 20000 := by have e0 : ByteArray.size ⟨#[]⟩ = 0 := rfl; simp [blk, tA, tL, tV, Tm.fold, e0]
theorem blk_tL : blk (tL 0) ≤ 20000 := by have e0 : ByteArray.size ⟨#[]⟩ = 0 := rfl; simp [blk, tA, tL, tV, Tm.fold, e0]
theorem blk_tV : blk (tV 0) ≤ 20000 := by have e0 : ByteArray.size ⟨#[]⟩ = 0 := rfl; simp [blk, tA, tL, tV, Tm.fold, e0]
theorem cl_nil0 (w : World) : ClRow Tt w [] (.slice none 0 0) := ⟨none, 0, rfl, Nat.le_refl _, fun j c h => by simp at h⟩
theorem kd_nil0 (w : World) : KdT Tt w (TmIn Tt w) [] (.slice none 0 0) := ⟨none, 0, rfl, Nat.le_refl _, fun j c h => by simp at h⟩
theorem sy_nil0 (w : World) : SyT Tt w (TmIn Tt w) [] (.slice none 0 0) := ⟨none, 0, rfl, Nat.le_refl _, fun j c h => by simp at h⟩
theorem tV_in (w : World) (n : Int) (hn : I64 n) : TmIn Tt w (tV n) (.agg #[.int .i64 1, .int .i64 n, .string ⟨#[]⟩, .slice none 0 0, .slice none 0 0, .slice none 0 0]) :=
  .mk _ _ _ _ _ _ _ _ _ ⟨by decide, by decide⟩ hn (cl_nil0 w) (kd_nil0 w) (sy_nil0 w)
theorem tL_in (w : World) (n : Int) (hn : I64 n) (g : Nat) (h : w.heap[g]? = some (.cells #[.int .i64 1, .int .i64 n, .string ⟨#[]⟩, .slice none 0 0, .slice none 0 0, .slice none 0 0] 26 (0, 0))) :
    TmIn Tt w (tL n) (.agg #[.int .i64 5, .int .i64 0, .string ⟨#[]⟩, .slice none 0 0, .slice (some ⟨g, 0, none⟩) 1 1, .slice none 0 0]) := by
  refine .mk _ _ _ _ _ _ _ _ _ ⟨by decide, by decide⟩ ⟨by decide, by decide⟩ (cl_nil0 w) ⟨_, _, rfl, Nat.le_refl _, fun j x hx => ?_⟩ (sy_nil0 w)
  have hj : j = 0 := by have := some_lt hx; simp at this; omega
  subst hj
  simp only [List.getElem?_cons_zero, Option.some.injEq] at hx
  subst hx
  refine ⟨g, 0, _, _, _, _, _, _, rfl, trivial, (Array.getElem?_eq_some_iff.1 h).1, tV_in w n hn, ?_, ?_, ?_, ?_, ?_, ?_⟩ <;> (unfold World.cell?; simp [h])
theorem tA_in (w : World) (g g2 : Nat) (h2 : w.heap[g2]? = some (.cells #[.int .i64 1, .int .i64 2, .string ⟨#[]⟩, .slice none 0 0, .slice none 0 0, .slice none 0 0] 26 (0, 0)))
    (h : w.heap[g]? = some (.cells #[.int .i64 1, .int .i64 1, .string ⟨#[]⟩, .slice none 0 0, .slice none 0 0, .slice none 0 0, .int .i64 5, .int .i64 0, .string ⟨#[]⟩, .slice none 0 0, .slice (some ⟨g2, 0, none⟩) 1 1, .slice none 0 0] 26 (0, 0))) :
    TmIn Tt w tA (.agg #[.int .i64 6, .int .i64 0, .string ⟨#[]⟩, .slice none 0 0, .slice (some ⟨g, 0, none⟩) 2 2, .slice none 0 0]) := by
  refine .mk _ _ _ _ _ _ _ _ _ ⟨by decide, by decide⟩ ⟨by decide, by decide⟩ (cl_nil0 w) ⟨_, _, rfl, Nat.le_refl _, fun j x hx => ?_⟩ (sy_nil0 w)
  have hj : j = 0 ∨ j = 1 := by have := some_lt hx; simp at this; omega
  rcases hj with rfl | rfl
  · simp only [List.getElem?_cons_zero, Option.some.injEq] at hx
    subst hx
    refine ⟨g, 0, _, _, _, _, _, _, rfl, trivial, (Array.getElem?_eq_some_iff.1 h).1, tV_in w 1 ⟨by decide, by decide⟩, ?_, ?_, ?_, ?_, ?_, ?_⟩ <;> (unfold World.cell?; simp [h])
  · simp only [List.getElem?_cons_succ, List.getElem?_cons_zero, Option.some.injEq] at hx
    subst hx
    refine ⟨g, 0, _, _, _, _, _, _, rfl, trivial, (Array.getElem?_eq_some_iff.1 h).1, tL_in w 2 ⟨by decide, by decide⟩ g2 h2, ?_, ?_, ?_, ?_, ?_, ?_⟩ <;> (unfold World.cell?; simp [h])
theorem box_works (w : World) : ∃ W, W = ((((w.alloc (.cells #[.int .i64 1, .int .i64 0, .string ⟨#[]⟩, .slice none 0 0, .slice none 0 0, .slice none 0 0] 26)).alloc (.cells #[.int .i64 5, .int .i64 0, .string ⟨#[]⟩, .slice none 0 0, .slice (some ⟨w.heap.size, 0, none⟩) 1 1, .slice none 0 0] 26)).alloc (.cells #[.int .i64 1, .int .i64 2, .string ⟨#[]⟩, .slice none 0 0, .slice none 0 0, .slice none 0 0] 26)).alloc (.cells #[.int .i64 1, .int .i64 1, .string ⟨#[]⟩, .slice none 0 0, .slice none 0 0, .slice none 0 0, .int .i64 5, .int .i64 0, .string ⟨#[]⟩, .slice none 0 0, .slice (some ⟨w.heap.size + 2, 0, none⟩) 1 1, .slice none 0 0] 26)).alloc (.cells #[.int .i64 6, .int .i64 0, .string ⟨#[]⟩, .slice none 0 0, .slice (some ⟨w.heap.size + 3, 0, none⟩) 2 2, .slice none 0 0] 26) ∧ Below w.heap.size w W ∧ W.heap.size = w.heap.size + 5 ∧ Six W (w.heap.size + 1) (.int .i64 5) (.int .i64 0) (.string ⟨#[]⟩) (.slice none 0 0) (.slice (some ⟨w.heap.size, 0, none⟩) 1 1) (.slice none 0 0) ∧ Six W (w.heap.size + 4) (.int .i64 6) (.int .i64 0) (.string ⟨#[]⟩) (.slice none 0 0) (.slice (some ⟨w.heap.size + 3, 0, none⟩) 2 2) (.slice none 0 0) ∧
    TmIn Tt W (tL 0) (.agg #[.int .i64 5, .int .i64 0, .string ⟨#[]⟩, .slice none 0 0, .slice (some ⟨w.heap.size, 0, none⟩) 1 1, .slice none 0 0]) ∧ TmIn Tt W tA (.agg #[.int .i64 6, .int .i64 0, .string ⟨#[]⟩, .slice none 0 0, .slice (some ⟨w.heap.size + 3, 0, none⟩) 2 2, .slice none 0 0]) := by
  obtain ⟨w1, h1⟩ : ∃ w1, w1 = w.alloc (.cells #[.int .i64 1, .int .i64 0, .string ⟨#[]⟩, .slice none 0 0, .slice none 0 0, .slice none 0 0] 26) := ⟨_, rfl⟩
  obtain ⟨w2, h2⟩ : ∃ w2, w2 = w1.alloc (.cells #[.int .i64 5, .int .i64 0, .string ⟨#[]⟩, .slice none 0 0, .slice (some ⟨w.heap.size, 0, none⟩) 1 1, .slice none 0 0] 26) := ⟨_, rfl⟩
  obtain ⟨w3, h3⟩ : ∃ w3, w3 = w2.alloc (.cells #[.int .i64 1, .int .i64 2, .string ⟨#[]⟩, .slice none 0 0, .slice none 0 0, .slice none 0 0] 26) := ⟨_, rfl⟩
  obtain ⟨w4, h4⟩ : ∃ w4, w4 = w3.alloc (.cells #[.int .i64 1, .int .i64 1, .string ⟨#[]⟩, .slice none 0 0, .slice none 0 0, .slice none 0 0, .int .i64 5, .int .i64 0, .string ⟨#[]⟩, .slice none 0 0, .slice (some ⟨w.heap.size + 2, 0, none⟩) 1 1, .slice none 0 0] 26) := ⟨_, rfl⟩
  obtain ⟨w5, h5⟩ : ∃ w5, w5 = w4.alloc (.cells #[.int .i64 6, .int .i64 0, .string ⟨#[]⟩, .slice none 0 0, .slice (some ⟨w.heap.size + 3, 0, none⟩) 2 2, .slice none 0 0] 26) := ⟨_, rfl⟩
  have s1 : w1.heap.size = w.heap.size + 1 := by rw [h1]; simp
  have s2 : w2.heap.size = w.heap.size + 2 := by rw [h2]; simp; omega
  have s3 : w3.heap.size = w.heap.size + 3 := by rw [h3]; simp; omega
  have s4 : w4.heap.size = w.heap.size + 4 := by rw [h4]; simp; omega
  have s5 : w5.heap.size = w.heap.size + 5 := by rw [h5]; simp; omega
  have m0 := heapNew w (.cells #[.int .i64 1, .int .i64 0, .string ⟨#[]⟩, .slice none 0 0, .slice none 0 0, .slice none 0 0] 26)
  have m1 := heapNew w1 (.cells #[.int .i64 5, .int .i64 0, .string ⟨#[]⟩, .slice none 0 0, .slice (some ⟨w.heap.size, 0, none⟩) 1 1, .slice none 0 0] 26)
  have m2 := heapNew w2 (.cells #[.int .i64 1, .int .i64 2, .string ⟨#[]⟩, .slice none 0 0, .slice none 0 0, .slice none 0 0] 26)
  have m3 := heapNew w3 (.cells #[.int .i64 1, .int .i64 1, .string ⟨#[]⟩, .slice none 0 0, .slice none 0 0, .slice none 0 0, .int .i64 5, .int .i64 0, .string ⟨#[]⟩, .slice none 0 0, .slice (some ⟨w.heap.size + 2, 0, none⟩) 1 1, .slice none 0 0] 26)
  have m4 := heapNew w4 (.cells #[.int .i64 6, .int .i64 0, .string ⟨#[]⟩, .slice none 0 0, .slice (some ⟨w.heap.size + 3, 0, none⟩) 2 2, .slice none 0 0] 26)
  have b1 : Below w.heap.size w w1 := by rw [h1]; exact belowA _ _
  have b2 : Below w1.heap.size w1 w2 := by rw [h2]; exact belowA _ _
  have b3 : Below w2.heap.size w2 w3 := by rw [h3]; exact belowA _ _
  have b4 : Below w3.heap.size w3 w4 := by rw [h4]; exact belowA _ _
  have b5 : Below w4.heap.size w4 w5 := by rw [h5]; exact belowA _ _
  rw [← h1] at m0
  rw [← h2, s1] at m1
  rw [← h3, s2] at m2
  rw [← h4, s3] at m3
  rw [← h5, s4] at m4
  have b45 := bchain b4 b5
  have b35 := bchain b3 b45
  have b25 := bchain b2 b35
  have q0 := (b25.block _ (by omega)).trans m0
  have q1 := (b35.block _ (by omega)).trans m1
  have q2 := (b45.block _ (by omega)).trans m2
  have q3 := (b5.block _ (by omega)).trans m3
  refine ⟨w5, by rw [h5, h4, h3, h2, h1], bchain b1 b25, s5, ⟨q1⟩, ⟨m4⟩, tL_in _ 0 ⟨by decide, by decide⟩ _ q0, tA_in _ _ _ q2 q3⟩
def WkS (w : World) (W : World) : Prop := Six W (w.heap.size + 1) (.int .i64 5) (.int .i64 0) (.string ⟨#[]⟩) (.slice none 0 0) (.slice (some ⟨w.heap.size, 0, none⟩) 1 1) (.slice none 0 0) ∧ Six W (w.heap.size + 4) (.int .i64 6) (.int .i64 0) (.string ⟨#[]⟩) (.slice none 0 0) (.slice (some ⟨w.heap.size + 3, 0, none⟩) 2 2) (.slice none 0 0)
set_option maxRecDepth 100000 in
set_option maxHeartbeats 8000000 in
theorem works_any (w : World) : Calls Try.prog 7 #[] w fun e w' => e = .returned (.bool true) ∧ Below w.heap.size w w' := by
  obtain ⟨W, hW, bW, sW, y1, y4, iL, iA⟩ := box_works w
  have HW : Hid (_ = _) := hW
  have hS0 : WkS w W.drew := ⟨⟨y1.blk⟩, ⟨y4.blk⟩⟩
  have HS : Hid (∀ w', Below W.heap.size W w' → WkS w w') := fun w' q => ⟨y1.blw q, y4.blw q⟩
  have c1 : Hid (∀ w', Below W.heap.size W w' → Calls Try.prog 24 #[.agg #[.int .i64 5, .int .i64 0, .string ⟨#[]⟩, .slice none 0 0, .slice (some ⟨w.heap.size, 0, none⟩) 1 1, .slice none 0 0], .int .i64 0, .int .i64 0] w' fun e w'' => e = .returned (.int .i64 0) ∧ Below w'.heap.size w' w'') := fun w' q => by
    have := rightT_any 0 0 (tL 0) _ w' (iL.blw q) blk_tL; rw [w1_right] at this; exact this
  have c2 : Hid (∀ w', Below W.heap.size W w' → Calls Try.prog 24 #[.agg #[.int .i64 1, .int .i64 0, .string ⟨#[]⟩, .slice none 0 0, .slice none 0 0, .slice none 0 0], .int .i64 0, .int .i64 0] w' fun e w'' => e = .returned (.int .i64 100) ∧ Below w'.heap.size w' w'') := fun w' q => by
    have := rightT_any 0 0 (tV 0) _ w' (tV_in w' 0 ⟨by decide, by decide⟩) blk_tV; rw [w2_right] at this; exact this
  have c3 : Hid (∀ w', Below W.heap.size W w' → Calls Try.prog 10 #[.agg #[.int .i64 6, .int .i64 0, .string ⟨#[]⟩, .slice none 0 0, .slice (some ⟨w.heap.size + 3, 0, none⟩) 2 2, .slice none 0 0]] w' fun e w'' => e = .returned (.int .i64 4) ∧ Below w'.heap.size w' w'') := fun w' q => by
    have := size_any tA _ w' (iA.blw q) (Nat.le_trans blk_tA (by omega)); rw [w3_size] at this; exact this
  have c4 : Hid (∀ w', Below W.heap.size W w' → Calls Try.prog 25 #[.agg #[.int .i64 6, .int .i64 0, .string ⟨#[]⟩, .slice none 0 0, .slice (some ⟨w.heap.size + 3, 0, none⟩) 2 2, .slice none 0 0], .int .i64 1] w' fun e w'' => e = .returned (.bool true) ∧ Below w'.heap.size w' w'') := fun w' q => by
    have := usesT_any 1 tA _ w' (iA.blw q) (Nat.le_trans blk_tA (by omega)); rw [w4_uses] at this; exact this
  have c5 : Hid (∀ w', Below W.heap.size W w' → Calls Try.prog 25 #[.agg #[.int .i64 6, .int .i64 0, .string ⟨#[]⟩, .slice none 0 0, .slice (some ⟨w.heap.size + 3, 0, none⟩) 2 2, .slice none 0 0], .int .i64 0] w' fun e w'' => e = .returned (.bool false) ∧ Below w'.heap.size w' w'') := fun w' q => by
    have := usesT_any 0 tA _ w' (iA.blw q) (Nat.le_trans blk_tA (by omega)); rw [w5_uses] at this; exact this
  have c6 : Hid (∀ w', Below W.heap.size W w' → Calls Try.prog 9 #[.agg #[.int .i64 6, .int .i64 0, .string ⟨#[]⟩, .slice none 0 0, .slice (some ⟨w.heap.size + 3, 0, none⟩) 2 2, .slice none 0 0]] w' fun e w'' => ∃ v', e = .returned v' ∧ TmIn (OkN w'.heap.size w'') w'' tA v' ∧ Below w'.heap.size w' w'') := fun w' q => copy_any tA _ w' (iA.blw q) (Nat.le_trans blk_tA (by omega))
  have c7 : Hid (∀ w' v', Below W.heap.size W w' → TmIn Tt w' tA v' → Calls Try.prog 14 #[.agg #[.int .i64 6, .int .i64 0, .string ⟨#[]⟩, .slice none 0 0, .slice (some ⟨w.heap.size + 3, 0, none⟩) 2 2, .slice none 0 0], v'] w' fun e w'' => e = .returned (.bool true) ∧ Below w'.heap.size w' w'') := fun w' v' q h => sameT_any tA tA true _ v' w' (iA.blw q) h (Nat.le_trans blk_tA (by omega)) (by simp)
  clear hW y1 y4 iL iA
  go_enter Try.func7, Try.ntmps7
  go_upto_region 3 with fail
  simp only [Nat.add_assoc, Nat.reduceAdd]
  rw [← HW.out]
  clear HW
  refine wp_region_held_drew (S := WkS w) (by kernel_rfl) hS0 (fun hS => ?_)
  have q0 : Below W.heap.size W W.drew := (Below.refl _ _).drew
  refine wpAnyH_take (i := 0) (v := .agg #[.int .i64 5, .int .i64 0, .string ⟨#[]⟩, .slice none 0 0, .slice (some ⟨w.heap.size, 0, none⟩) 1 1, .slice none 0 0]) rfl (by kernel_rfl) (by kernel_rfl) (by kernel_rfl) (fun _ _ _ h => h) (Or.inl ⟨by rfl, fun w hS => by obtain ⟨e0, e1, e2, e3, e4, e5, _⟩ := hS.1.cells; go_simp⟩) hS ?_
  try simp only [Act.put, List.getElem_toArray, List.getElem_cons_zero, List.getElem_cons_succ, List.setIfInBounds_toArray, List.set_cons_zero, List.set_cons_succ]
  refine wpAnyH_ready (rs := [1]) (by kernel_rfl) (by simp) ?_
  refine ready_cons rfl (fun KK hKK => ?_) AllReadyH.nil
  refine ⟨?_⟩
  go_simp
  refine (c1.out _ q0).mono ?_
  rintro e u1 ⟨rfl, hb1⟩
  have q1 := bchain q0 hb1
  refine hKK.out _ _ (HS.out _ q1) (fun hS1 => ?_)
  clear hKK KK
  try simp only [Act.put, List.getElem_toArray, List.getElem_cons_zero, List.getElem_cons_succ, List.setIfInBounds_toArray, List.set_cons_zero, List.set_cons_succ]
  refine wpAnyH_take (i := 2) (v := .bool true) rfl (by kernel_rfl) (by kernel_rfl) (by kernel_rfl) (fun _ _ _ h => h) (Or.inl ⟨by rfl, fun w hS => by go_simp⟩) hS1 ?_
  try simp only [Act.put, List.getElem_toArray, List.getElem_cons_zero, List.getElem_cons_succ, List.setIfInBounds_toArray, List.set_cons_zero, List.set_cons_succ]
  refine wpAnyH_take (i := 3) (v := .bool true) rfl (by kernel_rfl) (by kernel_rfl) (by kernel_rfl) (fun _ _ _ h => h) (Or.inl ⟨by rfl, fun w hS => by go_simp⟩) hS1 ?_
  try simp only [Act.put, List.getElem_toArray, List.getElem_cons_zero, List.getElem_cons_succ, List.setIfInBounds_toArray, List.set_cons_zero, List.set_cons_succ]
  refine wpAnyH_take (i := 4) (v := .agg #[.int .i64 1, .int .i64 0, .string ⟨#[]⟩, .slice none 0 0, .slice none 0 0, .slice none 0 0]) rfl (by kernel_rfl) (by kernel_rfl) (by kernel_rfl) (fun _ _ _ h => h) (Or.inl ⟨by rfl, fun w hS => by go_simp⟩) hS1 ?_
  try simp only [Act.put, List.getElem_toArray, List.getElem_cons_zero, List.getElem_cons_succ, List.setIfInBounds_toArray, List.set_cons_zero, List.set_cons_succ]
  refine wpAnyH_ready (rs := [5]) (by kernel_rfl) (by simp) ?_
  refine ready_cons rfl (fun KK hKK => ?_) AllReadyH.nil
  refine ⟨?_⟩
  go_simp
  refine (c2.out _ q1).mono ?_
  rintro e u2 ⟨rfl, hb2⟩
  have q2 := bchain q1 hb2
  refine hKK.out _ _ (HS.out _ q2) (fun hS2 => ?_)
  clear hKK KK
  try simp only [Act.put, List.getElem_toArray, List.getElem_cons_zero, List.getElem_cons_succ, List.setIfInBounds_toArray, List.set_cons_zero, List.set_cons_succ]
  refine wpAnyH_take (i := 6) (v := .bool true) rfl (by kernel_rfl) (by kernel_rfl) (by kernel_rfl) (fun _ _ _ h => h) (Or.inl ⟨by rfl, fun w hS => by go_simp⟩) hS2 ?_
  try simp only [Act.put, List.getElem_toArray, List.getElem_cons_zero, List.getElem_cons_succ, List.setIfInBounds_toArray, List.set_cons_zero, List.set_cons_succ]
  refine wpAnyH_take (i := 7) (v := .bool true) rfl (by kernel_rfl) (by kernel_rfl) (by kernel_rfl) (fun _ _ _ h => h) (Or.inl ⟨by rfl, fun w hS => by go_simp⟩) hS2 ?_
  try simp only [Act.put, List.getElem_toArray, List.getElem_cons_zero, List.getElem_cons_succ, List.setIfInBounds_toArray, List.set_cons_zero, List.set_cons_succ]
  refine wpAnyH_take (i := 8) (v := .bool true) rfl (by kernel_rfl) (by kernel_rfl) (by kernel_rfl) (fun _ _ _ h => h) (Or.inl ⟨by rfl, fun w hS => by go_simp⟩) hS2 ?_
  try simp only [Act.put, List.getElem_toArray, List.getElem_cons_zero, List.getElem_cons_succ, List.setIfInBounds_toArray, List.set_cons_zero, List.set_cons_succ]
  refine wpAnyH_take (i := 9) (v := .agg #[.int .i64 6, .int .i64 0, .string ⟨#[]⟩, .slice none 0 0, .slice (some ⟨w.heap.size + 3, 0, none⟩) 2 2, .slice none 0 0]) rfl (by kernel_rfl) (by kernel_rfl) (by kernel_rfl) (fun _ _ _ h => h) (Or.inl ⟨by rfl, fun w hS => by obtain ⟨e0, e1, e2, e3, e4, e5, _⟩ := hS.2.cells; go_simp⟩) hS2 ?_
  try simp only [Act.put, List.getElem_toArray, List.getElem_cons_zero, List.getElem_cons_succ, List.setIfInBounds_toArray, List.set_cons_zero, List.set_cons_succ]
  refine wpAnyH_ready (rs := [10]) (by kernel_rfl) (by simp) ?_
  refine ready_cons rfl (fun KK hKK => ?_) AllReadyH.nil
  refine ⟨?_⟩
  go_simp
  refine (c3.out _ q2).mono ?_
  rintro e u3 ⟨rfl, hb3⟩
  have q3 := bchain q2 hb3
  refine hKK.out _ _ (HS.out _ q3) (fun hS3 => ?_)
  clear hKK KK
  try simp only [Act.put, List.getElem_toArray, List.getElem_cons_zero, List.getElem_cons_succ, List.setIfInBounds_toArray, List.set_cons_zero, List.set_cons_succ]
  refine wpAnyH_take (i := 11) (v := .bool true) rfl (by kernel_rfl) (by kernel_rfl) (by kernel_rfl) (fun _ _ _ h => h) (Or.inl ⟨by rfl, fun w hS => by go_simp⟩) hS3 ?_
  try simp only [Act.put, List.getElem_toArray, List.getElem_cons_zero, List.getElem_cons_succ, List.setIfInBounds_toArray, List.set_cons_zero, List.set_cons_succ]
  refine wpAnyH_take (i := 12) (v := .bool true) rfl (by kernel_rfl) (by kernel_rfl) (by kernel_rfl) (fun _ _ _ h => h) (Or.inl ⟨by rfl, fun w hS => by go_simp⟩) hS3 ?_
  try simp only [Act.put, List.getElem_toArray, List.getElem_cons_zero, List.getElem_cons_succ, List.setIfInBounds_toArray, List.set_cons_zero, List.set_cons_succ]
  refine wpAnyH_take (i := 13) (v := .bool true) rfl (by kernel_rfl) (by kernel_rfl) (by kernel_rfl) (fun _ _ _ h => h) (Or.inl ⟨by rfl, fun w hS => by go_simp⟩) hS3 ?_
  try simp only [Act.put, List.getElem_toArray, List.getElem_cons_zero, List.getElem_cons_succ, List.setIfInBounds_toArray, List.set_cons_zero, List.set_cons_succ]
  refine wpAnyH_take (i := 14) (v := .agg #[.int .i64 6, .int .i64 0, .string ⟨#[]⟩, .slice none 0 0, .slice (some ⟨w.heap.size + 3, 0, none⟩) 2 2, .slice none 0 0]) rfl (by kernel_rfl) (by kernel_rfl) (by kernel_rfl) (fun _ _ _ h => h) (Or.inl ⟨by rfl, fun w hS => by obtain ⟨e0, e1, e2, e3, e4, e5, _⟩ := hS.2.cells; go_simp⟩) hS3 ?_
  try simp only [Act.put, List.getElem_toArray, List.getElem_cons_zero, List.getElem_cons_succ, List.setIfInBounds_toArray, List.set_cons_zero, List.set_cons_succ]
  refine wpAnyH_ready (rs := [15]) (by kernel_rfl) (by simp) ?_
  refine ready_cons rfl (fun KK hKK => ?_) AllReadyH.nil
  refine ⟨?_⟩
  go_simp
  refine (c4.out _ q3).mono ?_
  rintro e u4 ⟨rfl, hb4⟩
  have q4 := bchain q3 hb4
  refine hKK.out _ _ (HS.out _ q4) (fun hS4 => ?_)
  clear hKK KK
  try simp only [Act.put, List.getElem_toArray, List.getElem_cons_zero, List.getElem_cons_succ, List.setIfInBounds_toArray, List.set_cons_zero, List.set_cons_succ]
  refine wpAnyH_take (i := 16) (v := .bool true) rfl (by kernel_rfl) (by kernel_rfl) (by kernel_rfl) (fun _ _ _ h => h) (Or.inl ⟨by rfl, fun w hS => by go_simp⟩) hS4 ?_
  try simp only [Act.put, List.getElem_toArray, List.getElem_cons_zero, List.getElem_cons_succ, List.setIfInBounds_toArray, List.set_cons_zero, List.set_cons_succ]
  refine wpAnyH_take (i := 17) (v := .bool true) rfl (by kernel_rfl) (by kernel_rfl) (by kernel_rfl) (fun _ _ _ h => h) (Or.inl ⟨by rfl, fun w hS => by go_simp⟩) hS4 ?_
  try simp only [Act.put, List.getElem_toArray, List.getElem_cons_zero, List.getElem_cons_succ, List.setIfInBounds_toArray, List.set_cons_zero, List.set_cons_succ]
  refine wpAnyH_take (i := 18) (v := .agg #[.int .i64 6, .int .i64 0, .string ⟨#[]⟩, .slice none 0 0, .slice (some ⟨w.heap.size + 3, 0, none⟩) 2 2, .slice none 0 0]) rfl (by kernel_rfl) (by kernel_rfl) (by kernel_rfl) (fun _ _ _ h => h) (Or.inl ⟨by rfl, fun w hS => by obtain ⟨e0, e1, e2, e3, e4, e5, _⟩ := hS.2.cells; go_simp⟩) hS4 ?_
  try simp only [Act.put, List.getElem_toArray, List.getElem_cons_zero, List.getElem_cons_succ, List.setIfInBounds_toArray, List.set_cons_zero, List.set_cons_succ]
  refine wpAnyH_ready (rs := [19]) (by kernel_rfl) (by simp) ?_
  refine ready_cons rfl (fun KK hKK => ?_) AllReadyH.nil
  refine ⟨?_⟩
  go_simp
  refine (c5.out _ q4).mono ?_
  rintro e u5 ⟨rfl, hb5⟩
  have q5 := bchain q4 hb5
  refine hKK.out _ _ (HS.out _ q5) (fun hS5 => ?_)
  clear hKK KK
  try simp only [Act.put, List.getElem_toArray, List.getElem_cons_zero, List.getElem_cons_succ, List.setIfInBounds_toArray, List.set_cons_zero, List.set_cons_succ]
  refine wpAnyH_take (i := 20) (v := .bool true) rfl (by kernel_rfl) (by kernel_rfl) (by kernel_rfl) (fun _ _ _ h => h) (Or.inl ⟨by rfl, fun w hS => by go_simp⟩) hS5 ?_
  try simp only [Act.put, List.getElem_toArray, List.getElem_cons_zero, List.getElem_cons_succ, List.setIfInBounds_toArray, List.set_cons_zero, List.set_cons_succ]
  refine wpAnyH_take (i := 21) (v := .bool true) rfl (by kernel_rfl) (by kernel_rfl) (by kernel_rfl) (fun _ _ _ h => h) (Or.inl ⟨by rfl, fun w hS => by go_simp⟩) hS5 ?_
  try simp only [Act.put, List.getElem_toArray, List.getElem_cons_zero, List.getElem_cons_succ, List.setIfInBounds_toArray, List.set_cons_zero, List.set_cons_succ]
  refine wpAnyH_take (i := 22) (v := .bool true) rfl (by kernel_rfl) (by kernel_rfl) (by kernel_rfl) (fun _ _ _ h => h) (Or.inl ⟨by rfl, fun w hS => by go_simp⟩) hS5 ?_
  try simp only [Act.put, List.getElem_toArray, List.getElem_cons_zero, List.getElem_cons_succ, List.setIfInBounds_toArray, List.set_cons_zero, List.set_cons_succ]
  refine wpAnyH_take (i := 23) (v := .agg #[.int .i64 6, .int .i64 0, .string ⟨#[]⟩, .slice none 0 0, .slice (some ⟨w.heap.size + 3, 0, none⟩) 2 2, .slice none 0 0]) rfl (by kernel_rfl) (by kernel_rfl) (by kernel_rfl) (fun _ _ _ h => h) (Or.inl ⟨by rfl, fun w hS => by obtain ⟨e0, e1, e2, e3, e4, e5, _⟩ := hS.2.cells; go_simp⟩) hS5 ?_
  try simp only [Act.put, List.getElem_toArray, List.getElem_cons_zero, List.getElem_cons_succ, List.setIfInBounds_toArray, List.set_cons_zero, List.set_cons_succ]
  refine wpAnyH_take (i := 24) (v := .agg #[.int .i64 6, .int .i64 0, .string ⟨#[]⟩, .slice none 0 0, .slice (some ⟨w.heap.size + 3, 0, none⟩) 2 2, .slice none 0 0]) rfl (by kernel_rfl) (by kernel_rfl) (by kernel_rfl) (fun _ _ _ h => h) (Or.inl ⟨by rfl, fun w hS => by obtain ⟨e0, e1, e2, e3, e4, e5, _⟩ := hS.2.cells; go_simp⟩) hS5 ?_
  try simp only [Act.put, List.getElem_toArray, List.getElem_cons_zero, List.getElem_cons_succ, List.setIfInBounds_toArray, List.set_cons_zero, List.set_cons_succ]
  refine wpAnyH_ready (rs := [25]) (by kernel_rfl) (by simp) ?_
  refine ready_cons rfl (fun KK hKK => ?_) AllReadyH.nil
  refine ⟨?_⟩
  go_simp
  refine (c6.out _ q5).mono ?_
  rintro e u6 ⟨v6, rfl, hv6, hb6⟩
  have q6 := bchain q5 hb6
  refine hKK.out _ _ (HS.out _ q6) (fun hS6 => ?_)
  clear hKK KK
  try simp only [Act.put, List.getElem_toArray, List.getElem_cons_zero, List.getElem_cons_succ, List.setIfInBounds_toArray, List.set_cons_zero, List.set_cons_succ]
  refine wpAnyH_ready (rs := [26]) (by kernel_rfl) (by simp) ?_
  refine ready_cons rfl (fun KK hKK => ?_) AllReadyH.nil
  refine ⟨?_⟩
  go_simp
  refine (c7.out _ _ q6 (hv6.up fun _ _ => trivial)).mono ?_
  rintro e u7 ⟨rfl, hb7⟩
  have q7 := bchain q6 hb7
  refine hKK.out _ _ (HS.out _ q7) (fun hS7 => ?_)
  clear hKK KK
  try simp only [Act.put, List.getElem_toArray, List.getElem_cons_zero, List.getElem_cons_succ, List.setIfInBounds_toArray, List.set_cons_zero, List.set_cons_succ]
  refine wpAnyH_take (i := 27) (v := .bool true) rfl (by kernel_rfl) (by kernel_rfl) (by kernel_rfl) (fun _ _ _ h => h) (Or.inl ⟨by rfl, fun w hS => by go_simp⟩) hS7 ?_
  try simp only [Act.put, List.getElem_toArray, List.getElem_cons_zero, List.getElem_cons_succ, List.setIfInBounds_toArray, List.set_cons_zero, List.set_cons_succ]
  refine wpAnyH_take (i := 28) (v := .bool true) rfl (by kernel_rfl) (by kernel_rfl) (by kernel_rfl) (fun _ _ _ h => h) (Or.inl ⟨by rfl, fun w hS => by go_simp⟩) hS7 ?_
  try simp only [Act.put, List.getElem_toArray, List.getElem_cons_zero, List.getElem_cons_succ, List.setIfInBounds_toArray, List.set_cons_zero, List.set_cons_succ]
  refine wpAnyH_done (by kernel_rfl) ?_ _
  go_wp2
  go_ret
  exact ⟨rfl, bchain bW q7⟩
end Go.Proofs.Ytmaijbeghemkbaa
