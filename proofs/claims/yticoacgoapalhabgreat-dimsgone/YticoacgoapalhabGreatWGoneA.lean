/- What may be may be in more, and in no fewer than it uses. Where a clause is so once more: nothing is refused, it may be as before, none of the clause's dimensions is left, and once more changes nothing. Which terms are the same, by the document. Which terms are the same, by the document: the node. A term where a clause is so has none of the clause's dimensions, may be if the term may be, and is the same where the clause is so once more. -/
import Derived.Test.YticoacgoapalhabGreatYRight
import Derived.Test.YticoacgoapalhabGreatYDmX
import Derived.Deep.DeepCutAuto
import Derived.Test.YticoacgoapalhabGreatYEq
import Derived.Test.YticoacgoapalhabGreatYWorks
import Derived.Test.YticoacgoapalhabGreatYBulk
import Derived.ProofKit
import Derived.OpenShut
import Derived.Lib.SmallJoins
import Derived.Deep.SlicePairs
import Derived.Deep.CutBlock
import Derived.Test.YticoacgoapalhabGreatYDmW
import Derived.Test.YticoacgoapalhabGreatYDims
import Derived.Test.YticoacgoapalhabGreatYOpen
namespace Go.Proofs.YticoacgoapalhabGreat
open Go.RowKit
set_option linter.unusedVariables false
set_option linter.unusedSimpArgs false

theorem node_iff (o : Bool) (V : Int) (D : Nat) (t : Tm) (bv bd : Nat) : t.node o V D bv bd = true ↔
    (o || decide (bd + D ≤ 24)) = true ∧ (t.kids.length : Int) = kidsK t.kind ∧ numB o V bv t.kind t.n = true ∧ nameB t.kind t.name = true ∧ rowB o (D + bd) t.kind t.r = true ∧ ∀ b ∈ t.sys, brB o (D + bd) t.kind (b.1, b.2.length) = true := by
  unfold Tm.node nodeB
  simp only [Bool.and_eq_true, decide_eq_true_eq, List.all_map, List.all_eq_true, Function.comp_def]
  constructor
  · rintro ⟨⟨⟨⟨⟨h1, h2⟩, h3⟩, h4⟩, h5⟩, h6⟩; exact ⟨h1, h2, h3, h4, h5, h6⟩
  · rintro ⟨h1, h2, h3, h4, h5, h6⟩; exact ⟨⟨⟨⟨⟨h1, h2⟩, h3⟩, h4⟩, h5⟩, h6⟩
theorem ok_iff (o : Bool) (V : Int) (D : Nat) (t : Tm) (bv bd : Nat) : okT o V D t bv bd = true ↔ t.node o V D bv bd = true ∧ ∀ p ∈ t.pts, okT o V D p.1 (bv + p.2.1) (bd + p.2.2) = true := by
  rw [ok_eq, Bool.and_eq_true, List.all_eq_true]
theorem reach_open {o : Bool} {e e' : Nat} {r : List C} (h : reachB o e r = true) : reachB true e' r = true := by unfold reachB; simp
theorem row_open {o : Bool} {e e' : Nat} {k : Int} {r : List C} (h : rowB o e k r = true) : rowB true e' k r = true := by
  unfold rowB at h ⊢
  split
  · rename_i h1; rw [if_pos h1, Bool.and_eq_true] at h; rw [h.1, reach_open h.2]; rfl
  · rename_i h1; rw [if_neg h1] at h
    split
    · rename_i h2; rw [if_pos h2, Bool.and_eq_true] at h; rw [h.1, reach_open h.2]; rfl
    · rename_i h2; rw [if_neg h2] at h; exact h
theorem br_open {o : Bool} {e e' : Nat} {k : Int} {b : List C × Nat} (h : brB o e k b = true) : brB true e' k b = true := by
  unfold brB at h ⊢
  simp only [Bool.and_eq_true] at h ⊢
  exact ⟨h.1, reach_open h.2⟩
theorem num_open {o : Bool} {V V' : Int} {bv bv' : Nat} {k n : Int} (h : numB o V bv k n = true) : numB true V' bv' k n = true := by
  unfold numB at h ⊢
  split
  · rename_i h1; rw [if_pos h1, Bool.and_eq_true] at h; rw [h.1]; rfl
  · rename_i h1; rw [if_neg h1] at h; exact h
/-- What may be is formed. -/
theorem ok_formed (V V' : Int) (D D' : Nat) (o : Bool) (N : Nat) : ∀ t : Tm, blk t ≤ N → ∀ bv bd bv' bd', okT o V D t bv bd = true → okT true V' D' t bv' bd' = true := by
  induction N with
  | zero => intro t h; have := blk_pos t; omega
  | succ N ih =>
    intro t h bv bd bv' bd' hok
    rw [ok_iff] at hok ⊢
    obtain ⟨hn, hp⟩ := hok
    rw [node_iff] at hn ⊢
    obtain ⟨_, h2, h3, h4, h5, h6⟩ := hn
    exact ⟨⟨rfl, h2, num_open h3, h4, row_open h5, fun b hb => br_open (h6 b hb)⟩, fun p hp' => ih p.1 (by have := blk_pts hp'; omega) _ _ _ _ (hp p hp')⟩
theorem num_more {V V' : Int} (hV : V ≤ V') {bv : Nat} {k n : Int} (h : numB false V bv k n = true) : numB false V' bv k n = true := by
  unfold numB at h ⊢
  split
  · rename_i h1
    rw [if_pos h1] at h
    simp only [Bool.false_or, Bool.and_eq_true, decide_eq_true_eq] at h ⊢
    exact ⟨h.1, by omega⟩
  · rename_i h1; rw [if_neg h1] at h; exact h
/-- What may be may be in more variables. -/
theorem ok_vars {V V' : Int} (hV : V ≤ V') (D N : Nat) : ∀ t : Tm, blk t ≤ N → ∀ bv bd, okT false V D t bv bd = true → okT false V' D t bv bd = true := by
  induction N with
  | zero => intro t h; have := blk_pos t; omega
  | succ N ih =>
    intro t h bv bd hok
    rw [ok_iff] at hok ⊢
    obtain ⟨hn, hp⟩ := hok
    rw [node_iff] at hn ⊢
    obtain ⟨h1, h2, h3, h4, h5, h6⟩ := hn
    exact ⟨⟨h1, h2, num_more hV h3, h4, h5, h6⟩, fun p hp' => ih p.1 (by have := blk_pts hp'; omega) _ _ (hp p hp')⟩
theorem num_us {V n : Int} (hn : V ≤ n) {bv : Nat} {k m : Int} (h : numB false V bv k m = true) : (decide (k = 1) && decide (0 ≤ n) && decide (m = n + bv)) = false := by
  unfold numB at h
  by_cases h1 : k = 1
  · rw [if_pos h1] at h
    simp only [Bool.false_or, Bool.and_eq_true, decide_eq_true_eq] at h
    rw [decide_eq_false (show ¬ m = n + bv by omega)]; simp
  · rw [decide_eq_false h1]; rfl
/-- What may be uses no variable beyond. -/
theorem ok_us {V n : Int} (hn : V ≤ n) (D N : Nat) : ∀ t : Tm, blk t ≤ N → ∀ bv bd, okT false V D t bv bd = true → usT n t bv = false := by
  induction N with
  | zero => intro t h; have := blk_pos t; omega
  | succ N ih =>
    intro t h bv bd hok
    rw [ok_iff] at hok
    obtain ⟨hd, hp⟩ := hok
    rw [node_iff] at hd
    rw [us_eq, num_us hn hd.2.2.1, Bool.false_or, List.any_eq_false]
    intro p hp'
    rw [ih p.1 (by have := blk_pts hp'; omega) _ _ (hp p hp')]; simp
theorem reach_bit {e : Nat} {r : List C} (h : reachB false e r = true) {j : Nat} (hj : e ≤ j) : (dimsN r).testBit j = false := by
  unfold reachB at h
  simp only [Bool.false_or, decide_eq_true_eq] at h
  obtain ⟨i, rfl⟩ : ∃ i, j = e + i := ⟨j - e, by omega⟩
  rw [← Nat.testBit_shiftRight, Nat.shiftRight_eq_div_pow, h]; simp
theorem row_bit {e : Nat} {k : Int} {r : List C} (h : rowB false e k r = true) {j : Nat} (hj : e ≤ j) : (dimsN r).testBit j = false := by
  unfold rowB at h
  split at h
  · rw [Bool.and_eq_true] at h; exact reach_bit h.2 hj
  · split at h
    · rw [Bool.and_eq_true] at h; exact reach_bit h.2 hj
    · have : r = [] := List.eq_nil_of_length_eq_zero (by simpa using h)
      rw [this]; simp [dimsN]
/-- What may be has no dimension beyond. -/
theorem ok_hs (V : Int) (D N : Nat) : ∀ t : Tm, blk t ≤ N → ∀ bv bd j, D + bd ≤ j → okT false V D t bv bd = true → hsT t j = false := by
  induction N with
  | zero => intro t h; have := blk_pos t; omega
  | succ N ih =>
    intro t h bv bd j hj hok
    rw [ok_iff] at hok
    obtain ⟨hd, hp⟩ := hok
    rw [node_iff] at hd
    obtain ⟨_, _, _, _, h5, h6⟩ := hd
    rw [hs_eq, row_bit h5 hj, Bool.false_or, Bool.or_eq_false_iff, List.any_eq_false, List.any_eq_false]
    refine ⟨fun b hb => ?_, fun p hp' => ?_⟩
    · have := h6 b hb
      unfold brB at this
      simp only [Bool.and_eq_true] at this
      rw [reach_bit this.2 hj]; simp
    · rw [ih p.1 (by have := blk_pts hp'; omega) _ _ _ (by omega) (hp p hp')]; simp
/-- What may be may be in one variable fewer just if it does not use that. -/
theorem ok_less {V : Int} (hV : 1 ≤ V) (D N : Nat) : ∀ t : Tm, blk t ≤ N → ∀ bv bd, okT false V D t bv bd = true → okT false (V - 1) D t bv bd = !usT (V - 1) t bv := by
  induction N with
  | zero => intro t h; have := blk_pos t; omega
  | succ N ih =>
    intro t h bv bd hok
    rw [ok_iff] at hok
    obtain ⟨hd, hp⟩ := hok
    have hps : ∀ p ∈ t.pts, okT false (V - 1) D p.1 (bv + p.2.1) (bd + p.2.2) = !usT (V - 1) p.1 (bv + p.2.1) := fun p hp' => ih p.1 (by have := blk_pts hp'; omega) _ _ (hp p hp')
    rw [us_eq]
    rw [node_iff] at hd
    obtain ⟨h1, h2, h3, h4, h5, h6⟩ := hd
    have hnum : numB false (V - 1) bv t.kind t.n = !(decide (t.kind = 1) && decide (0 ≤ V - 1) && decide (t.n = V - 1 + bv)) := by
      unfold numB at h3 ⊢
      by_cases hk : t.kind = 1
      · rw [if_pos hk] at h3 ⊢
        simp only [Bool.false_or, Bool.and_eq_true, decide_eq_true_eq] at h3
        rw [decide_eq_true h3.1, decide_eq_true hk, decide_eq_true (show 0 ≤ V - 1 by omega)]
        by_cases he : t.n = V - 1 + bv
        · rw [decide_eq_true he, decide_eq_false (by omega)]; rfl
        · rw [decide_eq_false he, decide_eq_true (by omega)]; rfl
      · rw [if_neg hk] at h3 ⊢
        rw [h3, decide_eq_false hk]; rfl
    rw [Bool.eq_iff_iff, ok_iff, node_iff, hnum]
    simp only [Bool.not_eq_true', Bool.or_eq_false_iff, List.any_eq_false]
    constructor
    · rintro ⟨⟨_, _, ha, _⟩, hb⟩
      refine ⟨ha, fun p hp' => ?_⟩
      have := hb p hp'
      rw [hps p hp'] at this
      simpa using this
    · rintro ⟨ha, hb⟩
      refine ⟨⟨h1, h2, ha, h4, h5, h6⟩, fun p hp' => ?_⟩
      rw [hps p hp']
      have := hb p hp'
      simpa using this
/-! ### of the whole -/
theorem right_zero {V d : Int} {t : Tm} : rightN V d t = 0 ↔ (0 ≤ V ∧ 0 ≤ d ∧ d ≤ 24) ∧ depthT t ≤ 200 ∧ okT false V d.toNat t 0 0 = true := by
  unfold rightN wrongN
  by_cases h : V < 0 ∨ d < 0 ∨ 24 < d
  · rw [if_pos h]; constructor
    · intro h; cases h
    · rintro ⟨h1, _⟩; omega
  · rw [if_neg h]
    by_cases h2 : 200 < depthT t
    · rw [if_pos h2]; constructor
      · intro h; cases h
      · rintro ⟨_, h1, _⟩; omega
    · rw [if_neg h2]
      by_cases h3 : okT false V d.toNat t 0 0 = true
      · rw [if_pos h3]; exact ⟨fun _ => ⟨by omega, by omega, h3⟩, fun _ => rfl⟩
      · rw [if_neg h3]; exact ⟨fun h => (by cases h), fun h => absurd h.2.2 h3⟩
theorem more_formed {V d : Int} {t : Tm} (h : rightN V d t = 0) : wrongN true 0 0 t = 0 := by
  obtain ⟨_, h2, h3⟩ := right_zero.1 h
  unfold wrongN
  rw [if_neg (by omega), if_pos (ok_formed V 0 d.toNat 0 false _ t (Nat.le_refl _) _ _ _ _ h3)]
theorem more_vars {V V' d : Int} {t : Tm} (h : rightN V d t = 0) (hV : V ≤ V') : rightN V' d t = 0 := by
  obtain ⟨h1, h2, h3⟩ := right_zero.1 h
  exact right_zero.2 ⟨by omega, h2, ok_vars hV _ _ t (Nat.le_refl _) _ _ h3⟩
theorem more_us {V n d : Int} {t : Tm} (h : rightN V d t = 0) (hn : V ≤ n) : usT n t 0 = false :=
  ok_us hn _ _ t (Nat.le_refl _) _ _ (right_zero.1 h).2.2
theorem more_dim {V d : Int} {t : Tm} (h : rightN V d t = 0) {i : Nat} (hi : d ≤ i) : (dmT t 0).testBit i = false := by
  rw [dm_bit _ t (Nat.le_refl _)]
  exact ok_hs V _ _ t (Nat.le_refl _) 0 0 _ (by have := (right_zero.1 h).1; omega) (right_zero.1 h).2.2
theorem more_less {V d : Int} {t : Tm} (h : rightN V d t = 0) (hV : 1 ≤ V) : rightN (V - 1) d t = if usT (V - 1) t 0 = true then 100 else 0 := by
  obtain ⟨h1, h2, h3⟩ := right_zero.1 h
  unfold rightN wrongN
  rw [if_neg (by omega), if_neg (by omega), ok_less hV _ _ t (Nat.le_refl _) _ _ h3]
  cases usT (V - 1) t 0 <;> rfl
end Go.Proofs.YticoacgoapalhabGreat

namespace Go.Proofs.YticoacgoapalhabGreat
open Go.RowKit
set_option linter.unusedVariables false
set_option linter.unusedSimpArgs false

theorem meet_top' {c : C} (h : rightC c = true) : meetC c top0 = c := by
  have h1 := fright_bits h
  refine c_bits (fun k => ?_) (fun k => ?_)
  · rw [(meet_bits c top0 k).1]; rw [← (h1 k).1]; simp [top0]
  · rw [(meet_bits c top0 k).2]; rw [← (h1 k).2]; simp [top0]
theorem meetR_top {c : C} (h : rightC c = true) : meetR [c] [top0] = ([c], 0) := by rw [meet_one, meet_top' h]
theorem meetR_nil (l : List C) : meetR l [] = ([], 0) := by
  have e2 : pairsC l [] = [] := by simp [pairsC]
  unfold meetR; rw [e2]; decide
theorem meetR_nill (l : List C) : meetR [] l = ([], 0) := by
  have e2 : pairsC [] l = [] := by simp [pairsC]
  unfold meetR; rw [e2]; decide
theorem inF_iff {l : List C} {k : Nat} : inF l k = true ↔ ∃ c ∈ l, c.1.val.testBit k = true ∨ c.2.val.testBit k = true := by
  unfold inF; rw [List.any_eq_true]; simp only [Bool.or_eq_true]
theorem lift_nil24 : ∀ bd : Fin 24, liftFF [] 0 ((bd.val : Nat) : Int) = ([], 0) := by decide +kernel
theorem lift_top24 : ∀ bd : Fin 24, liftFF [top0] 0 ((bd.val : Nat) : Int) = ([top0], 0) := by decide +kernel

/-! ### one -/
def cut_oneL (l : List C) (j : Nat) : List C := (l.filter fun c => !c.2.val.testBit j).map fun c => outC c (j : Int)
theorem part_one {c : C} {j : Nat} (hj : j < 24) : partF c (j : Int) [top0] ([], 0) = (if c.2.val.testBit j then [] else [outC c (j : Int)], 0) := by
  have hB1 : hasB c.1.val (j : Int) = c.1.val.testBit j := hasB_nat hj
  have hB2 : hasB c.2.val (j : Int) = c.2.val.testBit j := hasB_nat hj
  have hr := out_right c (j : Int)
  unfold partF partA
  rw [hB1, hB2]
  cases h1 : c.1.val.testBit j <;> cases h2 : c.2.val.testBit j <;> simp [meetR_top hr, meetR_nil, meetR_nill]
theorem fputs_one {j : Nat} (hj : j < 24) (f : List C) : f.length ≤ 64 → putS f (j : Int) [top0] ([], 0) = leastF (cut_oneL f j) := by
  induction f using snoc_ind with
  | nil => intro _; simp only [putS, List.foldl_nil, cut_oneL, List.filter_nil, List.map_nil]; decide
  | snoc f c ih =>
    intro hl
    have hl2 : f.length ≤ 64 := by simp at hl; omega
    have hA : (cut_oneL f j).all rightC = true := all_mem (fun x hx => by obtain ⟨a, _, rfl⟩ := List.mem_map.1 hx; exact out_right a _)
    have h0 : (leastF (cut_oneL f j)).2 = 0 := least_small hA (by unfold cut_oneL; rw [List.length_map]; exact Nat.le_trans (List.length_filter_le _ _) hl2)
    rw [putS_snoc, ih hl2]
    have e := leastF_pair h0
    rw [e, stepP_some, part_one hj, if_pos rfl]
    have e2 : cut_oneL (f ++ [c]) j = cut_oneL f j ++ (if c.2.val.testBit j then [] else [outC c (j : Int)]) := by
      unfold cut_oneL
      rw [List.filter_append, List.map_append]
      congr 1
      cases h : c.2.val.testBit j <;> simp [h]
    rw [e2]
    show leastF ((leastF (cut_oneL f j)).1 ++ _) = _
    refine least_more hA (all_mem (fun x hx => ?_)) h0
    split at hx
    · cases hx
    · rw [List.mem_singleton.1 hx]; exact out_right c j
theorem fput_one {j : Nat} (hj : j < 24) {l : List C} (hl : rightF l = true) : putF l (j : Int) [top0] = leastF (cut_oneL l j) ∧ (leastF (cut_oneL l j)).2 = 0 := by
  have hA : (cut_oneL l j).all rightC = true := all_mem (fun x hx => by obtain ⟨a, _, rfl⟩ := List.mem_map.1 hx; exact out_right a _)
  refine ⟨?_, least_small hA (by unfold cut_oneL; rw [List.length_map]; exact Nat.le_trans (List.length_filter_le _ _) (rightF_len hl))⟩
  rw [putF_ok hl (by decide) (isDimB_nat hj)]
  unfold putR
  have e : notR [top0] = ([], 0) := by decide
  rw [e]
  exact fputs_one hj l (rightF_len hl)
theorem fput_one_in {j k : Nat} (hj : j < 24) {l : List C} (h : inF (leastF (cut_oneL l j)).1 k = true) : inF l k = true ∧ k ≠ j := by
  obtain ⟨c, hc, hb⟩ := inF_iff.1 h
  obtain ⟨a, ha, rfl⟩ := List.mem_map.1 (leastF_sub c hc)
  rw [(out_bits a j k hj).1, (out_bits a j k hj).2] at hb
  simp only [Bool.and_eq_true, Bool.not_eq_true', decide_eq_true_eq, decide_eq_false_iff_not] at hb
  have ha' := (List.mem_filter.1 ha).1
  rcases hb with ⟨⟨_, h1⟩, h2⟩ | ⟨⟨_, h1⟩, h2⟩
  · exact ⟨inF_iff.2 ⟨a, ha', .inl h1⟩, fun e => h2 e.symm⟩
  · exact ⟨inF_iff.2 ⟨a, ha', .inr h1⟩, fun e => h2 e.symm⟩
theorem aput_one {j : Nat} (hj : j < 24) {f : List C} (hf : rightA f = true) : ptA f (j : Int) [top0] = leastF (rstL f (posB j)) ∧ (leastF (rstL f (posB j))).2 = 0 := by
  have hall : ∀ c ∈ f, rightC c = true ∧ okC c = true := fun c hc => ⟨List.all_eq_true.1 (rightF_all (rightA_right hf)) c hc, rightA_ok hf c hc⟩
  have hA : (rstL f (posB j)).all rightC = true := all_mem (rst_right' (fun x hx => (hall x hx).1) _)
  refine ⟨?_, least_small hA (Nat.le_trans (rst_len f _) (rightA_len hf))⟩
  have hd : isDimB (j : Int) = true := isDimB_nat hj
  have hq : rightF [top0] = true := by decide
  unfold ptA
  rw [hf, hd, hq]
  have e1 : (ofF [top0]).1 = [top0] := by decide
  have e2 : ofZ [top0] = ([], 0) := by decide
  rw [e1, e2]
  exact pts_one hj f hall (rightA_len hf)
theorem aput_one_in {j k : Nat} (hj : j < 24) {f : List C} (hf : rightA f = true) (h : inF (leastF (rstL f (posB j))).1 k = true) : inF f k = true ∧ k ≠ j := by
  obtain ⟨c, hc, hb⟩ := inF_iff.1 h
  obtain ⟨a, ha, hw, rfl⟩ := mem_rst.1 (leastF_sub c hc)
  rw [with_one hj (rightA_ok hf a ha), Bool.not_eq_true'] at hw
  rw [cut_one hj (List.all_eq_true.1 (rightF_all (rightA_right hf)) a ha) (rightA_ok hf a ha) hw] at hb
  rw [(out_bits a j k hj).1, (out_bits a j k hj).2] at hb
  simp only [Bool.and_eq_true, Bool.not_eq_true', decide_eq_true_eq, decide_eq_false_iff_not] at hb
  rcases hb with ⟨⟨_, h1⟩, h2⟩ | ⟨⟨_, h1⟩, h2⟩
  · exact ⟨inF_iff.2 ⟨a, ha, .inl h1⟩, fun e => h2 e.symm⟩
  · exact ⟨inF_iff.2 ⟨a, ha, .inr h1⟩, fun e => h2 e.symm⟩

/-! ### nil -/
def cut_nilL (l : List C) (j : Nat) : List C := (l.filter fun c => !c.1.val.testBit j).map fun c => outC c (j : Int)
theorem part_nil {c : C} {j : Nat} (hj : j < 24) : partF c (j : Int) [] ([top0], 0) = (if c.1.val.testBit j then [] else [outC c (j : Int)], 0) := by
  have hB1 : hasB c.1.val (j : Int) = c.1.val.testBit j := hasB_nat hj
  have hB2 : hasB c.2.val (j : Int) = c.2.val.testBit j := hasB_nat hj
  have hr := out_right c (j : Int)
  unfold partF partA
  rw [hB1, hB2]
  cases h1 : c.1.val.testBit j <;> cases h2 : c.2.val.testBit j <;> simp [meetR_top hr, meetR_nil, meetR_nill]
theorem fputs_nil {j : Nat} (hj : j < 24) (f : List C) : f.length ≤ 64 → putS f (j : Int) [] ([top0], 0) = leastF (cut_nilL f j) := by
  induction f using snoc_ind with
  | nil => intro _; simp only [putS, List.foldl_nil, cut_nilL, List.filter_nil, List.map_nil]; decide
  | snoc f c ih =>
    intro hl
    have hl2 : f.length ≤ 64 := by simp at hl; omega
    have hA : (cut_nilL f j).all rightC = true := all_mem (fun x hx => by obtain ⟨a, _, rfl⟩ := List.mem_map.1 hx; exact out_right a _)
    have h0 : (leastF (cut_nilL f j)).2 = 0 := least_small hA (by unfold cut_nilL; rw [List.length_map]; exact Nat.le_trans (List.length_filter_le _ _) hl2)
    rw [putS_snoc, ih hl2]
    have e := leastF_pair h0
    rw [e, stepP_some, part_nil hj, if_pos rfl]
    have e2 : cut_nilL (f ++ [c]) j = cut_nilL f j ++ (if c.1.val.testBit j then [] else [outC c (j : Int)]) := by
      unfold cut_nilL
      rw [List.filter_append, List.map_append]
      congr 1
      cases h : c.1.val.testBit j <;> simp [h]
    rw [e2]
    show leastF ((leastF (cut_nilL f j)).1 ++ _) = _
    refine least_more hA (all_mem (fun x hx => ?_)) h0
    split at hx
    · cases hx
    · rw [List.mem_singleton.1 hx]; exact out_right c j
theorem fput_nil {j : Nat} (hj : j < 24) {l : List C} (hl : rightF l = true) : putF l (j : Int) [] = leastF (cut_nilL l j) ∧ (leastF (cut_nilL l j)).2 = 0 := by
  have hA : (cut_nilL l j).all rightC = true := all_mem (fun x hx => by obtain ⟨a, _, rfl⟩ := List.mem_map.1 hx; exact out_right a _)
  refine ⟨?_, least_small hA (by unfold cut_nilL; rw [List.length_map]; exact Nat.le_trans (List.length_filter_le _ _) (rightF_len hl))⟩
  rw [putF_ok hl (by decide) (isDimB_nat hj)]
  unfold putR
  have e : notR [] = ([top0], 0) := by decide
  rw [e]
  exact fputs_nil hj l (rightF_len hl)
theorem fput_nil_in {j k : Nat} (hj : j < 24) {l : List C} (h : inF (leastF (cut_nilL l j)).1 k = true) : inF l k = true ∧ k ≠ j := by
  obtain ⟨c, hc, hb⟩ := inF_iff.1 h
  obtain ⟨a, ha, rfl⟩ := List.mem_map.1 (leastF_sub c hc)
  rw [(out_bits a j k hj).1, (out_bits a j k hj).2] at hb
  simp only [Bool.and_eq_true, Bool.not_eq_true', decide_eq_true_eq, decide_eq_false_iff_not] at hb
  have ha' := (List.mem_filter.1 ha).1
  rcases hb with ⟨⟨_, h1⟩, h2⟩ | ⟨⟨_, h1⟩, h2⟩
  · exact ⟨inF_iff.2 ⟨a, ha', .inl h1⟩, fun e => h2 e.symm⟩
  · exact ⟨inF_iff.2 ⟨a, ha', .inr h1⟩, fun e => h2 e.symm⟩
theorem aput_nil {j : Nat} (hj : j < 24) {f : List C} (hf : rightA f = true) : ptA f (j : Int) [] = leastF (rstL f (negB j)) ∧ (leastF (rstL f (negB j))).2 = 0 := by
  have hall : ∀ c ∈ f, rightC c = true ∧ okC c = true := fun c hc => ⟨List.all_eq_true.1 (rightF_all (rightA_right hf)) c hc, rightA_ok hf c hc⟩
  have hA : (rstL f (negB j)).all rightC = true := all_mem (rst_right' (fun x hx => (hall x hx).1) _)
  refine ⟨?_, least_small hA (Nat.le_trans (rst_len f _) (rightA_len hf))⟩
  have hd : isDimB (j : Int) = true := isDimB_nat hj
  have hq : rightF [] = true := by decide
  unfold ptA
  rw [hf, hd, hq]
  have e1 : (ofF []).1 = [] := by decide
  have e2 : ofZ [] = ([top0], 0) := by decide
  rw [e1, e2]
  exact pts_nil hj f hall (rightA_len hf)
theorem aput_nil_in {j k : Nat} (hj : j < 24) {f : List C} (hf : rightA f = true) (h : inF (leastF (rstL f (negB j))).1 k = true) : inF f k = true ∧ k ≠ j := by
  obtain ⟨c, hc, hb⟩ := inF_iff.1 h
  obtain ⟨a, ha, hw, rfl⟩ := mem_rst.1 (leastF_sub c hc)
  rw [with_nil hj (rightA_ok hf a ha), Bool.not_eq_true'] at hw
  rw [cut_nil hj (List.all_eq_true.1 (rightF_all (rightA_right hf)) a ha) (rightA_ok hf a ha) hw] at hb
  rw [(out_bits a j k hj).1, (out_bits a j k hj).2] at hb
  simp only [Bool.and_eq_true, Bool.not_eq_true', decide_eq_true_eq, decide_eq_false_iff_not] at hb
  rcases hb with ⟨⟨_, h1⟩, h2⟩ | ⟨⟨_, h1⟩, h2⟩
  · exact ⟨inF_iff.2 ⟨a, ha, .inl h1⟩, fun e => h2 e.symm⟩
  · exact ⟨inF_iff.2 ⟨a, ha, .inr h1⟩, fun e => h2 e.symm⟩

/-! ### a row -/
theorem put_no {PF : List C → Int → List C → List C × Int} {i bd : Nat} {r l : List C} (h : i + bd < 24 → inF l (i + bd) = false) : putRow PF (i : Int) r l bd = (l, 0) := by
  unfold putRow
  have e : hasB (dimsN l) ((i : Int) + (bd : Int)) = false := by
    have e1 : ((i : Int) + (bd : Int)) = ((i + bd : Nat) : Int) := by omega
    rw [e1]
    by_cases h24 : i + bd < 24
    · rw [hasB_nat h24, dimsN_bit, h h24]; simp
    · exact hasB_no (by simp [isDimB]; omega)
  rw [e]; rfl
theorem put_yes {PF : List C → Int → List C → List C × Int} {s : DStp} (hs : s.ok) {bd : Nat} {l : List C} (h24 : s.i + bd < 24) (h : inF l (s.i + bd) = true) : putRow PF (s.i : Int) s.r l bd = PF l ((s.i + bd : Nat) : Int) s.r := by
  unfold putRow
  have e1 : ((s.i : Int) + (bd : Int)) = ((s.i + bd : Nat) : Int) := by omega
  rw [e1, hasB_nat h24, dimsN_bit, h]
  have e2 : liftFF s.r 0 (bd : Int) = (s.r, 0) := by
    rcases hs.2 with ⟨hr, _⟩ | ⟨hr, _⟩
    · rw [hr]; exact lift_top24 ⟨bd, by omega⟩
    · rw [hr]; exact lift_nil24 ⟨bd, by omega⟩
  rw [e2]
  simp [h24]
theorem row_cases {i bd : Nat} {l : List C} : (i + bd < 24 ∧ inF l (i + bd) = true) ∨ (i + bd < 24 → inF l (i + bd) = false) := by
  by_cases h : i + bd < 24
  · cases hh : inF l (i + bd)
    · exact .inr (fun _ => rfl)
    · exact .inl ⟨h, rfl⟩
  · exact .inr (fun h' => absurd h' h)
theorem rowF {s : DStp} (hs : s.ok) {l : List C} (hl : rightF l = true) (bd : Nat) : ((putOp s.i s.r).fn l bd).2 = 0 ∧ rightF ((putOp s.i s.r).fn l bd).1 = true ∧ ∀ k, k < 24 → inF ((putOp s.i s.r).fn l bd).1 k = true → inF l k = true ∧ k ≠ s.i + bd := by
  show (putRow putF (s.i : Int) s.r l bd).2 = 0 ∧ rightF (putRow putF (s.i : Int) s.r l bd).1 = true ∧ ∀ k, k < 24 → inF (putRow putF (s.i : Int) s.r l bd).1 k = true → inF l k = true ∧ k ≠ s.i + bd
  rcases row_cases (i := s.i) (bd := bd) (l := l) with ⟨h24, h⟩ | h
  · rw [put_yes hs h24 h]
    rcases hs.2 with ⟨hr, _⟩ | ⟨hr, _⟩
    · rw [hr]
      obtain ⟨e1, e2⟩ := fput_one h24 hl
      rw [e1]
      exact ⟨e2, leastF_right _, fun k _ hk => fput_one_in h24 hk⟩
    · rw [hr]
      obtain ⟨e1, e2⟩ := fput_nil h24 hl
      rw [e1]
      exact ⟨e2, leastF_right _, fun k _ hk => fput_nil_in h24 hk⟩
  · rw [put_no h]
    exact ⟨rfl, hl, fun k hk hi => ⟨hi, fun e => by subst e; rw [h hk] at hi; cases hi⟩⟩
theorem rowA {s : DStp} (hs : s.ok) {l : List C} (hl : rightA l = true) (bd : Nat) : ((putOp s.i s.r).fc l bd).2 = 0 ∧ rightA ((putOp s.i s.r).fc l bd).1 = true ∧ ∀ k, k < 24 → inF ((putOp s.i s.r).fc l bd).1 k = true → inF l k = true ∧ k ≠ s.i + bd := by
  show (putRow ptA (s.i : Int) s.r l bd).2 = 0 ∧ rightA (putRow ptA (s.i : Int) s.r l bd).1 = true ∧ ∀ k, k < 24 → inF (putRow ptA (s.i : Int) s.r l bd).1 k = true → inF l k = true ∧ k ≠ s.i + bd
  rcases row_cases (i := s.i) (bd := bd) (l := l) with ⟨h24, h⟩ | h
  · rw [put_yes hs h24 h]
    have hR := ptA_right l ((s.i + bd : Nat) : Int) s.r
    rcases hs.2 with ⟨hr, _⟩ | ⟨hr, _⟩
    · rw [hr] at hR ⊢
      obtain ⟨e1, e2⟩ := aput_one h24 hl
      refine ⟨by rw [e1]; exact e2, hR, fun k _ hk => ?_⟩
      rw [e1] at hk
      exact aput_one_in h24 hl hk
    · rw [hr] at hR ⊢
      obtain ⟨e1, e2⟩ := aput_nil h24 hl
      refine ⟨by rw [e1]; exact e2, hR, fun k _ hk => ?_⟩
      rw [e1] at hk
      exact aput_nil_in h24 hl hk
  · rw [put_no h]
    exact ⟨rfl, hl, fun k hk hi => ⟨hi, fun e => by subst e; rw [h hk] at hi; cases hi⟩⟩
theorem bit_in {l : List C} {k : Nat} : (dimsN l).testBit k = true ↔ k < 24 ∧ inF l k = true := by rw [dimsN_bit, Bool.and_eq_true, decide_eq_true_eq]
theorem reach_sub {o : Bool} {e : Nat} {r r' : List C} (h : reachB o e r = true) (hs : ∀ k, k < 24 → inF r' k = true → inF r k = true) : reachB o e r' = true := by
  unfold reachB at h ⊢
  cases o
  · simp only [Bool.false_or, decide_eq_true_eq] at h ⊢
    refine Nat.eq_of_testBit_eq (fun j => ?_)
    rw [Nat.zero_testBit, Nat.testBit_div_two_pow]
    cases hb : (dimsN r').testBit (j + e)
    · rfl
    · have h1 := bit_in.1 hb
      have h2 : (dimsN r).testBit (j + e) = true := bit_in.2 ⟨h1.1, hs _ h1.1 h1.2⟩
      have h3 : (dimsN r / 2 ^ e).testBit j = true := by rw [Nat.testBit_div_two_pow]; exact h2
      rw [h, Nat.zero_testBit] at h3
      cases h3
  · rfl
theorem own_ok {s : DStp} (hs : s.ok) {o : Bool} {e : Nat} {k : Int} {r : List C} (h : rowB o e k r = true) (bd : Nat) : (ownP (putOp s.i s.r) k r bd).2 = 0 ∧ rowB o e k (ownP (putOp s.i s.r) k r bd).1 = true ∧ ∀ j, j < 24 → inF (ownP (putOp s.i s.r) k r bd).1 j = true → inF r j = true ∧ j ≠ s.i + bd := by
  unfold rowB at h ⊢
  by_cases h1 : k = 13 ∨ k = 21 ∨ k = 26
  · have hk : ¬ k = 14 := by omega
    rw [if_pos h1, Bool.and_eq_true] at h
    obtain ⟨a, b, c⟩ := rowF hs h.1 bd
    unfold ownP
    rw [if_neg hk, if_pos h1, b]
    exact ⟨a, by rw [Bool.true_and]; exact reach_sub h.2 (fun j hj hi => (c j hj hi).1), c⟩
  · rw [if_neg h1] at h ⊢
    by_cases hk : k = 14
    · rw [if_pos hk, Bool.and_eq_true] at h
      obtain ⟨a, b, c⟩ := rowA hs h.1 bd
      unfold ownP
      rw [if_pos hk, if_pos hk, b]
      exact ⟨a, by rw [Bool.true_and]; exact reach_sub h.2 (fun j hj hi => (c j hj hi).1), c⟩
    · rw [if_neg hk, decide_eq_true_eq] at h
      obtain rfl := List.length_eq_zero_iff.1 h
      have e : (putOp s.i s.r).fn [] bd = ([], 0) := put_no (fun _ => rfl)
      unfold ownP
      rw [if_neg hk, if_neg hk, e]
      exact ⟨rfl, rfl, fun j _ hj => by cases hj⟩
/-! ### a term -/
/-- No branch whose face is never. -/
def neT : Tm → Prop := Tm.fold fun _ _ _ _ ks sys => (∀ p ∈ ks, p) ∧ ∀ b ∈ sys, b.1 ≠ [] ∧ ∀ p ∈ b.2, p
theorem ne_eq (t : Tm) : neT t ↔ (∀ x ∈ t.kids, neT x) ∧ ∀ b ∈ t.sys, b.1 ≠ [] ∧ ∀ x ∈ b.2, neT x := by
  unfold neT
  rw [fold_mk]
  simp only [List.mem_map, forall_exists_index, and_imp, forall_apply_eq_imp_iff₂]
theorem dK_mem {o : DOp} {k : Int} {l : List Tm} {bd : Nat} {y : Tm} (h : y ∈ dK o k l bd) : ∃ i x, l[i]? = some x ∧ y = dT o x (bd + bdK k i) := by
  unfold dK at h
  obtain ⟨p, hp, rfl⟩ := List.mem_map.1 h
  obtain ⟨i, hi⟩ := List.mem_iff_getElem?.1 hp
  rw [List.getElem?_zipIdx] at hi
  cases hx : l[i]? with
  | none => rw [hx] at hi; cases hi
  | some x => rw [hx] at hi; simp at hi; subst hi; exact ⟨i, x, hx, rfl⟩
theorem dS_mem {o : DOp} {k : Int} {l : List (List C × List Tm)} {bd : Nat} {y : List C × List Tm} (h : y ∈ dS o k l bd) : ∃ b ∈ l, stayB o bd b.1 = true ∧ y = dB o k b bd := by
  unfold dS at h
  obtain ⟨b, hb, rfl⟩ := List.mem_map.1 h
  exact ⟨b, (List.mem_filter.1 hb).1, (List.mem_filter.1 hb).2, rfl⟩
theorem d_pts {o : DOp} {t : Tm} {bd : Nat} {p : Tm × Nat × Nat} (h : p ∈ (dT o t bd).pts) : ∃ q ∈ t.pts, q.2 = p.2 ∧ p.1 = dT o q.1 (bd + q.2.2) := by
  rw [d_eq] at h
  rcases mem_pts h with ⟨i, h1, h2⟩ | ⟨b, h1, h2, h3⟩
  · dsimp only at h1 h2
    obtain ⟨x, hx⟩ := someL (l := t.kids) (k := i) (by rw [← dK_len o t.kind t.kids bd]; exact some_lt h1)
    rw [dK_get hx] at h1
    injection h1 with h1
    exact ⟨_, pts_kid hx, h2.symm, h1.symm⟩
  · dsimp only at h1 h2 h3
    obtain ⟨b0, hb0, _, rfl⟩ := dS_mem h1
    unfold dB at h2
    dsimp only at h2
    obtain ⟨x, hx, e⟩ := List.mem_map.1 h2
    exact ⟨_, pts_sys hb0 hx, h3.symm, e.symm⟩
theorem depth_d {o : DOp} : ∀ (n : Nat) (t : Tm) (bd : Nat), blk t ≤ n → depthT (dT o t bd) ≤ depthT t
  | 0, t, bd, hn => by have := blk_pos t; omega
  | n + 1, t, bd, hn => by
    have e := depth_eq (dT o t bd)
    rw [d_eq] at e ⊢
    rw [e, depth_eq t]
    dsimp only
    have h2 : dpL (dK o t.kind t.kids bd) ≤ dpL t.kids := maxL_le fun x hx => by
      obtain ⟨y, hy, rfl⟩ := List.mem_map.1 hx
      obtain ⟨i, z, hz, rfl⟩ := dK_mem hy
      have hm := List.mem_of_getElem? hz
      exact Nat.le_trans (depth_d n z _ (by have := blk_kid hm; omega)) (maxL_mem (List.mem_map_of_mem hm))
    have h3 : dpS (dS o t.kind t.sys bd) ≤ dpS t.sys := maxL_le fun x hx => by
      obtain ⟨y, hy, rfl⟩ := List.mem_map.1 hx
      obtain ⟨b, hb, _, rfl⟩ := dS_mem hy
      refine Nat.le_trans ?_ (maxL_mem (List.mem_map_of_mem (f := fun b : List C × List Tm => dpL b.2) hb))
      show dpL (b.2.map fun x => dT o x (bd + moreK t.kind)) ≤ dpL b.2
      refine maxL_le fun x hx => ?_
      obtain ⟨y, hy, rfl⟩ := List.mem_map.1 hx
      obtain ⟨z, hz, rfl⟩ := List.mem_map.1 hy
      exact Nat.le_trans (depth_d n z _ (by have := blk_sub hb hz; omega)) (maxL_mem (List.mem_map_of_mem hz))
    omega
/-- Nothing is refused. -/
theorem e_ok {s : DStp} (hs : s.ok) {o : Bool} {V : Int} {D : Nat} : ∀ (n : Nat) (t : Tm) (bd bv b2 : Nat), blk t ≤ n → okT o V D t bv b2 = true → eT (putOp s.i s.r) t bd = 0
  | 0, t, bd, bv, b2, hn, _ => by have := blk_pos t; omega
  | n + 1, t, bd, bv, b2, hn, h => by
    rw [ok_eq, Bool.and_eq_true] at h
    obtain ⟨h1, h2⟩ := h
    rw [List.all_eq_true] at h2
    unfold Tm.node nodeB at h1
    simp only [Bool.and_eq_true] at h1
    obtain ⟨⟨⟨⟨⟨_, _⟩, _⟩, _⟩, hrow⟩, hsys⟩ := h1
    refine e_none (own_ok hs hrow bd).1 (firstE_zero.2 fun x hx => ?_) (firstE_zero.2 fun x hx => ?_)
    · obtain ⟨i, hi⟩ := List.mem_iff_getElem?.1 hx
      obtain ⟨y, hy⟩ := someL (l := t.kids) (k := i) (by rw [← eK_len (putOp s.i s.r) t.kind t.kids bd]; exact some_lt hi)
      rw [eK_get hy] at hi
      injection hi with hi
      rw [← hi]
      exact e_ok hs n y _ _ _ (by have := blk_kid (List.mem_of_getElem? hy); omega) (h2 _ (pts_kid hy))
    · unfold eS at hx
      obtain ⟨b, hb, rfl⟩ := List.mem_map.1 hx
      have hbr := List.all_eq_true.1 hsys (b.1, b.2.length) (List.mem_map_of_mem hb)
      unfold brB at hbr
      simp only [Bool.and_eq_true] at hbr
      have hf := (rowA hs hbr.1.2 bd).1
      cases hst : stayB (putOp s.i s.r) bd b.1
      · exact b_gone hf hst
      · refine b_none hf hst (firstE_zero.2 fun x hx => ?_)
        unfold eBk at hx
        obtain ⟨y, hy, rfl⟩ := List.mem_map.1 hx
        exact e_ok hs n y _ _ _ (by have := blk_sub hb hy; omega) (h2 _ (pts_sys hb hy))
/-- It may be as before. -/
theorem ok_d {s : DStp} (hs : s.ok) {o : Bool} {V : Int} {D : Nat} : ∀ (n : Nat) (t : Tm) (bd bv b2 : Nat), blk t ≤ n → okT o V D t bv b2 = true → okT o V D (dT (putOp s.i s.r) t bd) bv b2 = true
  | 0, t, bd, bv, b2, hn, _ => by have := blk_pos t; omega
  | n + 1, t, bd, bv, b2, hn, h => by
    rw [ok_eq, Bool.and_eq_true] at h ⊢
    obtain ⟨h1, h2⟩ := h
    rw [List.all_eq_true] at h2 ⊢
    refine ⟨?_, fun p hp => ?_⟩
    · rw [d_eq]
      unfold Tm.node nodeB at h1 ⊢
      simp only [Bool.and_eq_true] at h1 ⊢
      obtain ⟨⟨⟨⟨⟨c1, c2⟩, c3⟩, c4⟩, hrow⟩, hsys⟩ := h1
      refine ⟨⟨⟨⟨⟨c1, by rw [dK_len]; exact c2⟩, c3⟩, c4⟩, (own_ok hs hrow bd).2.1⟩, ?_⟩
      rw [List.all_eq_true] at hsys ⊢
      intro q hq
      obtain ⟨y, hy, rfl⟩ := List.mem_map.1 hq
      obtain ⟨b, hb, _, rfl⟩ := dS_mem hy
      have hbr := hsys (b.1, b.2.length) (List.mem_map_of_mem hb)
      unfold brB at hbr ⊢
      simp only [Bool.and_eq_true] at hbr ⊢
      obtain ⟨r1, r2, r3⟩ := rowA hs hbr.1.2 bd
      refine ⟨⟨⟨hbr.1.1.1, ?_⟩, r2⟩, reach_sub hbr.2 (fun k hk hi => (r3 k hk hi).1)⟩
      show decide (((b.2.map fun x => dT (putOp s.i s.r) x (bd + moreK t.kind)).length : Int) = partsK t.kind) = true
      rw [List.length_map]
      exact hbr.1.1.2
    · obtain ⟨q, hq, e1, e2⟩ := d_pts hp
      rw [e2, ← e1]
      exact ok_d hs n q.1 _ _ _ (by have := blk_pts hq; omega) (h2 q hq)
/-- What it has left. -/
theorem hs_d {s : DStp} (hs : s.ok) {o : Bool} {V : Int} {D : Nat} : ∀ (n : Nat) (t : Tm) (bd bv b2 j : Nat), blk t ≤ n → okT o V D t bv b2 = true → hsT (dT (putOp s.i s.r) t bd) j = true → hsT t j = true ∧ j ≠ s.i + bd
  | 0, t, bd, bv, b2, j, hn, _, _ => by have := blk_pos t; omega
  | n + 1, t, bd, bv, b2, j, hn, h, hj => by
    rw [ok_eq, Bool.and_eq_true] at h
    obtain ⟨h1, h2⟩ := h
    rw [List.all_eq_true] at h2
    unfold Tm.node nodeB at h1
    simp only [Bool.and_eq_true] at h1
    obtain ⟨⟨⟨⟨⟨_, _⟩, _⟩, _⟩, hrow⟩, hsys⟩ := h1
    rw [hs_eq, Bool.or_eq_true, Bool.or_eq_true] at hj
    rw [hs_eq t, Bool.or_eq_true, Bool.or_eq_true]
    rcases hj with (hj | hj) | hj
    · rw [d_eq] at hj
      have hb := bit_in.1 hj
      obtain ⟨k1, k2⟩ := (own_ok hs hrow bd).2.2 j hb.1 hb.2
      exact ⟨.inl (.inl (bit_in.2 ⟨hb.1, k1⟩)), k2⟩
    · rw [d_eq, List.any_eq_true] at hj
      obtain ⟨y, hy, hyj⟩ := hj
      obtain ⟨b, hb, _, rfl⟩ := dS_mem hy
      have hbr := List.all_eq_true.1 hsys (b.1, b.2.length) (List.mem_map_of_mem hb)
      unfold brB at hbr
      simp only [Bool.and_eq_true] at hbr
      have hbb := bit_in.1 hyj
      obtain ⟨k1, k2⟩ := (rowA hs hbr.1.2 bd).2.2 j hbb.1 hbb.2
      exact ⟨.inl (.inr (List.any_eq_true.2 ⟨b, hb, bit_in.2 ⟨hbb.1, k1⟩⟩)), k2⟩
    · rw [List.any_eq_true] at hj
      obtain ⟨p, hp, hpj⟩ := hj
      obtain ⟨q, hq, e1, e2⟩ := d_pts hp
      rw [e2, ← e1] at hpj
      obtain ⟨k1, k2⟩ := hs_d hs n q.1 _ _ _ _ (by have := blk_pts hq; omega) (h2 q hq) hpj
      exact ⟨.inr (List.any_eq_true.2 ⟨q, hq, k1⟩), by omega⟩
theorem ne_d {o : DOp} : ∀ (n : Nat) (t : Tm) (bd : Nat), blk t ≤ n → neT (dT o t bd)
  | 0, t, bd, hn => by have := blk_pos t; omega
  | n + 1, t, bd, hn => by
    rw [ne_eq, d_eq]
    refine ⟨fun x hx => ?_, fun b hb => ?_⟩
    · obtain ⟨i, z, hz, rfl⟩ := dK_mem hx
      exact ne_d n z _ (by have := blk_kid (List.mem_of_getElem? hz); omega)
    · obtain ⟨b0, hb0, hst, rfl⟩ := dS_mem hb
      refine ⟨?_, fun x hx => ?_⟩
      · intro e
        have e' : (o.fc b0.1 bd).1 = [] := e
        unfold stayB at hst
        rw [e'] at hst
        cases hst
      · obtain ⟨z, hz, rfl⟩ := List.mem_map.1 hx
        exact ne_d n z _ (by have := blk_sub hb0 hz; omega)
/-- Where it has no such dimension nothing is changed. -/
theorem d_same {s : DStp} : ∀ (n : Nat) (t : Tm) (bd : Nat), blk t ≤ n → neT t → hsT t (s.i + bd) = false → dT (putOp s.i s.r) t bd = t
  | 0, t, bd, hn, _, _ => by have := blk_pos t; omega
  | n + 1, t, bd, hn, hne, hh => by
    rw [ne_eq] at hne
    rw [hs_eq, Bool.or_eq_false_iff, Bool.or_eq_false_iff] at hh
    obtain ⟨⟨hr, hs⟩, hp⟩ := hh
    rw [List.any_eq_false] at hs hp
    have no : ∀ l : List C, (dimsN l).testBit (s.i + bd) = false → (s.i + bd < 24 → inF l (s.i + bd) = false) := fun l h h24 => by
      cases hi : inF l (s.i + bd)
      · rfl
      · rw [bit_in.2 ⟨h24, hi⟩] at h; cases h
    have e1 : (ownP (putOp s.i s.r) t.kind t.r bd).1 = t.r := by
      unfold ownP
      split
      · have := put_no (PF := ptA) (r := s.r) (no t.r hr); exact congrArg Prod.fst this
      · have := put_no (PF := putF) (r := s.r) (no t.r hr); exact congrArg Prod.fst this
    have e2 : dK (putOp s.i s.r) t.kind t.kids bd = t.kids := by
      refine List.ext_getElem? fun i => ?_
      cases hx : t.kids[i]? with
      | none =>
        rw [List.getElem?_eq_none_iff] at hx ⊢
        rw [dK_len]; exact hx
      | some x =>
        rw [dK_get hx]
        have hm := List.mem_of_getElem? hx
        have := hp _ (pts_kid hx)
        have h2 : hsT x (s.i + (bd + bdK t.kind i)) = false := by
          have : hsT x (s.i + bd + bdK t.kind i) = false := by simpa using this
          rw [← Nat.add_assoc]; exact this
        rw [d_same n x _ (by have := blk_kid hm; omega) (hne.1 x hm) h2]
    have e3 : dS (putOp s.i s.r) t.kind t.sys bd = t.sys := by
      have fc : ∀ b ∈ t.sys, (putOp s.i s.r).fc b.1 bd = (b.1, 0) := fun b hb => put_no (PF := ptA) (r := s.r) (no b.1 (by simpa using hs b hb))
      unfold dS
      rw [List.filter_eq_self.2 (fun b hb => by
        unfold stayB
        rw [fc b hb]
        have := (hne.2 b hb).1
        cases hb1 : b.1 with
        | nil => exact absurd hb1 this
        | cons _ _ => rfl)]
      conv => rhs; rw [← List.map_id t.sys]
      refine List.map_congr_left fun b hb => ?_
      unfold dB
      rw [fc b hb]
      refine Prod.ext rfl ?_
      show (b.2.map fun x => dT (putOp s.i s.r) x (bd + moreK t.kind)) = b.2
      conv => rhs; rw [← List.map_id b.2]
      refine List.map_congr_left fun x hx => ?_
      have := hp _ (pts_sys hb hx)
      have h2 : hsT x (s.i + (bd + moreK t.kind)) = false := by
        have : hsT x (s.i + bd + moreK t.kind) = false := by simpa using this
        rw [← Nat.add_assoc]; exact this
      exact d_same n x _ (by have := blk_sub hb hx; omega) ((hne.2 b hb).2 x hx) h2
    rw [d_eq, e1, e2, e3]
    cases t
    rfl
/-! ### one after another -/
theorem pall_all {r : List C} {p : Nat → C} {o : Bool} {V : Int} {D : Nat} : ∀ (l : List Nat) (t : Tm), (∀ i ∈ l, (DStp.mk i r (p i)).ok) → okT o V D t 0 0 = true → l.foldl (pallS r) (t, 0) = ((l.map fun i => DStp.mk i r (p i)).foldl dStp t, 0) ∧ okT o V D ((l.map fun i => DStp.mk i r (p i)).foldl dStp t) 0 0 = true
  | [], t, _, h => ⟨rfl, h⟩
  | i :: l, t, hl, h => by
    have hs := hl i (by simp)
    have he : eT (putOp i r) t 0 = 0 := e_ok hs _ t 0 0 0 (Nat.le_refl _) h
    have e : pallS r (t, 0) i = (dT (putOp i r) t 0, 0) := by unfold pallS ansD; simp [he]
    rw [List.foldl_cons, e]
    exact pall_all l _ (fun x hx => hl x (List.mem_cons_of_mem _ hx)) (ok_d hs _ t 0 0 0 (Nat.le_refl _) h)
theorem undR_all {c : C} {t : Tm} {o : Bool} {V : Int} {D : Nat} (h : okT o V D t 0 0 = true) : undR c t = ((stepsC c).foldl dStp t, 0) ∧ okT o V D ((stepsC c).foldl dStp t) 0 0 = true := by
  obtain ⟨e1, h1⟩ := pall_all (r := [top0]) (p := posB) (dimsOf c.1.val) t (fun i hi => ⟨dimsOf_lt i hi, .inl ⟨rfl, rfl⟩⟩) h
  obtain ⟨e2, h2⟩ := pall_all (r := []) (p := negB) (dimsOf c.2.val) _ (fun i hi => ⟨dimsOf_lt i hi, .inr ⟨rfl, rfl⟩⟩) h1
  unfold undR pall stepsC
  rw [e1, List.foldl_append]
  exact ⟨by rw [if_pos rfl, e2], h2⟩
theorem steps_end {o : Bool} {V : Int} {D : Nat} : ∀ (l : List DStp) (t : Tm), (∀ s ∈ l, s.ok) → okT o V D t 0 0 = true → (∀ j, hsT (l.foldl dStp t) j = true → hsT t j = true ∧ ∀ s ∈ l, j ≠ s.i) ∧ (neT t ∨ l ≠ [] → neT (l.foldl dStp t)) ∧ depthT (l.foldl dStp t) ≤ depthT t
  | [], t, _, _ => ⟨fun j h => ⟨h, fun s hs => by cases hs⟩, fun h => h.resolve_right (fun h => h rfl), Nat.le_refl _⟩
  | s :: l, t, hl, h => by
    have hs := hl s (by simp)
    have h1 : okT o V D (dStp t s) 0 0 = true := ok_d hs _ t 0 0 0 (Nat.le_refl _) h
    obtain ⟨a, b, c⟩ := steps_end l (dStp t s) (fun x hx => hl x (List.mem_cons_of_mem _ hx)) h1
    rw [List.foldl_cons]
    refine ⟨fun j hj => ?_, fun _ => b (.inl (ne_d _ t 0 (Nat.le_refl _))), Nat.le_trans c (depth_d _ t 0 (Nat.le_refl _))⟩
    obtain ⟨a1, a2⟩ := a j hj
    obtain ⟨k1, k2⟩ := hs_d hs _ t 0 0 0 j (Nat.le_refl _) h a1
    refine ⟨k1, fun x hx => ?_⟩
    rcases List.mem_cons.1 hx with rfl | hx
    · exact by simpa using k2
    · exact a2 x hx
theorem steps_same : ∀ (l : List DStp) (t : Tm), neT t → (∀ s ∈ l, hsT t s.i = false) → l.foldl dStp t = t
  | [], t, _, _ => rfl
  | s :: l, t, hn, h => by
    have e : dStp t s = t := d_same _ t 0 (Nat.le_refl _) hn (h s (by simp))
    rw [List.foldl_cons, e]
    exact steps_same l t hn (fun x hx => h x (List.mem_cons_of_mem _ hx))
/-- All that is said. -/
theorem gone_all {c : C} {t : Tm} {V d : Int} (hc : rightA [c] = true) (h : rightN V d t = 0) :
    (undA c t).2 = 0 ∧ rightN V d (undA c t).1 = 0 ∧ undA c (undA c t).1 = ((undA c t).1, 0) ∧ ∀ j, hsT (undA c t).1 j = true → c.1.val.testBit j = false ∧ c.2.val.testBit j = false := by
  unfold rightN at h ⊢
  split at h
  · cases h
  · rename_i hVd
    rw [if_neg hVd]
    have hdep : depthT t ≤ 200 ∧ okT false V d.toNat t 0 0 = true := by
      unfold wrongN at h
      split at h
      · cases h
      · rename_i h1
        split at h
        · rename_i h2; exact ⟨by omega, h2⟩
        · cases h
    have wf : ∀ u : Tm, depthT u ≤ 200 → okT false V d.toNat u 0 0 = true → wrongN true 0 0 u = 0 ∧ wrongN false V d.toNat u = 0 := fun u h1 h2 => by
      have h3 := ok_formed V 0 d.toNat 0 false _ u (Nat.le_refl _) 0 0 0 0 h2
      unfold wrongN
      have hn : ¬ 200 < depthT u := by omega
      rw [if_neg hn, if_neg hn, if_pos h3, if_pos h2]
      exact ⟨rfl, rfl⟩
    have hr : singleC c = true := by
      have h1 := rightA_iff.1 hc
      exact singleC_iff.2 ⟨by have := rightF_all h1.1; simpa using this, h1.2 c (by simp)⟩
    have und : ∀ u : Tm, depthT u ≤ 200 → okT false V d.toNat u 0 0 = true → undA c u = ((stepsC c).foldl dStp u, 0) := fun u h1 h2 => by
      unfold undA
      rw [(wf u h1 h2).1, if_pos rfl, if_pos hc]
      exact (undR_all h2).1
    obtain ⟨a, b, e⟩ := steps_end (stepsC c) t (steps_ok c) hdep.2
    have hok := (undR_all (c := c) hdep.2).2
    have hd2 : depthT ((stepsC c).foldl dStp t) ≤ 200 := by omega
    rw [und t hdep.1 hdep.2]
    refine ⟨rfl, (wf _ hd2 hok).2, ?_, fun j hj => ?_⟩
    · show undA c ((stepsC c).foldl dStp t) = ((stepsC c).foldl dStp t, 0)
      rw [und _ hd2 hok]
      by_cases hl : stepsC c = []
      · rw [hl]; rfl
      · rw [steps_same (stepsC c) _ (b (.inr hl)) (fun s hs => by
          cases hh : hsT ((stepsC c).foldl dStp t) s.i
          · rfl
          · exact absurd rfl ((a s.i hh).2 s hs))]
    · obtain ⟨_, h2⟩ := a j hj
      have hb := steps_bits (singleC_iff.1 hr).1 j
      refine ⟨?_, ?_⟩
      · cases hx : c.1.val.testBit j
        · rfl
        · exfalso
          have hj24 := bit_lt24 (rightC_iff.1 (singleC_iff.1 hr).1).1 hx
          exact h2 ⟨j, [top0], posB j⟩ (List.mem_append_left _ (List.mem_map_of_mem (mem_dimsOf.2 ⟨hj24, hx⟩))) rfl
      · cases hx : c.2.val.testBit j
        · rfl
        · exfalso
          have hj24 := bit_lt24 (rightC_iff.1 (singleC_iff.1 hr).1).2 hx
          exact h2 ⟨j, [], negB j⟩ (List.mem_append_right _ (List.mem_map_of_mem (mem_dimsOf.2 ⟨hj24, hx⟩))) rfl
end Go.Proofs.YticoacgoapalhabGreat

namespace Go.Proofs.YticoacgoapalhabGreat
open Go.RowKit
set_option linter.unusedVariables false
set_option linter.unusedSimpArgs false

def RSmC (N : Nat) : Prop := ∀ (t u : Tm) (b : Bool) (v v' : Value) (w : World), TmIn Tt w t v → TmIn Tt w u v' → blk t ≤ N → blk t ≤ 40000 → (b = true ↔ t = u) →
  Calls Tryz.prog 11 #[v, v'] w fun e w' => e = .returned (.bool b) ∧ Below w.heap.size w w'
def RLsC (N : Nat) : Prop := ∀ (l m : List Tm) (b : Bool) (v v' : Value) (w : World), KdT Tt w (TmIn Tt w) l v → KdT Tt w (TmIn Tt w) m v' → blkL l ≤ N → blkL l ≤ 40000 → (b = true ↔ l = m) →
  Calls Tryz.prog 27 #[v, v'] w fun e w' => e = .returned (.bool b) ∧ Below w.heap.size w w'
set_option maxRecDepth 100000 in
set_option maxHeartbeats 4000000 in
theorem rlists_of (N : Nat) (IH : RSmC N) : RLsC N := by
  intro l m b v v' w h1 h2 hN hbb hb
  obtain ⟨la, lc, rfl, _⟩ := id h1
  obtain ⟨ma, mc, rfl, _⟩ := id h2
  have HF : Hid (¬ l = m → b = false) := fun h => Bool.eq_false_iff.2 fun h2 => h (hb.1 h2)
  have HTr : Hid (l = m → b = true) := fun h => hb.2 h
  have H1 : Hid (KdT Tt w (TmIn Tt w) l (.slice la l.length lc)) := h1
  have H2 : Hid (KdT Tt w (TmIn Tt w) m (.slice ma m.length mc)) := h2
  have hll := blkL_len l
  obtain ⟨L, hL⟩ : ∃ L, L = l.length := ⟨_, rfl⟩
  have HL : Hid (L = l.length) := hL
  obtain ⟨M, hM⟩ : ∃ L, L = m.length := ⟨_, rfl⟩
  have HM : Hid (M = m.length) := hM
  rw [← hL, ← hM]
  rw [← hL] at hll
  clear hb h1 h2 hL hM
  by_cases hLM : L = M
  · subst hLM
    go_enter Tryz.func27, Tryz.ntmps27
    go_wp2_with fail
    go_loopw [5] (fun i wr => ∃ k : Nat, k ≤ L ∧ i = .int .i64 k ∧ Hid (∀ j, j < k → l[j]? = m[j]?) ∧ Below w.heap.size w wr) (fun i _ => L - (intOf i).toNat)
    case atStart => exact ⟨0, Nat.zero_le _, rfl, fun j hj => by omega, Below.refl _ _⟩
    case round =>
      obtain ⟨wo, hwo⟩ : ∃ wo, wo = wr := ⟨_, rfl⟩
      subst hwo
      obtain ⟨k, hk, rfl, HS, hBr⟩ := hrel
      by_cases hlt : k < L
      · have hkI : (k : Int) < (L : Int) := by omega
        obtain ⟨x, hx⟩ := someL (l := l) (k := k) (by rw [← HL.out]; exact hlt)
        obtain ⟨y, hy⟩ := someL (l := m) (k := k) (by rw [← HM.out]; exact hlt)
        have hbx : blk x ≤ blkL l := sumN_mem (List.mem_map_of_mem (List.mem_of_getElem? hx))
        have HX : Hid (l[k]? = some x ∧ m[k]? = some y) := ⟨hx, hy⟩
        obtain ⟨g, off, ra1, rc1, ka1, kc1, sa1, sc1, rfl, hg, q6, qt⟩ := (H1.out.blw hBr).at hx
        obtain ⟨g2, off2, ra2, rc2, ka2, kc2, sa2, sc2, rfl, hg2, p6, pt⟩ := (H2.out.blw hBr).at hy
        have HQ : Hid (Cs6 wo g (off + k * 6) x ra1 rc1 ka1 kc1 sa1 sc1) := q6
        have HP : Hid (Cs6 wo g2 (off2 + k * 6) y ra2 rc2 ka2 kc2 sa2 sc2) := p6
        obtain ⟨eb, heb⟩ := bool_of (x = y)
        have HEb : Hid (eb = true ↔ x = y) := heb
        have rC : Hid (∀ z : Cw wo, Calls Tryz.prog 11 #[.agg #[.int .i64 x.kind, .int .i64 x.n, .string x.name, .slice ra1 x.r.length rc1, .slice ka1 x.kids.length kc1, .slice sa1 x.sys.length sc1], .agg #[.int .i64 y.kind, .int .i64 y.n, .string y.name, .slice ra2 y.r.length rc2, .slice ka2 y.kids.length kc2, .slice sa2 y.sys.length sc2]] z.1 fun e w' => e = .returned (.bool eb) ∧ ∃ z' : Cw wo, w' = z'.1) := fun z => cw_call z (IH x y eb _ _ z.1 (qt.blw z.2).value (pt.blw z.2).value (by omega) (by omega) heb)
        clear hx hy q6 p6 heb
        have c0 : ∀ z : Cw wo, z.1.cell? ⟨g, off + k * 6, none⟩ = some (.int .i64 x.kind) := fun z => (HQ.out.blw z.2).c0
        have c1 : ∀ z : Cw wo, z.1.cell? ⟨g, off + k * 6 + 1, none⟩ = some (.int .i64 x.n) := fun z => (HQ.out.blw z.2).c1
        have c2 : ∀ z : Cw wo, z.1.cell? ⟨g, off + k * 6 + 2, none⟩ = some (.string x.name) := fun z => (HQ.out.blw z.2).c2
        have c3 : ∀ z : Cw wo, z.1.cell? ⟨g, off + k * 6 + 3, none⟩ = some (.slice ra1 x.r.length rc1) := fun z => (HQ.out.blw z.2).c3
        have c4 : ∀ z : Cw wo, z.1.cell? ⟨g, off + k * 6 + 4, none⟩ = some (.slice ka1 x.kids.length kc1) := fun z => (HQ.out.blw z.2).c4
        have c5 : ∀ z : Cw wo, z.1.cell? ⟨g, off + k * 6 + 5, none⟩ = some (.slice sa1 x.sys.length sc1) := fun z => (HQ.out.blw z.2).c5
        have d0 : ∀ z : Cw wo, z.1.cell? ⟨g2, off2 + k * 6, none⟩ = some (.int .i64 y.kind) := fun z => (HP.out.blw z.2).c0
        have d1 : ∀ z : Cw wo, z.1.cell? ⟨g2, off2 + k * 6 + 1, none⟩ = some (.int .i64 y.n) := fun z => (HP.out.blw z.2).c1
        have d2 : ∀ z : Cw wo, z.1.cell? ⟨g2, off2 + k * 6 + 2, none⟩ = some (.string y.name) := fun z => (HP.out.blw z.2).c2
        have d3 : ∀ z : Cw wo, z.1.cell? ⟨g2, off2 + k * 6 + 3, none⟩ = some (.slice ra2 y.r.length rc2) := fun z => (HP.out.blw z.2).c3
        have d4 : ∀ z : Cw wo, z.1.cell? ⟨g2, off2 + k * 6 + 4, none⟩ = some (.slice ka2 y.kids.length kc2) := fun z => (HP.out.blw z.2).c4
        have d5 : ∀ z : Cw wo, z.1.cell? ⟨g2, off2 + k * 6 + 5, none⟩ = some (.slice sa2 y.sys.length sc2) := fun z => (HP.out.blw z.2).c5
        clear qt pt
        have hne := cw_any wo
        go_upto_region 6 with fail
        cases eb with
        | false =>
          refine wp_region_cw (by kernel_rfl) (by kernel_rfl) ?_
          repeat (first | go_big_quiet_step (fail) | quiet_step (fail))
          first | go_big_quiet_step (exact rC.out _) | quiet_step (exact rC.out _)
          repeat (first | go_big_quiet_step (fail) | quiet_step (fail))
          refine wpQuiet_nil ?_
          rintro _ ⟨z, rfl⟩
          obtain ⟨w6, b6⟩ := z
          dsimp only
          clear rC hne c0 c1 c2 c3 c4 c5 d0 d1 d2 d3 d4 d5
          have HB : Hid (b = false) := HF.out (fun h => by
            have e := HX.out.1
            rw [h, HX.out.2] at e
            cases e
            have := HEb.out.2 rfl
            cases this)
          go_wp2_with fail
          go_ret
          exact ⟨ret_bool HB.out.symm, bchain hBr b6⟩
        | true =>
          refine wp_region_cw (by kernel_rfl) (by kernel_rfl) ?_
          repeat (first | go_big_quiet_step (fail) | quiet_step (fail))
          first | go_big_quiet_step (exact rC.out _) | quiet_step (exact rC.out _)
          repeat (first | go_big_quiet_step (fail) | quiet_step (fail))
          refine wpQuiet_nil ?_
          rintro _ ⟨z, rfl⟩
          obtain ⟨w6, b6⟩ := z
          dsimp only
          clear rC hne c0 c1 c2 c3 c4 c5 d0 d1 d2 d3 d4 d5
          have HS' : Hid (∀ j, j < k + 1 → l[j]? = m[j]?) := fun j hj => by
            rcases Nat.lt_or_ge j k with h | h
            · exact HS.out j h
            · have ej : j = k := by omega
              rw [ej, HX.out.1, HX.out.2, HEb.out.1 (by first | rfl | trivial)]
          clear HS HX HEb
          go_wp2_with fail
          go_roundw
          case rel => exact ⟨k + 1, by omega, by go_num, HS', bchain hBr b6⟩
          case measure => simp [intOf]; omega
      · have hkI : ¬ (k : Int) < (L : Int) := by omega
        have HB : Hid (b = true) := HTr.out (by
          apply List.ext_getElem?
          intro j
          rcases Nat.lt_or_ge j k with h | h
          · exact HS.out j h
          · rw [List.getElem?_eq_none (by rw [← HL.out]; omega), List.getElem?_eq_none (by rw [← HM.out]; omega)])
        clear HS
        go_wp2_with fail
        go_ret
        exact ⟨ret_bool HB.out.symm, hBr⟩
  · have HB : Hid (b = false) := HF.out (fun h => hLM (by rw [HL.out, HM.out, h]))
    have q1 : ¬ (L : Int) = (M : Int) := by omega
    have q2 : ((L : Int) == (M : Int)) = false := by simp; omega
    have q3 : ¬ L = M := hLM
    go_enter Tryz.func27, Tryz.ntmps27
    go_wp2_with fail
    go_ret
    exact ⟨ret_bool HB.out.symm, Below.refl _ _⟩
end Go.Proofs.YticoacgoapalhabGreat

namespace Go.Proofs.YticoacgoapalhabGreat
open Go.RowKit
set_option linter.unusedVariables false
set_option linter.unusedSimpArgs false

set_option maxRecDepth 100000 in
set_option maxHeartbeats 8000000 in
theorem rsame_step (N : Nat) (IH : RLsC N) : RSmC (N + 1) := by
  intro t u b v v' w hv hv' hN hbb hb
  rw [Tm.eq_iff] at hb
  have hbs := blk_eq t
  have hlen := blk_lens t
  obtain ⟨ra, rc, ka, kc, sa, sc, rfl, ht⟩ := hv.form
  obtain ⟨ra', rc', ka', kc', sa', sc', rfl, ht'⟩ := hv'.form
  obtain ⟨W, hW, bW, c6, c6'⟩ := boxT2 w t u ra rc ka kc sa sc ra' rc' ka' kc' sa' sc'
  have HT : Hid (TmTop Tt W t ra rc ka kc sa sc) := ht.blw bW
  have HU : Hid (TmTop Tt W u ra' rc' ka' kc' sa' sc') := ht'.blw bW
  have HC : Hid (Cs6 W w.heap.size 0 t ra rc ka kc sa sc) := c6
  have HC' : Hid (Cs6 W (w.heap.size + 1) 0 u ra' rc' ka' kc' sa' sc') := c6'
  have HLk : Hid (blkL t.kids ≤ N ∧ blkL t.kids ≤ 40000 ∧ t.r.length ≤ 40000) := ⟨by omega, by omega, by omega⟩
  have HLs : Hid (∀ c ∈ t.sys, blkL c.2 ≤ N ∧ blkL c.2 ≤ 40000 ∧ c.1.length ≤ 40000) := fun c hc => by have := blk_br hc; omega
  obtain ⟨c1, hc1⟩ := bool_of (t.kind = u.kind ∧ t.n = u.n ∧ t.name = u.name ∧ t.r = u.r ∧ t.kids = u.kids ∧ t.sys.length = u.sys.length)
  have HF1 : Hid (c1 = false → b = false) := fun h => Bool.eq_false_iff.2 fun h2 => by
    obtain ⟨e1, e2, e3, e4, e5, e6⟩ := hb.1 h2
    have := hc1.2 ⟨e1, e2, e3, e4, e5, by rw [e6]⟩
    rw [h] at this; cases this
  have HF2 : Hid (¬ t.sys = u.sys → b = false) := fun h => Bool.eq_false_iff.2 fun h2 => h (hb.1 h2).2.2.2.2.2
  have HTr : Hid (c1 = true → t.sys = u.sys → b = true) := fun h h2 => hb.2 ⟨(hc1.1 h).1, (hc1.1 h).2.1, (hc1.1 h).2.2.1, (hc1.1 h).2.2.2.1, (hc1.1 h).2.2.2.2.1, h2⟩
  have HML : Hid (c1 = true → t.sys.length = u.sys.length) := fun h => (hc1.1 h).2.2.2.2.2
  have H1 : Hid (_ = _) := hW
  have HK : Hid (∀ b2 : Bool, (b2 = true ↔ t.kids = u.kids) → ∀ w2, Below W.heap.size W w2 → Calls Tryz.prog 27 #[.slice ka t.kids.length kc, .slice ka' u.kids.length kc'] w2 fun e w' => e = .returned (.bool b2) ∧ Below w2.heap.size w2 w') := fun b2 h2 w2 q => IH _ _ b2 _ _ w2 (HT.out.blw q).kids (HU.out.blw q).kids HLk.out.1 HLk.out.2.1 h2
  have HRr : Hid (∀ w2, Below W.heap.size W w2 → Calls Tryz.prog 15 #[.slice ra t.r.length rc, .slice ra' u.r.length rc'] w2 fun e w' => e = .returned (.bool (decide (t.r = u.r))) ∧ Below w2.heap.size w2 w') := fun w2 q => same_any t.r u.r _ _ w2 (HT.out.blw q).row.row (HU.out.blw q).row.row (by have := HLk.out.2.2; omega)
  obtain ⟨_, y0, y1, y2, y3, y4, y5⟩ := c6
  obtain ⟨_, z0, z1, z2, z3, z4, z5⟩ := c6'
  simp only [Nat.zero_add] at y1 y2 y3 y4 y5 z1 z2 z3 z4 z5
  obtain ⟨a0, ha0⟩ : ∃ a, a = t.kind := ⟨_, rfl⟩
  obtain ⟨b0, hb0⟩ : ∃ a, a = u.kind := ⟨_, rfl⟩
  obtain ⟨a1, ha1⟩ : ∃ a, a = t.n := ⟨_, rfl⟩
  obtain ⟨b1, hb1⟩ : ∃ a, a = u.n := ⟨_, rfl⟩
  obtain ⟨a2, ha2⟩ : ∃ a, a = t.name := ⟨_, rfl⟩
  obtain ⟨b2, hb2⟩ : ∃ a, a = u.name := ⟨_, rfl⟩
  obtain ⟨M, hM⟩ : ∃ a, a = t.sys.length := ⟨_, rfl⟩
  obtain ⟨M', hM'⟩ : ∃ a, a = u.sys.length := ⟨_, rfl⟩
  have HM : Hid (M = t.sys.length) := hM
  have HM' : Hid (M' = u.sys.length) := hM'
  obtain ⟨rb, hrb⟩ : ∃ r, r = decide (t.r = u.r) := ⟨_, rfl⟩
  obtain ⟨kb, hkb⟩ := bool_of (t.kids = u.kids)
  have cR0 := HRr.out
  have cK0 := HK.out kb hkb
  rw [← hrb] at cR0
  have HcR : Hid (_) := cR0
  have HcK : Hid (_) := cK0
  rw [← ha0, ← hb0, ← ha1, ← hb1, ← ha2, ← hb2, ← hM, ← hM'] at hc1
  have hr2 : (rb = true ↔ t.r = u.r) := by rw [hrb]; simp
  rw [← hr2, ← hkb] at hc1
  rw [← ha0] at y0
  rw [← hb0] at z0
  rw [← ha1] at y1
  rw [← hb1] at z1
  rw [← ha2] at y2
  rw [← hb2] at z2
  rw [← hM] at y5
  rw [← hM'] at z5
  rw [← hM] at hlen
  clear hW hv hv' ht ht' ha0 hb0 ha1 hb1 ha2 hb2 hM hM' hrb hkb cR0 cK0 hr2 hb hbs
  have hMb : M ≤ 100000 := by omega
  clear hlen
  go_enter Tryz.func11, Tryz.ntmps11
  go_upto_region 1 with fail
  rw [← H1.out]
  clear H1
  go_cut [49] (fun s wx => s = .bool (!c1) ∧ Below W.heap.size W wx)
  case first => as_aux_lemma =>
    by_cases q0 : a0 = b0
    · subst q0
      by_cases q1 : a1 = b1
      · subst q1
        by_cases q2 : a2 = b2
        · subst q2
          have cR := HcR.out W (Below.refl _ _)
          cases rb with
          | false =>
            have e : c1 = false := by rw [Bool.eq_false_iff]; intro h; have := (hc1.1 h).2.2.2.1; cases this
            clear hc1
            go_wp2_with fail
            refine cR.mono ?_
            rintro e9 w2 ⟨rfl, b2⟩
            clear cR y0 y1 y2 y3 y4 y5 z0 z1 z2 z3 z4 z5
            go_wp2_with fail
            go_meet
            exact ⟨by rw [e]; rfl, b2⟩
          | true =>
            cases kb with
            | false =>
              have e : c1 = false := by rw [Bool.eq_false_iff]; intro h; have := (hc1.1 h).2.2.2.2.1; cases this
              clear hc1
              go_wp2_with fail
              refine cR.mono ?_
              rintro e9 w2 ⟨rfl, b2⟩
              clear cR
              clear y0 y1 y2 y3 y4 y5 z0 z1 z2 z3 z4 z5
              obtain ⟨_, y0, y1, y2, y3, y4, y5⟩ := HC.out.blw (b2)
              obtain ⟨_, z0, z1, z2, z3, z4, z5⟩ := HC'.out.blw (b2)
              simp only [Nat.zero_add] at y1 y2 y3 y4 y5 z1 z2 z3 z4 z5
              rw [← HM.out] at y5
              rw [← HM'.out] at z5
              have cK := HcK.out w2 b2
              go_wp2_with fail
              refine cK.mono ?_
              rintro e9 w3 ⟨rfl, b3⟩
              clear cK y0 y1 y2 y3 y4 y5 z0 z1 z2 z3 z4 z5
              go_wp2_with fail
              go_meet
              exact ⟨by rw [e]; rfl, bchain b2 b3⟩
            | true =>
              by_cases q5 : M = M'
              · have e : c1 = true := hc1.2 ⟨rfl, rfl, rfl, rfl, rfl, q5⟩
                clear hc1
                go_wp2_with fail
                refine cR.mono ?_
                rintro e9 w2 ⟨rfl, b2⟩
                clear cR
                clear y0 y1 y2 y3 y4 y5 z0 z1 z2 z3 z4 z5
                obtain ⟨_, y0, y1, y2, y3, y4, y5⟩ := HC.out.blw (b2)
                obtain ⟨_, z0, z1, z2, z3, z4, z5⟩ := HC'.out.blw (b2)
                simp only [Nat.zero_add] at y1 y2 y3 y4 y5 z1 z2 z3 z4 z5
                rw [← HM.out] at y5
                rw [← HM'.out] at z5
                have cK := HcK.out w2 b2
                go_wp2_with fail
                refine cK.mono ?_
                rintro e9 w3 ⟨rfl, b3⟩
                clear cK
                clear y0 y1 y2 y3 y4 y5 z0 z1 z2 z3 z4 z5
                obtain ⟨_, y0, y1, y2, y3, y4, y5⟩ := HC.out.blw (bchain b2 b3)
                obtain ⟨_, z0, z1, z2, z3, z4, z5⟩ := HC'.out.blw (bchain b2 b3)
                simp only [Nat.zero_add] at y1 y2 y3 y4 y5 z1 z2 z3 z4 z5
                rw [← HM.out] at y5
                rw [← HM'.out] at z5
                subst q5
                go_wp2_with fail
                go_meet
                exact ⟨by rw [e]; rfl, bchain b2 b3⟩
              · have e : c1 = false := by rw [Bool.eq_false_iff]; intro h; exact q5 (hc1.1 h).2.2.2.2.2
                have p1 : ((M : Int) == (M' : Int)) = false := by simp; omega
                have p2 : ¬ (M : Int) = (M' : Int) := by omega
                have p3 : ((M : Int) != (M' : Int)) = true := by simp; omega
                clear hc1
                go_wp2_with fail
                refine cR.mono ?_
                rintro e9 w2 ⟨rfl, b2⟩
                clear cR
                clear y0 y1 y2 y3 y4 y5 z0 z1 z2 z3 z4 z5
                obtain ⟨_, y0, y1, y2, y3, y4, y5⟩ := HC.out.blw (b2)
                obtain ⟨_, z0, z1, z2, z3, z4, z5⟩ := HC'.out.blw (b2)
                simp only [Nat.zero_add] at y1 y2 y3 y4 y5 z1 z2 z3 z4 z5
                rw [← HM.out] at y5
                rw [← HM'.out] at z5
                have cK := HcK.out w2 b2
                go_wp2_with fail
                refine cK.mono ?_
                rintro e9 w3 ⟨rfl, b3⟩
                clear cK
                clear y0 y1 y2 y3 y4 y5 z0 z1 z2 z3 z4 z5
                obtain ⟨_, y0, y1, y2, y3, y4, y5⟩ := HC.out.blw (bchain b2 b3)
                obtain ⟨_, z0, z1, z2, z3, z4, z5⟩ := HC'.out.blw (bchain b2 b3)
                simp only [Nat.zero_add] at y1 y2 y3 y4 y5 z1 z2 z3 z4 z5
                rw [← HM.out] at y5
                rw [← HM'.out] at z5
                go_wp2_with fail
                go_meet
                exact ⟨by rw [e]; rfl, bchain b2 b3⟩
        · have e : c1 = false := by rw [Bool.eq_false_iff]; intro h; exact q2 ((hc1.1 h).2.2.1)
          have p1 := strNe q2
          clear hc1
          go_wp2_with fail
          go_meet
          exact ⟨by rw [e]; rfl, Below.refl _ _⟩
      · have e : c1 = false := by rw [Bool.eq_false_iff]; intro h; exact q1 ((hc1.1 h).2.1)
        have p1 : (a1 == b1) = false := by simpa using q1
        have p2 : (a1 != b1) = true := by simpa using q1
        clear hc1
        go_wp2_with fail
        go_meet
        exact ⟨by rw [e]; rfl, Below.refl _ _⟩
    · have e : c1 = false := by rw [Bool.eq_false_iff]; intro h; exact q0 ((hc1.1 h).1)
      have p1 : (a0 == b0) = false := by simpa using q0
      have p2 : (a0 != b0) = true := by simpa using q0
      clear hc1
      go_wp2_with fail
      go_meet
      exact ⟨by rw [e]; rfl, Below.refl _ _⟩
  case rest =>
  obtain ⟨rfl, hB2⟩ := hcut
  clear hc1 y0 y1 y2 y3 y4 y5 z0 z1 z2 z3 z4 z5
  obtain ⟨w2, hw2e⟩ : ∃ w2, w2 = wc := ⟨_, rfl⟩
  subst hw2e
  cases c1 with
  | false =>
    have HB : Hid (b = false) := HF1.out rfl
    go_wp2_with fail
    go_ret
    exact ⟨ret_bool HB.out.symm, bchain bW hB2⟩
  | true =>
    have hMM : M = M' := by rw [HM.out, HM'.out]; exact HML.out rfl
    subst hMM
    go_wp2_with fail
    go_loopw [5] (fun i wr => ∃ k : Nat, k ≤ M ∧ i = .int .i64 k ∧ Hid (∀ j, j < k → t.sys[j]? = u.sys[j]?) ∧ Below W.heap.size W wr) (fun i _ => M - (intOf i).toNat)
    case atStart => exact ⟨0, Nat.zero_le _, rfl, fun j hj => by omega, hB2⟩
    case round =>
      obtain ⟨wo, hwo⟩ : ∃ wo, wo = wr := ⟨_, rfl⟩
      subst hwo
      obtain ⟨k, hk, rfl, HS, hBr⟩ := hrel
      obtain ⟨_, y0, y1, y2, y3, y4, y5⟩ := HC.out.blw hBr
      simp only [Nat.zero_add] at y1 y2 y3 y4 y5
      rw [← HM.out] at y5
      by_cases hlt : k < M
      · have hkI : (k : Int) < (M : Int) := by omega
        obtain ⟨c, hc⟩ := someL (l := t.sys) (k := k) (by rw [← HM.out]; exact hlt)
        obtain ⟨d, hd⟩ := someL (l := u.sys) (k := k) (by rw [← HM'.out]; exact hlt)
        have hcl := HLs.out c (List.mem_of_getElem? hc)
        have HX : Hid (t.sys[k]? = some c ∧ u.sys[k]? = some d) := ⟨hc, hd⟩
        obtain ⟨g, off, fa, fc, ka1, kc1, rfl, hg, q2, qf, qk⟩ := (HT.out.blw hBr).sys.at hc
        obtain ⟨g2, off2, fa2, fc2, ka2, kc2, rfl, hg2, p2, pf, pk⟩ := (HU.out.blw hBr).sys.at hd
        have HQ : Hid (Cs2 wo g (off + k * 2) c fa fc ka1 kc1) := q2
        have HP : Hid (Cs2 wo g2 (off2 + k * 2) d fa2 fc2 ka2 kc2) := p2
        obtain ⟨fb, hfb⟩ : ∃ x, x = decide (c.1 = d.1) := ⟨_, rfl⟩
        obtain ⟨gb, hgb⟩ := bool_of (c.2 = d.2)
        have HG : Hid ((fb = true ↔ c.1 = d.1) ∧ (gb = true ↔ c.2 = d.2)) := ⟨by rw [hfb]; simp, hgb⟩
        have rF : Hid (∀ z : Cw wo, Calls Tryz.prog 15 #[.slice fa c.1.length fc, .slice fa2 d.1.length fc2] z.1 fun e w' => e = .returned (.bool fb) ∧ ∃ z' : Cw wo, w' = z'.1) := fun z => cw_call z (by rw [hfb]; exact same_any c.1 d.1 _ _ z.1 (qf.blw z.2).row (pf.blw z.2).row (by omega))
        have rK : Hid (∀ z : Cw wo, Calls Tryz.prog 27 #[.slice ka1 c.2.length kc1, .slice ka2 d.2.length kc2] z.1 fun e w' => e = .returned (.bool gb) ∧ ∃ z' : Cw wo, w' = z'.1) := fun z => cw_call z (IH c.2 d.2 gb _ _ z.1 (qk.blw z.2) (pk.blw z.2) hcl.1 hcl.2.1 hgb)
        have e0 : ∀ z : Cw wo, z.1.cell? ⟨g, off + k * 2, none⟩ = some (.slice fa c.1.length fc) := fun z => (HQ.out.blw z.2).c0
        have e1 : ∀ z : Cw wo, z.1.cell? ⟨g, off + k * 2 + 1, none⟩ = some (.slice ka1 c.2.length kc1) := fun z => (HQ.out.blw z.2).c1
        have f0 : ∀ z : Cw wo, z.1.cell? ⟨g2, off2 + k * 2, none⟩ = some (.slice fa2 d.1.length fc2) := fun z => (HP.out.blw z.2).c0
        have f1 : ∀ z : Cw wo, z.1.cell? ⟨g2, off2 + k * 2 + 1, none⟩ = some (.slice ka2 d.2.length kc2) := fun z => (HP.out.blw z.2).c1
        have y5a : ∀ z : Cw wo, z.1.cell? ⟨w.heap.size, 5, none⟩ = some (.slice (some ⟨g, off, none⟩) M sc) := fun z => by have := (HC.out.blw (bchain hBr z.2)).c5; rw [← HM.out] at this; simpa only [Nat.zero_add] using this
        have z5a : ∀ z : Cw wo, z.1.cell? ⟨w.heap.size + 1, 5, none⟩ = some (.slice (some ⟨g2, off2, none⟩) M sc') := fun z => by have := (HC'.out.blw (bchain hBr z.2)).c5; rw [← HM'.out] at this; simpa only [Nat.zero_add] using this
        clear hc hd q2 p2 qf qk pf pk hfb hgb hcl
        have hne := cw_any wo
        go_upto_region 6 with fail
        clear y0 y1 y2 y3 y4 y5
        cases fb with
        | false =>
          refine wp_region_cw (by kernel_rfl) (by kernel_rfl) ?_
          repeat (first | go_big_quiet_step (fail) | quiet_step (fail))
          first | go_big_quiet_step (exact rF.out _) | quiet_step (exact rF.out _)
          repeat (first | go_big_quiet_step (fail) | quiet_step (fail))
          refine wpQuiet_nil ?_
          rintro _ ⟨z, rfl⟩
          obtain ⟨w6, b6⟩ := z
          dsimp only
          clear rF rK hne e0 e1 f0 f1 y5a z5a
          have HB : Hid (b = false) := HF2.out (fun h => by
            have e := HX.out.1
            rw [h, HX.out.2] at e
            cases e
            have := HG.out.1.2 rfl
            cases this)
          go_wp2_with fail
          go_ret
          exact ⟨ret_bool HB.out.symm, bchain bW (bchain hBr b6)⟩
        | true =>
          cases gb with
          | false =>
            refine wp_region_cw (by kernel_rfl) (by kernel_rfl) ?_
            repeat (first | go_big_quiet_step (fail) | quiet_step (fail))
            first | go_big_quiet_step (exact rF.out _) | quiet_step (exact rF.out _)
            repeat (first | go_big_quiet_step (fail) | quiet_step (fail))
            first | go_big_quiet_step (exact rK.out _) | quiet_step (exact rK.out _)
            repeat (first | go_big_quiet_step (fail) | quiet_step (fail))
            refine wpQuiet_nil ?_
            rintro _ ⟨z, rfl⟩
            obtain ⟨w6, b6⟩ := z
            dsimp only
            clear rF rK hne e0 e1 f0 f1 y5a z5a
            have HB : Hid (b = false) := HF2.out (fun h => by
              have e := HX.out.1
              rw [h, HX.out.2] at e
              cases e
              have := HG.out.2.2 rfl
              cases this)
            go_wp2_with fail
            go_ret
            exact ⟨ret_bool HB.out.symm, bchain bW (bchain hBr b6)⟩
          | true =>
            refine wp_region_cw (by kernel_rfl) (by kernel_rfl) ?_
            repeat (first | go_big_quiet_step (fail) | quiet_step (fail))
            first | go_big_quiet_step (exact rF.out _) | quiet_step (exact rF.out _)
            repeat (first | go_big_quiet_step (fail) | quiet_step (fail))
            first | go_big_quiet_step (exact rK.out _) | quiet_step (exact rK.out _)
            repeat (first | go_big_quiet_step (fail) | quiet_step (fail))
            refine wpQuiet_nil ?_
            rintro _ ⟨z, rfl⟩
            obtain ⟨w6, b6⟩ := z
            dsimp only
            clear rF rK hne e0 e1 f0 f1 y5a z5a
            have HS' : Hid (∀ j, j < k + 1 → t.sys[j]? = u.sys[j]?) := fun j hj => by
              rcases Nat.lt_or_ge j k with h | h
              · exact HS.out j h
              · have ej : j = k := by omega
                rw [ej, HX.out.1, HX.out.2]
                exact congrArg some (Prod.ext (HG.out.1.1 (by first | rfl | trivial)) (HG.out.2.1 (by first | rfl | trivial)))
            clear HS HX HG
            go_wp2_with fail
            go_roundw
            case rel => exact ⟨k + 1, by omega, by go_num, HS', bchain hBr b6⟩
            case measure => simp [intOf]; omega
      · have hkI : ¬ (k : Int) < (M : Int) := by omega
        have HB : Hid (b = true) := HTr.out (by first | rfl | trivial) (by
          apply List.ext_getElem?
          intro j
          rcases Nat.lt_or_ge j k with h | h
          · exact HS.out j h
          · rw [List.getElem?_eq_none (by rw [← HM.out]; omega), List.getElem?_eq_none (by rw [← HM'.out]; omega)])
        clear HS
        go_wp2_with fail
        go_ret
        exact ⟨ret_bool HB.out.symm, bchain bW hBr⟩
theorem rsame_any (N : Nat) : RSmC N := by
  induction N with
  | zero => intro t u b v v' w _ _ hb; have := blk_pos t; omega
  | succ N ih => exact rsame_step N (rlists_of N ih)
end Go.Proofs.YticoacgoapalhabGreat

namespace Go.Proofs.YticoacgoapalhabGreat
open Go.RowKit
set_option linter.unusedVariables false
set_option linter.unusedSimpArgs false

theorem cap_und (c : C) (t : Tm) : capT (undA c t).1 ≤ max (capT t) 65 := by
  have hn := noT_cap
  unfold undA
  split
  · split
    · unfold undR
      split
      · have h1 := cap_pall (r := [top0]) (dimsOf c.1.val) (t, 0)
        have h2 := cap_pall (r := []) (dimsOf c.2.val) ((pall [top0] (dimsOf c.1.val) t).1, 0)
        unfold pall at h2 ⊢
        dsimp only at h1 h2
        omega
      · dsimp only; omega
    · dsimp only; omega
  · dsimp only; omega
set_option maxRecDepth 100000 in
set_option maxHeartbeats 8000000 in
theorem walk_DimsGone (t : Tm) (v0 : Value) (c : C) (V : Int) (hwV : (Lit.int .i64 V).wf = true) (d : Int) (hwd : (Lit.int .i64 d).wf = true) (w : World) (hv0 : TmIn Tt w t v0) :
    Calls Tryz.prog 3 #[v0, clV c, .int .i64 V, .int .i64 d] w fun e w' => e = .returned (.bool true) ∧ Below w.heap.size w w' := by
  obtain ⟨ra, rc, ka, kc, sa, sc, rfl, ht⟩ := hv0.form
  obtain ⟨w1, hw1⟩ : ∃ W, W = (w.alloc (.cells #[.int .i64 t.kind, .int .i64 t.n, .string t.name, .slice ra t.r.length rc, .slice ka t.kids.length kc, .slice sa t.sys.length sc] 26)).alloc (.cells #[.int .u32 (c.1.val : Int), .int .u32 (c.2.val : Int)] 29) := ⟨_, rfl⟩
  have b1 : Below w.heap.size w w1 := by rw [hw1]; exact bchain (belowA _ _) (belowA _ _)
  obtain ⟨X, hX⟩ : ∃ X, X = w.heap.size := ⟨_, rfl⟩
  have s1 : w1.heap.size = X + 2 := by rw [hw1, hX]; simp
  have n0 : Six w1 X (.int .i64 t.kind) (.int .i64 t.n) (.string t.name) (.slice ra t.r.length rc) (.slice ka t.kids.length kc) (.slice sa t.sys.length sc) := ⟨by rw [hw1, hX]; exact (Below.heap_alloc _ _ _ (by simp)).trans (heapNew w _)⟩
  have n1 : w1.heap[X + 1]? = some (.cells #[.int .u32 (c.1.val : Int), .int .u32 (c.2.val : Int)] 29 (0, 0)) := by
    rw [hw1, hX]; have := heapNew (w.alloc (.cells #[.int .i64 t.kind, .int .i64 t.n, .string t.name, .slice ra t.r.length rc, .slice ka t.kids.length kc, .slice sa t.sys.length sc] 26)) (.cells #[.int .u32 (c.1.val : Int), .int .u32 (c.2.val : Int)] 29); rwa [World.size_alloc] at this
  have HC : Hid (∀ W, Below w1.heap.size w1 W → Six W X (.int .i64 t.kind) (.int .i64 t.n) (.string t.name) (.slice ra t.r.length rc) (.slice ka t.kids.length kc) (.slice sa t.sys.length sc)) := fun W q => n0.blw q
  have HCc : Hid (∀ W, Below w1.heap.size w1 W → W.cell? ⟨X + 1, 0, none⟩ = some (.int .u32 (c.1.val : Int)) ∧ W.cell? ⟨X + 1, 1, none⟩ = some (.int .u32 (c.2.val : Int))) := fun W q => by
    have h := (q.block (X + 1) (by omega)).trans n1
    exact ⟨by simp [World.cell?, h], by simp [World.cell?, h]⟩
  have HT : Hid (∀ W, Below w1.heap.size w1 W → TmTop Tt W t ra rc ka kc sa sc) := fun W q => (ht.blw b1).blw q
  have HB : Hid (∀ W, Below w1.heap.size w1 W → Below X w W) := fun W q => by rw [hX]; exact bchain b1 q
  have HXx : Hid (X = w.heap.size) := hX
  have HW : Hid (_ = _) := hw1
  have hc1 := c.1.isLt
  have hc2 := c.2.isLt
  rw [← hX]
  clear hw1 hX n0 n1 ht hv0 b1 s1
  show Calls Tryz.prog 3 #[.agg #[.int .i64 t.kind, .int .i64 t.n, .string t.name, .slice ra t.r.length rc, .slice ka t.kids.length kc, .slice sa t.sys.length sc], .agg #[.int .u32 (c.1.val : Int), .int .u32 (c.2.val : Int)], .int .i64 V, .int .i64 d] w _
  go_enter Tryz.func3, Tryz.ntmps3
  go_upto_region 1 with fail
  rw [← HW.out]
  simp only [← HXx.out]
  clear HW
  generalize (Value.agg #[Value.int .u32 (c.1.val : Int), Value.int .u32 (c.2.val : Int)]) = cv
  have cw := works13_any w1
  go_wp2_with fail
  refine cw.mono ?_
  rintro e w2 ⟨rfl, b2⟩
  clear cw
  have cg := great13_any t _ w2 (HT.out w2 b2).value
  obtain ⟨y0, y1, y2, y3, y4, y5, _⟩ := (HC.out w2 b2).cells
  go_wp2_with fail
  refine cg.mono ?_
  rintro e w3 ⟨rfl, b3⟩
  clear cg y0 y1 y2 y3 y4 y5
  have b13 : Below w1.heap.size w1 w3 := b2.trans (b3.mono b2.size)
  clear b3
  by_cases hg : 200 < blk t
  · have e1 : decide (200 < blk t) = true := decide_eq_true hg
    rw [e1]
    have hF := HB.out w3 b13
    go_wp2_with fail
    go_ret
    exact ⟨rfl, hF⟩
  have e1 : decide (200 < blk t) = false := decide_eq_false hg
  rw [e1]
  have cf := rightT_any V d t _ w3 (HT.out w3 b13).value (by omega)
  obtain ⟨y0, y1, y2, y3, y4, y5, _⟩ := (HC.out w3 b13).cells
  obtain ⟨f, hf⟩ : ∃ f, f = rightN V d t := ⟨_, rfl⟩
  have Hf : Hid (f = rightN V d t) := hf
  rw [← hf] at cf
  clear hf
  go_wp2_with fail
  refine cf.mono ?_
  rintro e w4 ⟨rfl, b4⟩
  clear cf y0 y1 y2 y3 y4 y5
  have b14 : Below w1.heap.size w1 w4 := b13.trans (b4.mono b13.size)
  clear b4
  by_cases hz : f = 0
  rotate_left
  · have hz1 : ((f : Int) == 0) = false := by simp; omega
    have hF := HB.out w4 b14
    go_wp2_with fail
    go_ret
    exact ⟨rfl, hF⟩
  subst hz
  have cr := cright_any c w4
  obtain ⟨y0, y1⟩ := HCc.out w4 b14
  go_wp2_with fail
  refine cr.mono ?_
  rintro e w5 ⟨rfl, g5⟩
  clear cr y0 y1
  have b15 : Below w1.heap.size w1 w5 := b14.trans (g5.below.mono b14.size)
  clear g5
  cases hr : rightC c
  · have hF := HB.out w5 b15
    go_wp2_with fail
    go_ret
    exact ⟨rfl, hF⟩
  have cl := clash_any c w5
  obtain ⟨y0, y1⟩ := HCc.out w5 b15
  go_wp2_with fail
  refine cl.mono ?_
  rintro e w6 ⟨rfl, g6⟩
  clear cl y0 y1
  have b16 : Below w1.heap.size w1 w6 := b15.trans (g6.below.mono b15.size)
  clear g6
  cases hl : clashC c
  rotate_left
  · have hF := HB.out w6 b16
    go_wp2_with fail
    go_ret
    exact ⟨rfl, hF⟩
  have hcp : capT t ≤ 40000 := by have := (cap_ge t).2; omega
  have hrA : rightA [c] = true := rightA_one hr (by unfold okC; rw [hl]; rfl)
  have cu := under_any t _ w6 (HT.out w6 b16).value (by omega) hcp c
  obtain ⟨g1, g2, g3, g4⟩ := gone_all hrA Hf.out.symm
  have hcA := cap_und c t
  have hcA2 : capT (undA c t).1 ≤ 13000 := by have := (cap_ge t).2; omega
  obtain ⟨Q, hQ⟩ : ∃ Q, Q = undA c t := ⟨_, rfl⟩
  rw [← hQ] at cu g1 g2 g3 g4 hcA2
  obtain ⟨A, er⟩ := Q
  dsimp only at cu g1 g2 g3 g4 hcA2
  subst g1
  have hbA := (cap_ge A).1
  have HbA : Hid (blk A ≤ 13000 ∧ capT A ≤ 13000) := ⟨by omega, hcA2⟩
  have hdl := dm_lt24 A 0
  obtain ⟨DQ, hDQ⟩ : ∃ q, q = dmT A 0 := ⟨_, rfl⟩
  have HDQ : Hid (DQ = dmT A 0) := hDQ
  rw [← hDQ] at hdl
  have hand : DQ &&& (c.1.val ||| c.2.val) = 0 := by
    refine Nat.eq_of_testBit_eq (fun j => ?_)
    rw [Nat.testBit_and, Nat.testBit_or, Nat.zero_testBit]
    cases hj : DQ.testBit j
    · rfl
    · rw [hDQ, dm_bit _ A (Nat.le_refl _) 0 j] at hj
      obtain ⟨k1, k2⟩ := g4 j hj
      rw [k1, k2]; rfl
  have hor : bits .or .u32 (c.1.val : Int) (c.2.val : Int) = ((c.1.val ||| c.2.val : Nat) : Int) := bits_or32 c.1.val c.2.val hc1 hc2
  have hband : bits .and .u32 (DQ : Int) ((c.1.val ||| c.2.val : Nat) : Int) = 0 := by
    have := bits_and32 DQ (c.1.val ||| c.2.val) (by omega) (Nat.or_lt_two_pow (n := 32) hc1 hc2)
    rw [this, hand]; rfl
  have Hg2 : Hid (rightN V d A = 0) := g2
  have Hg3 : Hid (undA c A = (A, 0)) := g3
  obtain ⟨y0, y1, y2, y3, y4, y5, _⟩ := (HC.out w6 b16).cells
  obtain ⟨z0, z1⟩ := HCc.out w6 b16
  clear hQ hrA g2 g3 g4 hcA hcA2 hbA hDQ hand
  go_wp2_with fail
  refine cu.mono ?_
  rintro e w7 ⟨v7, rfl, hv7, b7⟩
  clear cu y0 y1 y2 y3 y4 y5 z0 z1
  have b17 : Below w1.heap.size w1 w7 := b16.trans (b7.mono b16.size)
  obtain ⟨ra7, rc7, ka7, kc7, sa7, sc7, rfl, ht7⟩ := hv7.form
  obtain ⟨w8, hw8⟩ : ∃ W, W = w7.alloc (.cells #[.int .i64 A.kind, .int .i64 A.n, .string A.name, .slice ra7 A.r.length rc7, .slice ka7 A.kids.length kc7, .slice sa7 A.sys.length sc7] 26) := ⟨_, rfl⟩
  obtain ⟨S, hS⟩ : ∃ V, V = w7.heap.size := ⟨_, rfl⟩
  have b8 : Below w7.heap.size w7 w8 := by rw [hw8]; exact belowA _ _
  have n8 : Six w8 S (.int .i64 A.kind) (.int .i64 A.n) (.string A.name) (.slice ra7 A.r.length rc7) (.slice ka7 A.kids.length kc7) (.slice sa7 A.sys.length sc7) := ⟨by rw [hw8, hS]; exact heapNew _ _⟩
  have b18 : Below w1.heap.size w1 w8 := b17.trans (b8.mono b17.size)
  have HA : Hid (∀ W, Below w8.heap.size w8 W → Six W S (.int .i64 A.kind) (.int .i64 A.n) (.string A.name) (.slice ra7 A.r.length rc7) (.slice ka7 A.kids.length kc7) (.slice sa7 A.sys.length sc7) ∧ TmIn Tt W A (.agg #[.int .i64 A.kind, .int .i64 A.n, .string A.name, .slice ra7 A.r.length rc7, .slice ka7 A.kids.length kc7, .slice sa7 A.sys.length sc7])) := fun W q => ⟨n8.blw q, ((ht7.blw b8).blw q).value⟩
  have H8 : Hid (_ = _) := hw8
  have HS : Hid (S = w7.heap.size) := hS
  clear hw8 hS n8 ht7 hv7 b7 b8 b17
  go_upto_region 6 with fail
  simp only [← HS.out]
  rw [← H8.out]
  clear H8
  have cv := under_any A _ w8 (HA.out w8 (Below.refl _ _)).2 (by have := HbA.out; omega) (by have := HbA.out; omega) c
  rw [Hg3.out] at cv
  dsimp only at cv
  obtain ⟨y0, y1, y2, y3, y4, y5, _⟩ := (HA.out w8 (Below.refl _ _)).1.cells
  obtain ⟨z0, z1⟩ := HCc.out w8 b18
  go_wp2_with fail
  refine cv.mono ?_
  rintro e w9 ⟨v9, rfl, hv9, b9⟩
  clear cv y0 y1 y2 y3 y4 y5 z0 z1
  obtain ⟨ra9, rc9, ka9, kc9, sa9, sc9, rfl, ht9⟩ := hv9.form
  obtain ⟨w10, hw10⟩ : ∃ W, W = w9.alloc (.cells #[.int .i64 A.kind, .int .i64 A.n, .string A.name, .slice ra9 A.r.length rc9, .slice ka9 A.kids.length kc9, .slice sa9 A.sys.length sc9] 26) := ⟨_, rfl⟩
  obtain ⟨R, hR⟩ : ∃ V, V = w9.heap.size := ⟨_, rfl⟩
  have b10 : Below w9.heap.size w9 w10 := by rw [hw10]; exact belowA _ _
  have n10 : Six w10 R (.int .i64 A.kind) (.int .i64 A.n) (.string A.name) (.slice ra9 A.r.length rc9) (.slice ka9 A.kids.length kc9) (.slice sa9 A.sys.length sc9) := ⟨by rw [hw10, hR]; exact heapNew _ _⟩
  have b810 : Below w8.heap.size w8 w10 := bchain b9 b10
  have b1x : Below w1.heap.size w1 w10 := b18.trans (b810.mono b18.size)
  have H10 : Hid (_ = _) := hw10
  have HR : Hid (R = w9.heap.size) := hR
  have TB' : TmIn Tt w10 A (.agg #[.int .i64 A.kind, .int .i64 A.n, .string A.name, .slice ra9 A.r.length rc9, .slice ka9 A.kids.length kc9, .slice sa9 A.sys.length sc9]) := (ht9.blw b10).value
  clear hw10 hR ht9 hv9 b9 b10
  go_upto_region 9 with fail
  simp only [← HR.out]
  rw [← H10.out]
  clear H10
  have hne := cw_any w10
  have gA := fun q : Cw w10 => HA.out q.1 (bchain b810 q.2)
  have gC := fun q : Cw w10 => HCc.out q.1 (b1x.trans (q.2.mono b1x.size))
  have a0 : ∀ q : Cw w10, q.1.cell? ⟨S, 0, none⟩ = some (.int .i64 A.kind) := fun q => (gA q).1.cells.1
  have a1 : ∀ q : Cw w10, q.1.cell? ⟨S, 1, none⟩ = some (.int .i64 A.n) := fun q => (gA q).1.cells.2.1
  have a2 : ∀ q : Cw w10, q.1.cell? ⟨S, 2, none⟩ = some (.string A.name) := fun q => (gA q).1.cells.2.2.1
  have a3 : ∀ q : Cw w10, q.1.cell? ⟨S, 3, none⟩ = some (.slice ra7 A.r.length rc7) := fun q => (gA q).1.cells.2.2.2.1
  have a4 : ∀ q : Cw w10, q.1.cell? ⟨S, 4, none⟩ = some (.slice ka7 A.kids.length kc7) := fun q => (gA q).1.cells.2.2.2.2.1
  have a5 : ∀ q : Cw w10, q.1.cell? ⟨S, 5, none⟩ = some (.slice sa7 A.sys.length sc7) := fun q => (gA q).1.cells.2.2.2.2.2.1
  have e0 : ∀ q : Cw w10, q.1.cell? ⟨R, 0, none⟩ = some (.int .i64 A.kind) := fun q => (n10.blw q.2).cells.1
  have e1 : ∀ q : Cw w10, q.1.cell? ⟨R, 1, none⟩ = some (.int .i64 A.n) := fun q => (n10.blw q.2).cells.2.1
  have e2 : ∀ q : Cw w10, q.1.cell? ⟨R, 2, none⟩ = some (.string A.name) := fun q => (n10.blw q.2).cells.2.2.1
  have e3 : ∀ q : Cw w10, q.1.cell? ⟨R, 3, none⟩ = some (.slice ra9 A.r.length rc9) := fun q => (n10.blw q.2).cells.2.2.2.1
  have e4 : ∀ q : Cw w10, q.1.cell? ⟨R, 4, none⟩ = some (.slice ka9 A.kids.length kc9) := fun q => (n10.blw q.2).cells.2.2.2.2.1
  have e5 : ∀ q : Cw w10, q.1.cell? ⟨R, 5, none⟩ = some (.slice sa9 A.sys.length sc9) := fun q => (n10.blw q.2).cells.2.2.2.2.2.1
  have f0 : ∀ q : Cw w10, q.1.cell? ⟨X + 1, 0, none⟩ = some (.int .u32 (c.1.val : Int)) := fun q => (gC q).1
  have f1 : ∀ q : Cw w10, q.1.cell? ⟨X + 1, 1, none⟩ = some (.int .u32 (c.2.val : Int)) := fun q => (gC q).2
  have r1 : Hid (∀ q : Cw w10, Calls Tryz.prog 12 #[.agg #[.int .i64 A.kind, .int .i64 A.n, .string A.name, .slice ra7 A.r.length rc7, .slice ka7 A.kids.length kc7, .slice sa7 A.sys.length sc7]] q.1 fun e w' => e = .returned (.int .u32 (DQ : Int)) ∧ ∃ q' : Cw w10, w' = q'.1) := fun q => cw_call q (by rw [HDQ.out]; exact dimsT_any A _ q.1 (gA q).2 (by have := HbA.out; omega))
  have r2 : Hid (∀ q : Cw w10, Calls Tryz.prog 7 #[.agg #[.int .i64 A.kind, .int .i64 A.n, .string A.name, .slice ra7 A.r.length rc7, .slice ka7 A.kids.length kc7, .slice sa7 A.sys.length sc7], .int .i64 V, .int .i64 d] q.1 fun e w' => e = .returned (.int .i64 0) ∧ ∃ q' : Cw w10, w' = q'.1) := fun q => cw_call q (by have := rightT_any V d A _ q.1 (gA q).2 (by have := HbA.out; omega); rw [Hg2.out] at this; exact this)
  have r3 : Hid (∀ q : Cw w10, Calls Tryz.prog 11 #[.agg #[.int .i64 A.kind, .int .i64 A.n, .string A.name, .slice ra7 A.r.length rc7, .slice ka7 A.kids.length kc7, .slice sa7 A.sys.length sc7], .agg #[.int .i64 A.kind, .int .i64 A.n, .string A.name, .slice ra9 A.r.length rc9, .slice ka9 A.kids.length kc9, .slice sa9 A.sys.length sc9]] q.1 fun e w' => e = .returned (.bool true) ∧ ∃ q' : Cw w10, w' = q'.1) := fun q => cw_call q (rsame_any _ A A true _ _ q.1 (gA q).2 (TB'.blw q.2) (Nat.le_refl _) (by have := HbA.out; omega) (by simp))
  clear gA gC
  refine wp_region_cw (by kernel_rfl) (by kernel_rfl) ?_
  repeat (first | go_big_quiet_step (fail) | quiet_step (fail))
  first | go_big_quiet_step (exact r1.out _) | quiet_step (exact r1.out _)
  repeat (first | go_big_quiet_step (fail) | quiet_step (fail))
  first | go_big_quiet_step (exact r2.out _) | quiet_step (exact r2.out _)
  repeat (first | go_big_quiet_step (fail) | quiet_step (fail))
  first | go_big_quiet_step (exact r3.out _) | quiet_step (exact r3.out _)
  repeat (first | go_big_quiet_step (fail) | quiet_step (fail))
  refine wpQuiet_nil ?_
  rintro _ ⟨x, rfl⟩
  obtain ⟨w11, b11⟩ := x
  dsimp only
  clear hne a0 a1 a2 a3 a4 a5 e0 e1 e2 e3 e4 e5 f0 f1 r1 r2 r3
  have hF := HB.out w11 (b1x.trans (b11.mono b1x.size))
  go_wp2_with fail
  go_ret
  exact ⟨rfl, hF⟩
section
open Go.ChangeShapes Go.WideShapes Go.ChangeAt

variable {H : Type} {enc : TypeId × Value → H}
set_option maxRecDepth 100000 in
theorem open_clause {W : World} {base : Nat} {v : Value} {d : DataW H} {p : List MemPlace} (hv : Value.okWide Tryz.prog W .any base 29 v) (h : DataW.Trod enc Tryz.prog W 0 (fun _ => true) true 29 v d p) : ∃ c : C, v = clV c := by
  obtain ⟨v0, v1, y0, y1, n, rfl, _, _, h0, h1⟩ := Go.Joins.open_agg2 Tryz.underlying29 (by kernel_rfl) Tryz.cellsC hv h
  obtain ⟨a, e0, _, w0⟩ := DataW.trod_int Tryz.underlying27 h0
  obtain ⟨b, e1, _, w1⟩ := DataW.trod_int Tryz.underlying27 h1
  obtain ⟨x, rfl⟩ := bounds_wf w0
  obtain ⟨y, rfl⟩ := bounds_wf w1
  simp at e0 e1
  subst e0 e1
  exact ⟨(x, y), rfl⟩
end
end Go.Proofs.YticoacgoapalhabGreat

