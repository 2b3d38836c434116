/- What may be may be in more, and in no fewer than it uses. -/
import Derived.Test.YtpmmbfngogpinaaGreatYRight
namespace Go.Proofs.YtpmmbfngogpinaaGreat
open Go.RowKit
set_option linter.unusedVariables false
set_option linter.unusedSimpArgs false

theorem node_iff (o : Bool) (V : Int) (D : Nat) (t : Tm) (bv bd : Nat) : t.node o V D bv bd = true ↔
    (o || decide (bd + D ≤ 24)) = true ∧ (t.kids.length : Int) = kidsK t.kind ∧ numB o V bv t.kind t.n = true ∧ nameB t.kind t.name = true ∧ rowB o (D + bd) t.kind t.r = true ∧ ∀ b ∈ t.sys, brB o (D + bd) t.kind (b.1, b.2.length) = true := by
  unfold Tm.node nodeB
  simp only [Bool.and_eq_true, decide_eq_true_eq, List.all_map, List.all_eq_true, Function.comp_def]
  constructor
  · rintro ⟨⟨⟨⟨⟨h1, h2⟩, h3⟩, h4⟩, h5⟩, h6⟩; exact ⟨h1, h2, h3, h4, h5, h6⟩
  · rintro ⟨h1, h2, h3, h4, h5, h6⟩; exact ⟨⟨⟨⟨⟨h1, h2⟩, h3⟩, h4⟩, h5⟩, h6⟩
theorem ok_iff (o : Bool) (V : Int) (D : Nat) (t : Tm) (bv bd : Nat) : okT o V D t bv bd = true ↔ t.node o V D bv bd = true ∧ ∀ p ∈ t.pts, okT o V D p.1 (bv + p.2.1) (bd + p.2.2) = true := by
  rw [ok_eq, Bool.and_eq_true, List.all_eq_true]
theorem reach_open {o : Bool} {e e' : Nat} {r : List C} (h : reachB o e r = true) : reachB true e' r = true := by unfold reachB; simp
theorem row_open {o : Bool} {e e' : Nat} {k : Int} {r : List C} (h : rowB o e k r = true) : rowB true e' k r = true := by
  unfold rowB at h ⊢
  split
  · rename_i h1; rw [if_pos h1, Bool.and_eq_true] at h; rw [h.1, reach_open h.2]; rfl
  · rename_i h1; rw [if_neg h1] at h
    split
    · rename_i h2; rw [if_pos h2, Bool.and_eq_true] at h; rw [h.1, reach_open h.2]; rfl
    · rename_i h2; rw [if_neg h2] at h; exact h
theorem br_open {o : Bool} {e e' : Nat} {k : Int} {b : List C × Nat} (h : brB o e k b = true) : brB true e' k b = true := by
  unfold brB at h ⊢
  simp only [Bool.and_eq_true] at h ⊢
  exact ⟨h.1, reach_open h.2⟩
theorem num_open {o : Bool} {V V' : Int} {bv bv' : Nat} {k n : Int} (h : numB o V bv k n = true) : numB true V' bv' k n = true := by
  unfold numB at h ⊢
  split
  · rename_i h1; rw [if_pos h1, Bool.and_eq_true] at h; rw [h.1]; rfl
  · rename_i h1; rw [if_neg h1] at h; exact h
/-- What may be is formed. -/
theorem ok_formed (V V' : Int) (D D' : Nat) (o : Bool) (N : Nat) : ∀ t : Tm, blk t ≤ N → ∀ bv bd bv' bd', okT o V D t bv bd = true → okT true V' D' t bv' bd' = true := by
  induction N with
  | zero => intro t h; have := blk_pos t; omega
  | succ N ih =>
    intro t h bv bd bv' bd' hok
    rw [ok_iff] at hok ⊢
    obtain ⟨hn, hp⟩ := hok
    rw [node_iff] at hn ⊢
    obtain ⟨_, h2, h3, h4, h5, h6⟩ := hn
    exact ⟨⟨rfl, h2, num_open h3, h4, row_open h5, fun b hb => br_open (h6 b hb)⟩, fun p hp' => ih p.1 (by have := blk_pts hp'; omega) _ _ _ _ (hp p hp')⟩
theorem num_more {V V' : Int} (hV : V ≤ V') {bv : Nat} {k n : Int} (h : numB false V bv k n = true) : numB false V' bv k n = true := by
  unfold numB at h ⊢
  split
  · rename_i h1
    rw [if_pos h1] at h
    simp only [Bool.false_or, Bool.and_eq_true, decide_eq_true_eq] at h ⊢
    exact ⟨h.1, by omega⟩
  · rename_i h1; rw [if_neg h1] at h; exact h
/-- What may be may be in more variables. -/
theorem ok_vars {V V' : Int} (hV : V ≤ V') (D N : Nat) : ∀ t : Tm, blk t ≤ N → ∀ bv bd, okT false V D t bv bd = true → okT false V' D t bv bd = true := by
  induction N with
  | zero => intro t h; have := blk_pos t; omega
  | succ N ih =>
    intro t h bv bd hok
    rw [ok_iff] at hok ⊢
    obtain ⟨hn, hp⟩ := hok
    rw [node_iff] at hn ⊢
    obtain ⟨h1, h2, h3, h4, h5, h6⟩ := hn
    exact ⟨⟨h1, h2, num_more hV h3, h4, h5, h6⟩, fun p hp' => ih p.1 (by have := blk_pts hp'; omega) _ _ (hp p hp')⟩
theorem num_us {V n : Int} (hn : V ≤ n) {bv : Nat} {k m : Int} (h : numB false V bv k m = true) : (decide (k = 1) && decide (0 ≤ n) && decide (m = n + bv)) = false := by
  unfold numB at h
  by_cases h1 : k = 1
  · rw [if_pos h1] at h
    simp only [Bool.false_or, Bool.and_eq_true, decide_eq_true_eq] at h
    rw [decide_eq_false (show ¬ m = n + bv by omega)]; simp
  · rw [decide_eq_false h1]; rfl
/-- What may be uses no variable beyond. -/
theorem ok_us {V n : Int} (hn : V ≤ n) (D N : Nat) : ∀ t : Tm, blk t ≤ N → ∀ bv bd, okT false V D t bv bd = true → usT n t bv = false := by
  induction N with
  | zero => intro t h; have := blk_pos t; omega
  | succ N ih =>
    intro t h bv bd hok
    rw [ok_iff] at hok
    obtain ⟨hd, hp⟩ := hok
    rw [node_iff] at hd
    rw [us_eq, num_us hn hd.2.2.1, Bool.false_or, List.any_eq_false]
    intro p hp'
    rw [ih p.1 (by have := blk_pts hp'; omega) _ _ (hp p hp')]; simp
theorem reach_bit {e : Nat} {r : List C} (h : reachB false e r = true) {j : Nat} (hj : e ≤ j) : (dimsN r).testBit j = false := by
  unfold reachB at h
  simp only [Bool.false_or, decide_eq_true_eq] at h
  obtain ⟨i, rfl⟩ : ∃ i, j = e + i := ⟨j - e, by omega⟩
  rw [← Nat.testBit_shiftRight, Nat.shiftRight_eq_div_pow, h]; simp
theorem row_bit {e : Nat} {k : Int} {r : List C} (h : rowB false e k r = true) {j : Nat} (hj : e ≤ j) : (dimsN r).testBit j = false := by
  unfold rowB at h
  split at h
  · rw [Bool.and_eq_true] at h; exact reach_bit h.2 hj
  · split at h
    · rw [Bool.and_eq_true] at h; exact reach_bit h.2 hj
    · have : r = [] := List.eq_nil_of_length_eq_zero (by simpa using h)
      rw [this]; simp [dimsN]
/-- What may be has no dimension beyond. -/
theorem ok_hs (V : Int) (D N : Nat) : ∀ t : Tm, blk t ≤ N → ∀ bv bd j, D + bd ≤ j → okT false V D t bv bd = true → hsT t j = false := by
  induction N with
  | zero => intro t h; have := blk_pos t; omega
  | succ N ih =>
    intro t h bv bd j hj hok
    rw [ok_iff] at hok
    obtain ⟨hd, hp⟩ := hok
    rw [node_iff] at hd
    obtain ⟨_, _, _, _, h5, h6⟩ := hd
    rw [hs_eq, row_bit h5 hj, Bool.false_or, Bool.or_eq_false_iff, List.any_eq_false, List.any_eq_false]
    refine ⟨fun b hb => ?_, fun p hp' => ?_⟩
    · have := h6 b hb
      unfold brB at this
      simp only [Bool.and_eq_true] at this
      rw [reach_bit this.2 hj]; simp
    · rw [ih p.1 (by have := blk_pts hp'; omega) _ _ _ (by omega) (hp p hp')]; simp
/-- What may be may be in one variable fewer just if it does not use that. -/
theorem ok_less {V : Int} (hV : 1 ≤ V) (D N : Nat) : ∀ t : Tm, blk t ≤ N → ∀ bv bd, okT false V D t bv bd = true → okT false (V - 1) D t bv bd = !usT (V - 1) t bv := by
  induction N with
  | zero => intro t h; have := blk_pos t; omega
  | succ N ih =>
    intro t h bv bd hok
    rw [ok_iff] at hok
    obtain ⟨hd, hp⟩ := hok
    have hps : ∀ p ∈ t.pts, okT false (V - 1) D p.1 (bv + p.2.1) (bd + p.2.2) = !usT (V - 1) p.1 (bv + p.2.1) := fun p hp' => ih p.1 (by have := blk_pts hp'; omega) _ _ (hp p hp')
    rw [us_eq]
    rw [node_iff] at hd
    obtain ⟨h1, h2, h3, h4, h5, h6⟩ := hd
    have hnum : numB false (V - 1) bv t.kind t.n = !(decide (t.kind = 1) && decide (0 ≤ V - 1) && decide (t.n = V - 1 + bv)) := by
      unfold numB at h3 ⊢
      by_cases hk : t.kind = 1
      · rw [if_pos hk] at h3 ⊢
        simp only [Bool.false_or, Bool.and_eq_true, decide_eq_true_eq] at h3
        rw [decide_eq_true h3.1, decide_eq_true hk, decide_eq_true (show 0 ≤ V - 1 by omega)]
        by_cases he : t.n = V - 1 + bv
        · rw [decide_eq_true he, decide_eq_false (by omega)]; rfl
        · rw [decide_eq_false he, decide_eq_true (by omega)]; rfl
      · rw [if_neg hk] at h3 ⊢
        rw [h3, decide_eq_false hk]; rfl
    rw [Bool.eq_iff_iff, ok_iff, node_iff, hnum]
    simp only [Bool.not_eq_true', Bool.or_eq_false_iff, List.any_eq_false]
    constructor
    · rintro ⟨⟨_, _, ha, _⟩, hb⟩
      refine ⟨ha, fun p hp' => ?_⟩
      have := hb p hp'
      rw [hps p hp'] at this
      simpa using this
    · rintro ⟨ha, hb⟩
      refine ⟨⟨h1, h2, ha, h4, h5, h6⟩, fun p hp' => ?_⟩
      rw [hps p hp']
      have := hb p hp'
      simpa using this
/-! ### of the whole -/
theorem right_zero {V d : Int} {t : Tm} : rightN V d t = 0 ↔ (0 ≤ V ∧ 0 ≤ d ∧ d ≤ 24) ∧ depthT t ≤ 200 ∧ okT false V d.toNat t 0 0 = true := by
  unfold rightN wrongN
  by_cases h : V < 0 ∨ d < 0 ∨ 24 < d
  · rw [if_pos h]; constructor
    · intro h; cases h
    · rintro ⟨h1, _⟩; omega
  · rw [if_neg h]
    by_cases h2 : 200 < depthT t
    · rw [if_pos h2]; constructor
      · intro h; cases h
      · rintro ⟨_, h1, _⟩; omega
    · rw [if_neg h2]
      by_cases h3 : okT false V d.toNat t 0 0 = true
      · rw [if_pos h3]; exact ⟨fun _ => ⟨by omega, by omega, h3⟩, fun _ => rfl⟩
      · rw [if_neg h3]; exact ⟨fun h => (by cases h), fun h => absurd h.2.2 h3⟩
theorem more_formed {V d : Int} {t : Tm} (h : rightN V d t = 0) : wrongN true 0 0 t = 0 := by
  obtain ⟨_, h2, h3⟩ := right_zero.1 h
  unfold wrongN
  rw [if_neg (by omega), if_pos (ok_formed V 0 d.toNat 0 false _ t (Nat.le_refl _) _ _ _ _ h3)]
theorem more_vars {V V' d : Int} {t : Tm} (h : rightN V d t = 0) (hV : V ≤ V') : rightN V' d t = 0 := by
  obtain ⟨h1, h2, h3⟩ := right_zero.1 h
  exact right_zero.2 ⟨by omega, h2, ok_vars hV _ _ t (Nat.le_refl _) _ _ h3⟩
theorem more_us {V n d : Int} {t : Tm} (h : rightN V d t = 0) (hn : V ≤ n) : usT n t 0 = false :=
  ok_us hn _ _ t (Nat.le_refl _) _ _ (right_zero.1 h).2.2
theorem more_dim {V d : Int} {t : Tm} (h : rightN V d t = 0) {i : Nat} (hi : d ≤ i) : (dmT t 0).testBit i = false := by
  rw [dm_bit _ t (Nat.le_refl _)]
  exact ok_hs V _ _ t (Nat.le_refl _) 0 0 _ (by have := (right_zero.1 h).1; omega) (right_zero.1 h).2.2
theorem more_less {V d : Int} {t : Tm} (h : rightN V d t = 0) (hV : 1 ≤ V) : rightN (V - 1) d t = if usT (V - 1) t 0 = true then 100 else 0 := by
  obtain ⟨h1, h2, h3⟩ := right_zero.1 h
  unfold rightN wrongN
  rw [if_neg (by omega), if_neg (by omega), ok_less hV _ _ t (Nat.le_refl _) _ _ h3]
  cases usT (V - 1) t 0 <;> rfl
end Go.Proofs.YtpmmbfngogpinaaGreat
