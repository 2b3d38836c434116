/- What may be may be in more, and in no fewer than it uses. Lifts: what is kept of a term. Lifts: a whole term; what gives up is caught. Vars, Dims, Both. Lifts add up. What is lifted is formed. What was lifted from a place on by 1 does not use that, and may be in one more. What was lifted in its dimensions from a place on by 1. A row that was lifted by 1 from a dimension on, and the dimension dropped again: the row itself. Where a clause is so: the faces of a term's branches are those that Restrict tells. Where a clause is so once more: nothing is refused, it may be as before, none of the clause's dimensions is left, and once more changes nothing. Formulas in the places of dimensions: Take. A dimension's own formula in its place, and what was lifted with the dimension taken out again: terms. The chapter's examples. How great a term is: Bulk of the document's answer. The chapter's examples, of formulas in the places of dimensions; how great is too great. How great is too great; whether a branch's face is never. Which terms are the same, by the document. Which terms are the same, by the document: the node. How a term that came in lies in memory. A dimension's own formula in its place changes nothing; what was lifted is as it was, when that is taken out. -/
import Derived.Test.YtjimednocmdpnaaGreatYRight
import Derived.Test.YtjimednocmdpnaaGreatYLfM
import Derived.Defers
import Derived.Recover
import Derived.RegionTactic
import Derived.Test.YtjimednocmdpnaaGreatYLfC
import Derived.Test.YtjimednocmdpnaaGreatYDmD
import Derived.Test.YtjimednocmdpnaaGreatYDmV
import Derived.Deep.DeepCutAuto
import Derived.Test.YtjimednocmdpnaaGreatYDmF
import Derived.Deep.RegionHeld3
import Derived.Test.YtjimednocmdpnaaGreatYSame
import Derived.Test.YtjimednocmdpnaaGreatYUses
import Derived.Test.YtjimednocmdpnaaGreatYMeas
import Derived.Test.YtjimednocmdpnaaGreatYRCopyM
import Derived.Test.YtjimednocmdpnaaGreatYEq
import Derived.ProofKit
import Derived.OpenShut
import Derived.Lib.SmallJoins
import Derived.Deep.Slices
import Derived.Deep.Strs
import Derived.Test.YtjimednocmdpnaaGreatYEqA
import Derived.Deep.SlicePairs
import Derived.Test.YtjimednocmdpnaaGreatYLfD
namespace Go.Proofs.YtjimednocmdpnaaGreat
open Go.RowKit
set_option linter.unusedVariables false
set_option linter.unusedSimpArgs false

theorem node_iff (o : Bool) (V : Int) (D : Nat) (t : Tm) (bv bd : Nat) : t.node o V D bv bd = true ↔
    (o || decide (bd + D ≤ 24)) = true ∧ (t.kids.length : Int) = kidsK t.kind ∧ numB o V bv t.kind t.n = true ∧ nameB t.kind t.name = true ∧ rowB o (D + bd) t.kind t.r = true ∧ ∀ b ∈ t.sys, brB o (D + bd) t.kind (b.1, b.2.length) = true := by
  unfold Tm.node nodeB
  simp only [Bool.and_eq_true, decide_eq_true_eq, List.all_map, List.all_eq_true, Function.comp_def]
  constructor
  · rintro ⟨⟨⟨⟨⟨h1, h2⟩, h3⟩, h4⟩, h5⟩, h6⟩; exact ⟨h1, h2, h3, h4, h5, h6⟩
  · rintro ⟨h1, h2, h3, h4, h5, h6⟩; exact ⟨⟨⟨⟨⟨h1, h2⟩, h3⟩, h4⟩, h5⟩, h6⟩
theorem ok_iff (o : Bool) (V : Int) (D : Nat) (t : Tm) (bv bd : Nat) : okT o V D t bv bd = true ↔ t.node o V D bv bd = true ∧ ∀ p ∈ t.pts, okT o V D p.1 (bv + p.2.1) (bd + p.2.2) = true := by
  rw [ok_eq, Bool.and_eq_true, List.all_eq_true]
theorem reach_open {o : Bool} {e e' : Nat} {r : List C} (h : reachB o e r = true) : reachB true e' r = true := by unfold reachB; simp
theorem row_open {o : Bool} {e e' : Nat} {k : Int} {r : List C} (h : rowB o e k r = true) : rowB true e' k r = true := by
  unfold rowB at h ⊢
  split
  · rename_i h1; rw [if_pos h1, Bool.and_eq_true] at h; rw [h.1, reach_open h.2]; rfl
  · rename_i h1; rw [if_neg h1] at h
    split
    · rename_i h2; rw [if_pos h2, Bool.and_eq_true] at h; rw [h.1, reach_open h.2]; rfl
    · rename_i h2; rw [if_neg h2] at h; exact h
theorem br_open {o : Bool} {e e' : Nat} {k : Int} {b : List C × Nat} (h : brB o e k b = true) : brB true e' k b = true := by
  unfold brB at h ⊢
  simp only [Bool.and_eq_true] at h ⊢
  exact ⟨h.1, reach_open h.2⟩
theorem num_open {o : Bool} {V V' : Int} {bv bv' : Nat} {k n : Int} (h : numB o V bv k n = true) : numB true V' bv' k n = true := by
  unfold numB at h ⊢
  split
  · rename_i h1; rw [if_pos h1, Bool.and_eq_true] at h; rw [h.1]; rfl
  · rename_i h1; rw [if_neg h1] at h; exact h
/-- What may be is formed. -/
theorem ok_formed (V V' : Int) (D D' : Nat) (o : Bool) (N : Nat) : ∀ t : Tm, blk t ≤ N → ∀ bv bd bv' bd', okT o V D t bv bd = true → okT true V' D' t bv' bd' = true := by
  induction N with
  | zero => intro t h; have := blk_pos t; omega
  | succ N ih =>
    intro t h bv bd bv' bd' hok
    rw [ok_iff] at hok ⊢
    obtain ⟨hn, hp⟩ := hok
    rw [node_iff] at hn ⊢
    obtain ⟨_, h2, h3, h4, h5, h6⟩ := hn
    exact ⟨⟨rfl, h2, num_open h3, h4, row_open h5, fun b hb => br_open (h6 b hb)⟩, fun p hp' => ih p.1 (by have := blk_pts hp'; omega) _ _ _ _ (hp p hp')⟩
theorem num_more {V V' : Int} (hV : V ≤ V') {bv : Nat} {k n : Int} (h : numB false V bv k n = true) : numB false V' bv k n = true := by
  unfold numB at h ⊢
  split
  · rename_i h1
    rw [if_pos h1] at h
    simp only [Bool.false_or, Bool.and_eq_true, decide_eq_true_eq] at h ⊢
    exact ⟨h.1, by omega⟩
  · rename_i h1; rw [if_neg h1] at h; exact h
/-- What may be may be in more variables. -/
theorem ok_vars {V V' : Int} (hV : V ≤ V') (D N : Nat) : ∀ t : Tm, blk t ≤ N → ∀ bv bd, okT false V D t bv bd = true → okT false V' D t bv bd = true := by
  induction N with
  | zero => intro t h; have := blk_pos t; omega
  | succ N ih =>
    intro t h bv bd hok
    rw [ok_iff] at hok ⊢
    obtain ⟨hn, hp⟩ := hok
    rw [node_iff] at hn ⊢
    obtain ⟨h1, h2, h3, h4, h5, h6⟩ := hn
    exact ⟨⟨h1, h2, num_more hV h3, h4, h5, h6⟩, fun p hp' => ih p.1 (by have := blk_pts hp'; omega) _ _ (hp p hp')⟩
theorem num_us {V n : Int} (hn : V ≤ n) {bv : Nat} {k m : Int} (h : numB false V bv k m = true) : (decide (k = 1) && decide (0 ≤ n) && decide (m = n + bv)) = false := by
  unfold numB at h
  by_cases h1 : k = 1
  · rw [if_pos h1] at h
    simp only [Bool.false_or, Bool.and_eq_true, decide_eq_true_eq] at h
    rw [decide_eq_false (show ¬ m = n + bv by omega)]; simp
  · rw [decide_eq_false h1]; rfl
/-- What may be uses no variable beyond. -/
theorem ok_us {V n : Int} (hn : V ≤ n) (D N : Nat) : ∀ t : Tm, blk t ≤ N → ∀ bv bd, okT false V D t bv bd = true → usT n t bv = false := by
  induction N with
  | zero => intro t h; have := blk_pos t; omega
  | succ N ih =>
    intro t h bv bd hok
    rw [ok_iff] at hok
    obtain ⟨hd, hp⟩ := hok
    rw [node_iff] at hd
    rw [us_eq, num_us hn hd.2.2.1, Bool.false_or, List.any_eq_false]
    intro p hp'
    rw [ih p.1 (by have := blk_pts hp'; omega) _ _ (hp p hp')]; simp
theorem reach_bit {e : Nat} {r : List C} (h : reachB false e r = true) {j : Nat} (hj : e ≤ j) : (dimsN r).testBit j = false := by
  unfold reachB at h
  simp only [Bool.false_or, decide_eq_true_eq] at h
  obtain ⟨i, rfl⟩ : ∃ i, j = e + i := ⟨j - e, by omega⟩
  rw [← Nat.testBit_shiftRight, Nat.shiftRight_eq_div_pow, h]; simp
theorem row_bit {e : Nat} {k : Int} {r : List C} (h : rowB false e k r = true) {j : Nat} (hj : e ≤ j) : (dimsN r).testBit j = false := by
  unfold rowB at h
  split at h
  · rw [Bool.and_eq_true] at h; exact reach_bit h.2 hj
  · split at h
    · rw [Bool.and_eq_true] at h; exact reach_bit h.2 hj
    · have : r = [] := List.eq_nil_of_length_eq_zero (by simpa using h)
      rw [this]; simp [dimsN]
/-- What may be has no dimension beyond. -/
theorem ok_hs (V : Int) (D N : Nat) : ∀ t : Tm, blk t ≤ N → ∀ bv bd j, D + bd ≤ j → okT false V D t bv bd = true → hsT t j = false := by
  induction N with
  | zero => intro t h; have := blk_pos t; omega
  | succ N ih =>
    intro t h bv bd j hj hok
    rw [ok_iff] at hok
    obtain ⟨hd, hp⟩ := hok
    rw [node_iff] at hd
    obtain ⟨_, _, _, _, h5, h6⟩ := hd
    rw [hs_eq, row_bit h5 hj, Bool.false_or, Bool.or_eq_false_iff, List.any_eq_false, List.any_eq_false]
    refine ⟨fun b hb => ?_, fun p hp' => ?_⟩
    · have := h6 b hb
      unfold brB at this
      simp only [Bool.and_eq_true] at this
      rw [reach_bit this.2 hj]; simp
    · rw [ih p.1 (by have := blk_pts hp'; omega) _ _ _ (by omega) (hp p hp')]; simp
/-- What may be may be in one variable fewer just if it does not use that. -/
theorem ok_less {V : Int} (hV : 1 ≤ V) (D N : Nat) : ∀ t : Tm, blk t ≤ N → ∀ bv bd, okT false V D t bv bd = true → okT false (V - 1) D t bv bd = !usT (V - 1) t bv := by
  induction N with
  | zero => intro t h; have := blk_pos t; omega
  | succ N ih =>
    intro t h bv bd hok
    rw [ok_iff] at hok
    obtain ⟨hd, hp⟩ := hok
    have hps : ∀ p ∈ t.pts, okT false (V - 1) D p.1 (bv + p.2.1) (bd + p.2.2) = !usT (V - 1) p.1 (bv + p.2.1) := fun p hp' => ih p.1 (by have := blk_pts hp'; omega) _ _ (hp p hp')
    rw [us_eq]
    rw [node_iff] at hd
    obtain ⟨h1, h2, h3, h4, h5, h6⟩ := hd
    have hnum : numB false (V - 1) bv t.kind t.n = !(decide (t.kind = 1) && decide (0 ≤ V - 1) && decide (t.n = V - 1 + bv)) := by
      unfold numB at h3 ⊢
      by_cases hk : t.kind = 1
      · rw [if_pos hk] at h3 ⊢
        simp only [Bool.false_or, Bool.and_eq_true, decide_eq_true_eq] at h3
        rw [decide_eq_true h3.1, decide_eq_true hk, decide_eq_true (show 0 ≤ V - 1 by omega)]
        by_cases he : t.n = V - 1 + bv
        · rw [decide_eq_true he, decide_eq_false (by omega)]; rfl
        · rw [decide_eq_false he, decide_eq_true (by omega)]; rfl
      · rw [if_neg hk] at h3 ⊢
        rw [h3, decide_eq_false hk]; rfl
    rw [Bool.eq_iff_iff, ok_iff, node_iff, hnum]
    simp only [Bool.not_eq_true', Bool.or_eq_false_iff, List.any_eq_false]
    constructor
    · rintro ⟨⟨_, _, ha, _⟩, hb⟩
      refine ⟨ha, fun p hp' => ?_⟩
      have := hb p hp'
      rw [hps p hp'] at this
      simpa using this
    · rintro ⟨ha, hb⟩
      refine ⟨⟨h1, h2, ha, h4, h5, h6⟩, fun p hp' => ?_⟩
      rw [hps p hp']
      have := hb p hp'
      simpa using this
/-! ### of the whole -/
theorem right_zero {V d : Int} {t : Tm} : rightN V d t = 0 ↔ (0 ≤ V ∧ 0 ≤ d ∧ d ≤ 24) ∧ depthT t ≤ 200 ∧ okT false V d.toNat t 0 0 = true := by
  unfold rightN wrongN
  by_cases h : V < 0 ∨ d < 0 ∨ 24 < d
  · rw [if_pos h]; constructor
    · intro h; cases h
    · rintro ⟨h1, _⟩; omega
  · rw [if_neg h]
    by_cases h2 : 200 < depthT t
    · rw [if_pos h2]; constructor
      · intro h; cases h
      · rintro ⟨_, h1, _⟩; omega
    · rw [if_neg h2]
      by_cases h3 : okT false V d.toNat t 0 0 = true
      · rw [if_pos h3]; exact ⟨fun _ => ⟨by omega, by omega, h3⟩, fun _ => rfl⟩
      · rw [if_neg h3]; exact ⟨fun h => (by cases h), fun h => absurd h.2.2 h3⟩
theorem more_formed {V d : Int} {t : Tm} (h : rightN V d t = 0) : wrongN true 0 0 t = 0 := by
  obtain ⟨_, h2, h3⟩ := right_zero.1 h
  unfold wrongN
  rw [if_neg (by omega), if_pos (ok_formed V 0 d.toNat 0 false _ t (Nat.le_refl _) _ _ _ _ h3)]
theorem more_vars {V V' d : Int} {t : Tm} (h : rightN V d t = 0) (hV : V ≤ V') : rightN V' d t = 0 := by
  obtain ⟨h1, h2, h3⟩ := right_zero.1 h
  exact right_zero.2 ⟨by omega, h2, ok_vars hV _ _ t (Nat.le_refl _) _ _ h3⟩
theorem more_us {V n d : Int} {t : Tm} (h : rightN V d t = 0) (hn : V ≤ n) : usT n t 0 = false :=
  ok_us hn _ _ t (Nat.le_refl _) _ _ (right_zero.1 h).2.2
theorem more_dim {V d : Int} {t : Tm} (h : rightN V d t = 0) {i : Nat} (hi : d ≤ i) : (dmT t 0).testBit i = false := by
  rw [dm_bit _ t (Nat.le_refl _)]
  exact ok_hs V _ _ t (Nat.le_refl _) 0 0 _ (by have := (right_zero.1 h).1; omega) (right_zero.1 h).2.2
theorem more_less {V d : Int} {t : Tm} (h : rightN V d t = 0) (hV : 1 ≤ V) : rightN (V - 1) d t = if usT (V - 1) t 0 = true then 100 else 0 := by
  obtain ⟨h1, h2, h3⟩ := right_zero.1 h
  unfold rightN wrongN
  rw [if_neg (by omega), if_neg (by omega), ok_less hV _ _ t (Nat.le_refl _) _ _ h3]
  cases usT (V - 1) t 0 <;> rfl
end Go.Proofs.YtjimednocmdpnaaGreat

namespace Go.Proofs.YtjimednocmdpnaaGreat
open Go.RowKit
set_option linter.unusedVariables false
set_option linter.unusedSimpArgs false

theorem mem_liK {s : Sf} {k : Int} {l : List Tm} {bv bd : Nat} {y : Tm} (h : y ∈ liK s k l bv bd) : ∃ i x, l[i]? = some x ∧ y = liT s x (bv + bvK k i) (bd + bdK k i) := by
  unfold liK at h
  obtain ⟨p, hp, rfl⟩ := List.mem_map.1 h
  exact ⟨p.2, p.1, List.mem_zipIdx_iff_getElem?.1 hp, rfl⟩
theorem rowP_nil1 (s : Sf) (bd : Nat) : (rowP s bd []).1 = [] := by
  unfold rowP
  split
  · rfl
  · have e1 : rightF [] = true := by decide
    have e2 : leastF [] = ([], 0) := by decide
    simp [liftFF, liftS, e1, e2]
theorem fm_li {s : Sf} (hs : 0 ≤ s.vb) : ∀ (n : Nat) (t : Tm) (bv bd : Nat), blk t ≤ n → Fm t → Fm (liT s t bv bd)
  | 0, t, bv, bd, hn, h => by have := blk_pos t; omega
  | n + 1, t, bv, bd, hn, h => by
    obtain ⟨h0, h1, h2, h3⟩ := (fm_eq t).1 h
    rw [li_eq, fm_eq]
    refine ⟨?_, fun hk => ?_, fun y hy => ?_, fun b hb y hy => ?_⟩
    · show 0 ≤ numV s bv t.kind t.n
      unfold numV; split <;> omega
    · show (rowP s bd t.r).1 = []
      rw [h1 hk]; exact rowP_nil1 s bd
    · obtain ⟨i, x, hx, rfl⟩ := mem_liK hy
      have hm := List.mem_of_getElem? hx
      exact fm_li hs n x _ _ (by have := blk_kid hm; omega) (h2 x hm)
    · obtain ⟨c, hc, rfl⟩ := List.mem_map.1 hb
      obtain ⟨x, hx, rfl⟩ := List.mem_map.1 hy
      exact fm_li hs n x _ _ (by have := blk_sub hc hx; omega) (h3 c hc x hx)
/-! ### how great it is -/
theorem keepAll_len (l : List C) : (lstN l).length ≤ l.length := by
  have h1 : ∀ (c : C) (l : List C), (insC c l).length ≤ l.length + 1 := by
    intro c l
    induction l with
    | nil => simp [insC]
    | cons d l ih =>
      unfold insC
      split
      · simp
      · split
        · simp
        · simp; omega
  have h2 : ∀ l : List C, (ordC l).length ≤ l.length := by
    intro l
    induction l with
    | nil => simp [ordC]
    | cons c l ih => have := h1 c (ordC l); show (insC c (ordC l)).length ≤ _; simp; omega
  have h3 : ∀ l : List C, (keepAll l).length ≤ l.length := fun l => by
    have : ∀ (l a : List C), (l.foldl keep a).length ≤ a.length + l.length := by
      intro l
      induction l with
      | nil => intro a; simp
      | cons c l ih =>
        intro a
        have h1 := ih (keep a c)
        have h2 : (keep a c).length ≤ a.length + 1 := by unfold keep; split <;> simp
        show ((l.foldl keep (keep a c))).length ≤ _
        simp only [List.length_cons]
        omega
    have := this l []
    unfold keepAll
    simpa using this
  exact Nat.le_trans (h3 _) (h2 l)
theorem leastF_le (l : List C) : (leastF l).1.length ≤ l.length := by
  unfold leastF
  split
  · split
    · exact keepAll_len l
    · simp
  · simp
theorem rowP_len (s : Sf) (bd : Nat) (r : List C) : (rowP s bd r).1.length ≤ r.length := by
  unfold rowP
  split
  · exact Nat.le_refl _
  · unfold liftFF
    split
    · split
      · exact Nat.le_trans (leastF_le _) (liftS_len r _ _)
      · simp
    · simp
theorem rowP_zero {s : Sf} (h : s.db = 0) (bd : Nat) (r : List C) : rowP s bd r = (r, 0) := by unfold rowP; rw [if_pos h]
theorem sum_zip {f : Tm → Nat} : ∀ (l : List Tm) (g : Tm × Nat → Tm) (i : Nat), (∀ p ∈ l.zipIdx i, f (g p) ≤ f p.1) → ((l.zipIdx i).map fun p => f (g p)).sum ≤ (l.map f).sum
  | [], g, i, h => by simp
  | x :: l, g, i, h => by
    have h1 := h (x, i) (by simp)
    have h2 := sum_zip l g (i + 1) (fun p hp => h p (by simp [hp]))
    simp only [List.zipIdx_cons, List.map_cons, List.sum_cons]
    have h1 : f (g (x, i)) ≤ f x := h1
    omega
theorem blk_li {s : Sf} : ∀ (n : Nat) (t : Tm) (bv bd : Nat), blk t ≤ n → blk (liT s t bv bd) ≤ blk t
  | 0, t, bv, bd, hn => by have := blk_pos t; omega
  | n + 1, t, bv, bd, hn => by
    have e := blk_eq (liT s t bv bd)
    rw [li_eq] at e
    rw [li_eq, e, blk_eq t]
    have h1 := rowP_len s bd t.r
    have h2 : blkL (liK s t.kind t.kids bv bd) ≤ blkL t.kids := by
      unfold blkL liK
      rw [List.map_map]
      refine sum_zip t.kids (fun p => liT s p.1 (bv + bvK t.kind p.2) (bd + bdK t.kind p.2)) 0 (fun p hp => ?_)
      have hm := List.mem_of_getElem? (List.mem_zipIdx_iff_getElem?.1 hp)
      exact blk_li n p.1 _ _ (by have := blk_kid hm; omega)
    have h3 : blkS (t.sys.map fun b => liB s t.kind b bv bd) ≤ blkS t.sys := by
      unfold blkS
      rw [List.map_map]
      refine sumN_le fun b hb => ?_
      have h4 := rowP_len s bd b.1
      have h5 : blkL (b.2.map fun x => liT s x bv (bd + moreK t.kind)) ≤ blkL b.2 := by
        unfold blkL
        rw [List.map_map]
        exact sumN_le fun x hx => blk_li n x _ _ (by have := blk_sub hb hx; omega)
      show 1 + (rowP s bd b.1).1.length + blkL (b.2.map fun x => liT s x bv (bd + moreK t.kind)) ≤ _
      omega
    dsimp only at *
    omega
end Go.Proofs.YtjimednocmdpnaaGreat

namespace Go.Proofs.YtjimednocmdpnaaGreat
open Go.RowKit
set_option linter.unusedVariables false
set_option linter.unusedSimpArgs false

theorem assert_errno (v : Value) (w : World) : (Instr.typeAssert (.iface 29 v) 20 29 false).run Tryz.prog w = .ok v w := by
  simp [Instr.typeAssert, run_underlying Tryz.underlying29]
set_option maxRecDepth 100000 in
set_option maxHeartbeats 1000000 in
theorem lcatch_panicking (q : Nat) (a x : Int) (older : List PanicEntry) (w : World) (hq : q < w.heap.size) (c0 : w.cell? ⟨q, 0, none⟩ = some (.int .i64 a)) (z0 : w.frozen? ⟨q, 0, none⟩ = false) :
    CallsD Tryz.prog 52 #[.pointer (some ⟨q, 0, none⟩)] (.panicking ({ v := .iface 29 (.int .i64 x), recovered := false } :: older)) w fun e u' w' =>
      e = .returned (.tuple #[]) ∧ u' = .panicking ({ v := .iface 29 (.int .i64 x), recovered := true } :: older) ∧ w' = w.setCell ⟨q, 0, none⟩ (.int .i64 x) := by
  refine callsD_of_wpS Tryz.func52 rfl fun c₀ cs hu => ?_
  apply wpS_seq
  apply wpS_region
  simp [wpOpsS, go_sem, recoverD, hu, Tryz.ntmps52, Exit.thenS]
  refine wpS_of_wp ?_
  change Code.wp Tryz.prog _ _ { tmps := #[.pointer (some ⟨q, 0, none⟩), .iface 29 (.int .i64 x), .iface 29 (.int .i64 x), undef, undef, undef, undef], defers := [] } w
  have hta := fun w => assert_errno (.int .i64 x) w
  go_wp2_with fail
  simp +zetaDelta [bodyPostS, results, Tryz.results52]
theorem lcatch_idle (q : Nat) (w : World) :
    CallsD Tryz.prog 52 #[.pointer (some ⟨q, 0, none⟩)] .returning w fun e u' w' => e = .returned (.tuple #[]) ∧ u' = .returning ∧ w' = w := by
  refine callsD_of_wpS Tryz.func52 rfl fun c₀ cs hu => ?_
  apply wpS_seq
  apply wpS_region
  simp [wpOpsS, go_sem, recoverD, hu, Tryz.ntmps52, Exit.thenS]
  refine wpS_of_wp ?_
  change Code.wp Tryz.prog _ _ { tmps := #[.pointer (some ⟨q, 0, none⟩), .nilIface, .nilIface, undef, undef, undef, undef], defers := [] } w
  go_wp2_with fail
  cases c₀
  simp_all +zetaDelta [bodyPostS, results, Tryz.results52]
/-- The term that is told with a refusal. -/
def zeroT : Tm := .mk 0 0 ⟨#[]⟩ [] [] []
theorem zeroT_in (ok : Nat → Prop) (w : World) : TmIn ok w zeroT (.agg #[.int .i64 0, .int .i64 0, .string ⟨#[]⟩, .slice none 0 0, .slice none 0 0, .slice none 0 0]) :=
  TmIn.mk 0 0 ⟨#[]⟩ [] [] [] _ _ _ (by unfold I64; omega) (by unfold I64; omega) (cl_nil _ _) (kt_nil _ _ _) (sy_nil _ _ _)
/-- What a lift tells of a whole term. -/
def ansL (s : Sf) (t : Tm) : Tm := if erT s t 0 0 = 0 then liT s t 0 0 else zeroT
set_option maxRecDepth 100000 in
set_option maxHeartbeats 4000000 in
theorem lterm_any {s : Sf} (hL : ∀ N, LfC s N) (t : Tm) (v : Value) (w : World) (hv : TmIn Tt w t v) (hf : Fm t) (hb : blk t ≤ 40000) :
    Calls Tryz.prog 26 #[.agg #[.int .i64 s.vf, .int .i64 s.vb, .int .i64 s.df, .int .i64 s.db], v] w fun e w' => ∃ v', e = .returned (.tuple #[v', .int .i64 (erT s t 0 0)]) ∧ TmIn (OkN w.heap.size w') w' (ansL s t) v' ∧ Below w.heap.size w w' := by
  obtain ⟨ra, rc, ka, kc, sa, sc, rfl, ht⟩ := hv.form
  obtain ⟨wa, hwa⟩ : ∃ W, W = ((w.alloc (.cells #[.int .i64 s.vf, .int .i64 s.vb, .int .i64 s.df, .int .i64 s.db] 62)).alloc (.cells #[.int .i64 t.kind, .int .i64 t.n, .string t.name, .slice ra t.r.length rc, .slice ka t.kids.length kc, .slice sa t.sys.length sc] 26)) := ⟨_, rfl⟩
  have sa' : wa.heap.size = w.heap.size + 2 := by rw [hwa]; simp
  have ba : Below w.heap.size w wa := by rw [hwa]; exact bchain (belowA _ _) (belowA _ _)
  obtain ⟨wb, hwb⟩ : ∃ W, W = (wa.alloc (.cells #[.int .i64 0, .int .i64 0, .string ⟨#[]⟩, .slice none 0 0, .slice none 0 0, .slice none 0 0] 26)).alloc (.cells #[.int .i64 0] 29) := ⟨_, rfl⟩
  have sb' : wb.heap.size = w.heap.size + 4 := by rw [hwb]; simp; omega
  have bb : Below wa.heap.size wa wb := by rw [hwb]; exact bchain (belowA _ _) (belowA _ _)
  obtain ⟨X, hX⟩ : ∃ X, X = w.heap.size := ⟨_, rfl⟩
  obtain ⟨w2, hw2⟩ : ∃ W, W = wb.alloc (.cells #[.func (.func 53) #[] #[.pointer (some ⟨X, 0, none⟩), .pointer (some ⟨X + 4, 0, none⟩)]] 88) := ⟨_, rfl⟩
  have b2 : Below wb.heap.size wb w2 := by rw [hw2]; exact belowA _ _
  have s2 : w2.heap.size = X + 5 := by rw [hw2]; simp; omega
  have bw2 := bchain (bchain ba bb) b2
  have ma : wa.heap[X]? = some (.cells #[.int .i64 s.vf, .int .i64 s.vb, .int .i64 s.df, .int .i64 s.db] 62 (0, 0)) := by rw [hwa, hX]; exact (Below.heap_alloc _ _ _ (by simp)).trans (heapNew w _)
  have mt : wa.heap[X + 1]? = some (.cells #[.int .i64 t.kind, .int .i64 t.n, .string t.name, .slice ra t.r.length rc, .slice ka t.kids.length kc, .slice sa t.sys.length sc] 26 (0, 0)) := by
    rw [hwa, hX]; have := heapNew (w.alloc (.cells #[.int .i64 s.vf, .int .i64 s.vb, .int .i64 s.df, .int .i64 s.db] 62)) (.cells #[.int .i64 t.kind, .int .i64 t.n, .string t.name, .slice ra t.r.length rc, .slice ka t.kids.length kc, .slice sa t.sys.length sc] 26); rwa [World.size_alloc] at this
  have mr : Six wb (X + 2) (.int .i64 0) (.int .i64 0) (.string ⟨#[]⟩) (.slice none 0 0) (.slice none 0 0) (.slice none 0 0) := ⟨by
    rw [hwb]; refine (Below.heap_alloc _ _ _ (by simp; omega)).trans ?_
    have := heapNew wa (.cells #[.int .i64 0, .int .i64 0, .string ⟨#[]⟩, .slice none 0 0, .slice none 0 0, .slice none 0 0] 26); rwa [sa', ← hX] at this⟩
  have me : wb.heap[X + 3]? = some (.cells #[.int .i64 0] 29 (0, 0)) := by
    rw [hwb]; have := heapNew (wa.alloc (.cells #[.int .i64 0, .int .i64 0, .string ⟨#[]⟩, .slice none 0 0, .slice none 0 0, .slice none 0 0] 26)) (.cells #[.int .i64 0] 29); rwa [World.size_alloc, sa', ← hX] at this
  have mf : w2.heap[X + 4]? = some (.cells #[.func (.func 53) #[] #[.pointer (some ⟨X, 0, none⟩), .pointer (some ⟨X + 4, 0, none⟩)]] 88 (0, 0)) := by
    rw [hw2]; have := heapNew wb (.cells #[.func (.func 53) #[] #[.pointer (some ⟨X, 0, none⟩), .pointer (some ⟨X + 4, 0, none⟩)]] 88); rwa [sb', ← hX] at this
  have bab := bchain bb b2
  have hE : LEnv w2 s X (X + 4) := ⟨(bab.block X (by omega)).trans ma, mf⟩
  have h6 : Cs6 w2 (X + 1) 0 t ra rc ka kc sa sc := cs6_of ((bab.block (X + 1) (by omega)).trans mt)
  have cc : Calls Tryz.prog 53 #[.pointer (some ⟨X + 1, 0, none⟩), .agg #[.int .i64 0, .int .i64 0], .pointer (some ⟨X, 0, none⟩), .pointer (some ⟨X + 4, 0, none⟩)] w2 fun e w' => LOut (erT s t 0 0) (TmIn (OkN w2.heap.size w') w' (liT s t 0 0)) e ∧ Below w2.heap.size w2 w' :=
    hL _ t 0 0 (X + 1) 0 X (X + 4) ra rc ka kc sa sc w2 hE h6 (ht.blw bw2) hf (Nat.le_refl _) (by omega) (by omega) hb
  have HZ2 : Hid (∀ W, Below w2.heap.size w2 W → Six W (X + 2) (.int .i64 0) (.int .i64 0) (.string ⟨#[]⟩) (.slice none 0 0) (.slice none 0 0) (.slice none 0 0) ∧ W.heap[X + 3]? = some (.cells #[.int .i64 0] 29 (0, 0))) := fun W q => by
    have q2 := bchain b2 q
    exact ⟨mr.blw q2, (q2.block (X + 3) (by omega)).trans me⟩
  have HB : Hid (∀ W, Below w2.heap.size w2 W → Below X w W) := fun W q => by rw [hX]; exact bchain bw2 q
  have HA : Hid (ansL s t = if erT s t 0 0 = 0 then liT s t 0 0 else zeroT) := (rfl : _ = _)
  obtain ⟨er, her⟩ : ∃ e, e = erT s t 0 0 := ⟨_, rfl⟩
  obtain ⟨T, hT⟩ : ∃ T, T = liT s t 0 0 := ⟨_, rfl⟩
  rw [← her, ← hT] at cc HA
  rw [← her, ← hX]
  have cf := hE.fn
  have hmk := mkfn
  have eg := lf_eg
  have HW : Hid (w2 = ((((w.alloc (.cells #[.int .i64 s.vf, .int .i64 s.vb, .int .i64 s.df, .int .i64 s.db] 62)).alloc (.cells #[.int .i64 t.kind, .int .i64 t.n, .string t.name, .slice ra t.r.length rc, .slice ka t.kids.length kc, .slice sa t.sys.length sc] 26)).alloc (.cells #[.int .i64 0, .int .i64 0, .string ⟨#[]⟩, .slice none 0 0, .slice none 0 0, .slice none 0 0] 26)).alloc (.cells #[.int .i64 0] 29)).alloc (.cells #[.func (.func 53) #[] #[.pointer (some ⟨w.heap.size, 0, none⟩), .pointer (some ⟨w.heap.size + 4, 0, none⟩)]] 88)) := (by rw [hw2, hwb, hwa, hX] : _ = _)
  have HX : Hid (X = w.heap.size) := hX
  have Hs2 : Hid (w2.heap.size = X + 5) := s2
  clear hwa hwb hw2 ba bb b2 bw2 sa' sb' ma mt mr me mf bab hE h6 ht hv hf her hT hX s2 hL hb
  go_enter_defers Tryz.func26, Tryz.ntmps26
  go_upto_region 4 with fail
  rw [← HW.out]
  simp only [← HX.out]
  clear HW
  go_wp2_with fail
  refine cc.mono ?_
  rintro e w3 ⟨⟨h0, v3, rfl, hv3⟩ | ⟨hne, rfl⟩, hb3⟩
  · clear cc cf
    obtain ⟨ra2, rc2, ka2, kc2, sa2, sc2, rfl, ht2⟩ := hv3.form
    obtain ⟨z3, e3⟩ := HZ2.out w3 hb3
    have hs2 := Hs2.out
    have hs3 := hb3.size
    obtain ⟨w4, hw4⟩ : ∃ W, W = (((((w3.setCell ⟨X + 2, 0, none⟩ (.int .i64 T.kind)).setCell ⟨X + 2, 1, none⟩ (.int .i64 T.n)).setCell ⟨X + 2, 2, none⟩ (.string T.name)).setCell ⟨X + 2, 3, none⟩ (.slice ra2 T.r.length rc2)).setCell ⟨X + 2, 4, none⟩ (.slice ka2 T.kids.length kc2)).setCell ⟨X + 2, 5, none⟩ (.slice sa2 T.sys.length sc2) := ⟨_, rfl⟩
    have k4 : Kn (fun q => q ≠ X + 2) w3 w4 := by rw [hw4]; exact (((((kn_set _ _ _ _).trans (kn_set _ _ _ _)).trans (kn_set _ _ _ _)).trans (kn_set _ _ _ _)).trans (kn_set _ _ _ _)).trans (kn_set _ _ _ _)
    have z4 := z3.set6 (.int .i64 T.kind) (.int .i64 T.n) (.string T.name) (.slice ra2 T.r.length rc2) (.slice ka2 T.kids.length kc2) (.slice sa2 T.sys.length sc2)
    rw [← hw4] at z4
    have e4 := (k4.block (X + 3) (by omega) (by omega)).trans e3
    have c40 : w4.cell? ⟨X + 3, 0, none⟩ = some (.int .i64 0) := by simp [World.cell?, e4]
    have c4f : w4.frozen? ⟨X + 3, 0, none⟩ = false := by simp [World.frozen?, e4]
    obtain ⟨w5, hw5⟩ : ∃ W, W = w4.setCell ⟨X + 3, 0, none⟩ (.int .i64 0) := ⟨_, rfl⟩
    have k5 : Kn (fun q => q ≠ X + 3) w4 w5 := by rw [hw5]; exact kn_set _ _ _ _
    have z5 := z4.kn k5 (by omega)
    have c5 : w5.cell? ⟨X + 3, 0, none⟩ = some (.int .i64 0) := by rw [hw5]; exact World.cell?_setCell_same' _ _ _ (by rw [c40]; rfl)
    have HTm : Hid (TmIn (OkN X w5) w5 T (.agg #[.int .i64 T.kind, .int .i64 T.n, .string T.name, .slice ra2 T.r.length rc2, .slice ka2 T.kids.length kc2, .slice sa2 T.sys.length sc2])) := by
      have hA : ∀ q, OkN w2.heap.size w3 q → w5.heap[q]? = w3.heap[q]? := fun q hq => (k5.block q (by have := hq.1; omega) (by have := hq.lt; have := k4.size; omega)).trans (k4.block q (by have := hq.1; omega) hq.lt)
      exact ht2.value.keep (Nat.le_trans k4.size k5.size) (fun q hq => (hq.same (hA q hq)).mono (by omega)) (fun q hq _ => hA q hq)
    have b5 : Below X w w5 := ((HB.out w3 hb3).trans (k4.below (fun q hq => by omega) (by omega))).trans (k5.below (fun q hq => by omega) (by have := k4.size; omega))
    obtain ⟨o0, o1, o2, o3, o4, o5, ff⟩ := z3.cells
    have f0 := ff 0
    have f1 := ff 1
    have f2 := ff 2
    have f3 := ff 3
    have f4 := ff 4
    have f5 := ff 5
    obtain ⟨d0, d1, d2, d3, d4, d5, _⟩ := z5.cells
    have H4 : Hid (_ = _) := hw4
    have H5 : Hid (_ = _) := hw5
    have Hc4 : Hid (_ ∧ _) := (⟨c40, c4f⟩ : w4.cell? ⟨X + 3, 0, none⟩ = some (.int .i64 0) ∧ w4.frozen? ⟨X + 3, 0, none⟩ = false)
    have p40 : (((((((w3.setCell ⟨X + 2, 0, none⟩ (.int .i64 T.kind)).setCell ⟨X + 2, 1, none⟩ (.int .i64 T.n)).setCell ⟨X + 2, 2, none⟩ (.string T.name)).setCell ⟨X + 2, 3, none⟩ (.slice ra2 T.r.length rc2)).setCell ⟨X + 2, 4, none⟩ (.slice ka2 T.kids.length kc2)).setCell ⟨X + 2, 5, none⟩ (.slice sa2 T.sys.length sc2)).cell? ⟨X + 3, 0, none⟩ = some (.int .i64 0)) := by rw [← hw4]; exact c40
    have p4f : (((((((w3.setCell ⟨X + 2, 0, none⟩ (.int .i64 T.kind)).setCell ⟨X + 2, 1, none⟩ (.int .i64 T.n)).setCell ⟨X + 2, 2, none⟩ (.string T.name)).setCell ⟨X + 2, 3, none⟩ (.slice ra2 T.r.length rc2)).setCell ⟨X + 2, 4, none⟩ (.slice ka2 T.kids.length kc2)).setCell ⟨X + 2, 5, none⟩ (.slice sa2 T.sys.length sc2)).frozen? ⟨X + 3, 0, none⟩ = false) := by rw [← hw4]; exact c4f
    clear hw4 hw5 z3 z4 z5 k4 k5 ff e3 e4 ht2 hv3 c40 c4f hs2 hs3
    go_wp2_with fail
    rw [← H4.out, ← H5.out]
    refine leaves_cons (f := 52) (args := #[.pointer (some ⟨X + 3, 0, none⟩)]) (by simp) (by simp [go_sem]) ?_
    refine (lcatch_idle _ _).mono ?_
    rintro e u' w'' ⟨rfl, rfl, rfl⟩
    refine ⟨.tuple #[.agg #[.int .i64 T.kind, .int .i64 T.n, .string T.name, .slice ra2 T.r.length rc2, .slice ka2 T.kids.length kc2, .slice sa2 T.sys.length sc2], .int .i64 0], by simp only [results, Tryz.results26]; simp [go_sem, d0, d1, d2, d3, d4, d5, c5], _, by rw [h0], by rw [HA.out, if_pos h0]; exact HTm.out, b5⟩
  · clear cc cf
    obtain ⟨z3, e3⟩ := HZ2.out w3 hb3
    have hs2 := Hs2.out
    have hs3 := hb3.size
    have c30 : w3.cell? ⟨X + 3, 0, none⟩ = some (.int .i64 0) := by simp [World.cell?, e3]
    have c3f : w3.frozen? ⟨X + 3, 0, none⟩ = false := by simp [World.frozen?, e3]
    refine leaves_cons (f := 52) (args := #[.pointer (some ⟨X + 3, 0, none⟩)]) (by simp) (by simp [go_sem]) ?_
    refine (lcatch_panicking (X + 3) 0 er [] w3 (by omega) c30 c3f).mono ?_
    rintro e u' w5 ⟨rfl, rfl, hw5⟩
    have k5 : Kn (fun q => q ≠ X + 3) w3 w5 := by rw [hw5]; exact kn_set _ _ _ _
    have z5 := z3.kn k5 (by omega)
    have c5 : w5.cell? ⟨X + 3, 0, none⟩ = some (.int .i64 er) := by rw [hw5]; exact World.cell?_setCell_same' _ _ _ (by rw [c30]; rfl)
    have b5 : Below X w w5 := (HB.out w3 hb3).trans (k5.below (fun q hq => by omega) (by omega))
    obtain ⟨d0, d1, d2, d3, d4, d5, _⟩ := z5.cells
    refine ⟨.tuple #[.agg #[.int .i64 0, .int .i64 0, .string ⟨#[]⟩, .slice none 0 0, .slice none 0 0, .slice none 0 0], .int .i64 er], by simp only [results, Tryz.results26]; simp [go_sem, d0, d1, d2, d3, d4, d5, c5], _, rfl, by rw [HA.out, if_neg hne]; exact zeroT_in _ _, b5⟩
end Go.Proofs.YtjimednocmdpnaaGreat

namespace Go.Proofs.YtjimednocmdpnaaGreat
open Go.RowKit
set_option linter.unusedVariables false
set_option linter.unusedSimpArgs false

/-- A term that may be may be lifted. -/
theorem fm_of_ok {o : Bool} {V : Int} {D : Nat} : ∀ (n : Nat) (t : Tm) (bv bd : Nat), blk t ≤ n → okT o V D t bv bd = true → Fm t
  | 0, t, bv, bd, hn, h => by have := blk_pos t; omega
  | n + 1, t, bv, bd, hn, h => by
    rw [ok_eq, Bool.and_eq_true] at h
    obtain ⟨h1, h2⟩ := h
    rw [List.all_eq_true] at h2
    unfold Tm.node nodeB at h1
    simp only [Bool.and_eq_true] at h1
    obtain ⟨⟨⟨⟨⟨_, _⟩, hnum⟩, _⟩, hrow⟩, _⟩ := h1
    rw [fm_eq]
    refine ⟨?_, fun hk => ?_, fun x hx => ?_, fun b hb x hx => ?_⟩
    · unfold numB at hnum
      split at hnum
      · simp only [Bool.and_eq_true, decide_eq_true_eq] at hnum; exact hnum.1
      · simp only [decide_eq_true_eq] at hnum; omega
    · unfold rowB at hrow
      rw [hk, if_neg (by omega), if_neg (by omega)] at hrow
      exact List.length_eq_zero_iff.1 (by simpa using hrow)
    · obtain ⟨i, hi⟩ := List.mem_iff_getElem?.1 hx
      exact fm_of_ok n x _ _ (by have := blk_kid hx; omega) (h2 _ (pts_kid hi))
    · exact fm_of_ok n x _ _ (by have := blk_sub hb hx; omega) (h2 _ (pts_sys hb hx))
theorem fm_of_wrong {t : Tm} (h : wrongN true 0 0 t = 0) : Fm t := by
  unfold wrongN at h
  split at h
  · cases h
  · split at h
    · rename_i h2; exact fm_of_ok _ t 0 0 (Nat.le_refl _) h2
    · cases h
/-- What is refused ahead of all lifting. -/
def wrL (ot by_ : Int) (t : Tm) : Int := if wrongN true 0 0 t = 0 then (if ot < 0 ∨ by_ < 0 ∨ 1000000 < by_ then 2 else 0) else ((wrongN true 0 0 t : Nat) : Int)
set_option maxRecDepth 100000 in
set_option maxHeartbeats 2000000 in
theorem lwrong_any (t : Tm) (v : Value) (w : World) (hv : TmIn Tt w t v) (hb : blk t ≤ 20000) (ot by_ : Int) : Calls Tryz.prog 25 #[v, .int .i64 ot, .int .i64 by_] w fun e w' => e = .returned (.int .i64 (wrL ot by_ t)) ∧ Below w.heap.size w w' := by
  obtain ⟨ra, rc, ka, kc, sa, sc, rfl, ht⟩ := hv.form
  obtain ⟨w1, hw1⟩ : ∃ W, W = w.alloc (.cells #[.int .i64 t.kind, .int .i64 t.n, .string t.name, .slice ra t.r.length rc, .slice ka t.kids.length kc, .slice sa t.sys.length sc] 26) := ⟨_, rfl⟩
  have b1 : Below w.heap.size w w1 := by rw [hw1]; exact belowA _ _
  obtain ⟨_, y0, y1, y2, y3, y4, y5⟩ : Cs6 w1 w.heap.size 0 t ra rc ka kc sa sc := by rw [hw1]; exact cs6_new w t ra rc ka kc sa sc
  simp only [Nat.zero_add] at y1 y2 y3 y4 y5
  have cc := formed_any t _ w1 (ht.blw b1).value hb
  have HA : Hid (wrL ot by_ t = if wrongN true 0 0 t = 0 then (if ot < 0 ∨ by_ < 0 ∨ 1000000 < by_ then 2 else 0) else ((wrongN true 0 0 t : Nat) : Int)) := (rfl : _ = _)
  obtain ⟨f, hf⟩ : ∃ f, f = wrongN true 0 0 t := ⟨_, rfl⟩
  rw [← hf] at cc HA
  have HW : Hid (_ = _) := hw1
  clear hw1 hf hv ht
  go_enter Tryz.func25, Tryz.ntmps25
  go_upto_region 1 with fail
  rw [← HW.out]
  clear HW
  go_wp2_with fail
  refine cc.mono ?_
  rintro e w2 ⟨rfl, b2⟩
  have b12 := bchain b1 b2
  clear cc y0 y1 y2 y3 y4 y5
  by_cases h0 : f = 0
  · subst h0
    rw [if_pos rfl] at HA
    by_cases h1 : ot < 0
    · have HR : Hid (wrL ot by_ t = 2) := (by rw [HA.out, if_pos (.inl h1)] : _ = _)
      go_wp2_with fail
      go_ret
      exact ⟨by rw [HR.out]; rfl, b12⟩
    · by_cases h2 : by_ < 0
      · have HR : Hid (wrL ot by_ t = 2) := (by rw [HA.out, if_pos (.inr (.inl h2))] : _ = _)
        go_wp2_with fail
        go_ret
        exact ⟨by rw [HR.out]; rfl, b12⟩
      · by_cases h3 : 1000000 < by_
        · have HR : Hid (wrL ot by_ t = 2) := (by rw [HA.out, if_pos (.inr (.inr h3))] : _ = _)
          go_wp2_with fail
          go_ret
          exact ⟨by rw [HR.out]; rfl, b12⟩
        · have HR : Hid (wrL ot by_ t = 0) := (by rw [HA.out, if_neg (by omega)] : _ = _)
          go_wp2_with fail
          go_ret
          exact ⟨by rw [HR.out]; rfl, b12⟩
  · have HR : Hid (wrL ot by_ t = (f : Int)) := (by rw [HA.out, if_neg h0] : _ = _)
    have h01 : ((f : Int) == 0) = false := by simp; omega
    have h02 : ¬ (f : Int) = 0 := by omega
    go_wp2_with fail
    go_ret
    exact ⟨by rw [HR.out]; rfl, b12⟩
/-- What is told, and why not. -/
def apE (e0 : Int) (s : Sf) (t : Tm) : Int := if e0 = 0 then erT s t 0 0 else e0
def apT (e0 : Int) (s : Sf) (t : Tm) : Tm := if e0 = 0 then ansL s t else zeroT
def varsE (fr by_ : Int) (t : Tm) : Int := apE (wrL fr by_ t) ⟨fr, by_, 0, 0⟩ t
def varsT (fr by_ : Int) (t : Tm) : Tm := apT (wrL fr by_ t) ⟨fr, by_, 0, 0⟩ t
def dimsE (fr by_ : Int) (t : Tm) : Int := apE (wrL fr by_ t) ⟨0, 0, fr, by_⟩ t
def dimsT (fr by_ : Int) (t : Tm) : Tm := apT (wrL fr by_ t) ⟨0, 0, fr, by_⟩ t
def LAll : Prop := ∀ s : Sf, s.ok → ∀ N, LfC s N
set_option maxRecDepth 100000 in
set_option maxHeartbeats 4000000 in
theorem ldims_any (hLA : LAll) (t : Tm) (v : Value) (w : World) (hv : TmIn Tt w t v) (hb : blk t ≤ 20000) (fr by_ : Int) (hfr : I64 fr) :
    Calls Tryz.prog 11 #[v, .int .i64 fr, .int .i64 by_] w fun e w' => ∃ v', e = .returned (.tuple #[v', .int .i64 (dimsE fr by_ t)]) ∧ TmIn (OkN w.heap.size w') w' (dimsT fr by_ t) v' ∧ Below w.heap.size w w' := by
  obtain ⟨ra, rc, ka, kc, sa, sc, rfl, ht⟩ := hv.form
  obtain ⟨w1, hw1⟩ : ∃ W, W = (w.alloc (.cells #[.int .i64 t.kind, .int .i64 t.n, .string t.name, .slice ra t.r.length rc, .slice ka t.kids.length kc, .slice sa t.sys.length sc] 26)).alloc (.cells #[.int .i64 0, .int .i64 0, .string ⟨#[]⟩, .slice none 0 0, .slice none 0 0, .slice none 0 0] 26) := ⟨_, rfl⟩
  have b1 : Below w.heap.size w w1 := by rw [hw1]; exact bchain (belowA _ _) (belowA _ _)
  obtain ⟨X, hX⟩ : ∃ X, X = w.heap.size := ⟨_, rfl⟩
  have s1 : w1.heap.size = X + 2 := by rw [hw1, hX]; simp
  have x1 : Six w1 X (.int .i64 t.kind) (.int .i64 t.n) (.string t.name) (.slice ra t.r.length rc) (.slice ka t.kids.length kc) (.slice sa t.sys.length sc) := ⟨by rw [hX, hw1]; exact (Below.heap_alloc _ _ _ (by simp)).trans (heapNew w _)⟩
  have x2 : Six w1 (X + 1) (.int .i64 0) (.int .i64 0) (.string ⟨#[]⟩) (.slice none 0 0) (.slice none 0 0) (.slice none 0 0) := ⟨by
    rw [hX, hw1]; have := heapNew (w.alloc (.cells #[.int .i64 t.kind, .int .i64 t.n, .string t.name, .slice ra t.r.length rc, .slice ka t.kids.length kc, .slice sa t.sys.length sc] 26)) (.cells #[.int .i64 0, .int .i64 0, .string ⟨#[]⟩, .slice none 0 0, .slice none 0 0, .slice none 0 0] 26); rwa [World.size_alloc] at this⟩
  have HC : Hid (∀ W, Below w1.heap.size w1 W → Six W X (.int .i64 t.kind) (.int .i64 t.n) (.string t.name) (.slice ra t.r.length rc) (.slice ka t.kids.length kc) (.slice sa t.sys.length sc)) := fun W q => x1.blw q
  have HZ : Hid (∀ W, Below w1.heap.size w1 W → Six W (X + 1) (.int .i64 0) (.int .i64 0) (.string ⟨#[]⟩) (.slice none 0 0) (.slice none 0 0) (.slice none 0 0)) := fun W q => x2.blw q
  have HT : Hid (∀ W, Below w1.heap.size w1 W → TmIn Tt W t (.agg #[.int .i64 t.kind, .int .i64 t.n, .string t.name, .slice ra t.r.length rc, .slice ka t.kids.length kc, .slice sa t.sys.length sc])) := fun W q => ((ht.blw b1).blw q).value
  have HB : Hid (∀ W, Below w1.heap.size w1 W → Below X w W) := fun W q => by rw [hX]; exact bchain b1 q
  have HXs : Hid (X = w.heap.size) := hX
  have Hs1 : Hid (w1.heap.size = X + 2) := s1
  have HW : Hid (_ = _) := hw1
  have cw := lwrong_any t _ w1 (HT.out w1 (Below.refl _ _)) hb fr by_
  have HE : Hid (dimsE fr by_ t = apE (wrL fr by_ t) ⟨0, 0, fr, by_⟩ t ∧ dimsT fr by_ t = apT (wrL fr by_ t) ⟨0, 0, fr, by_⟩ t) := ⟨rfl, rfl⟩
  have HOk : Hid (wrL fr by_ t = 0 → (Sf.mk 0 0 fr by_).ok ∧ Fm t) := fun h => by
    unfold wrL at h
    split at h
    · rename_i h1
      split at h
      · cases h
      · rename_i h2
        exact ⟨by unfold I64 at hfr; refine ⟨?_, ?_, ?_, ?_, ?_, ?_, ?_, ?_⟩ <;> dsimp only <;> omega, fm_of_wrong h1⟩
    · omega
  obtain ⟨e0, he0⟩ : ∃ e, e = wrL fr by_ t := ⟨_, rfl⟩
  rw [← he0] at cw HE HOk
  rw [HE.out.1, HE.out.2]
  clear he0
  have HA : Hid (apE e0 ⟨0, 0, fr, by_⟩ t = (if e0 = 0 then erT ⟨0, 0, fr, by_⟩ t 0 0 else e0) ∧ apT e0 ⟨0, 0, fr, by_⟩ t = (if e0 = 0 then ansL ⟨0, 0, fr, by_⟩ t else zeroT)) := ⟨rfl, rfl⟩
  rw [← hX]
  clear hw1 hX s1 x1 x2 hv ht b1
  go_enter Tryz.func11, Tryz.ntmps11
  go_upto_region 1 with fail
  rw [← HW.out]
  simp only [← HXs.out]
  clear HW
  obtain ⟨y0, y1, y2, y3, y4, y5, _⟩ := (HC.out w1 (Below.refl _ _)).cells
  go_wp2_with fail
  refine cw.mono ?_
  rintro e w2 ⟨rfl, b2⟩
  clear cw y0 y1 y2 y3 y4 y5
  by_cases hz : e0 = 0
  · subst hz
    obtain ⟨hok, hfm⟩ := HOk.out rfl
    have ct := lterm_any (hLA _ hok) t _ w2 (HT.out w2 b2) hfm (by omega)
    obtain ⟨y0, y1, y2, y3, y4, y5, _⟩ := (HC.out w2 b2).cells
    obtain ⟨er, her⟩ : ∃ e, e = erT ⟨0, 0, fr, by_⟩ t 0 0 := ⟨_, rfl⟩
    obtain ⟨T, hT⟩ : ∃ T, T = ansL ⟨0, 0, fr, by_⟩ t := ⟨_, rfl⟩
    rw [← her, ← hT] at ct
    dsimp only at ct
    have Hf : Hid (apE 0 ⟨0, 0, fr, by_⟩ t = er ∧ apT 0 ⟨0, 0, fr, by_⟩ t = T) := ⟨by rw [HA.out.1, if_pos rfl, her], by rw [HA.out.2, if_pos rfl, hT]⟩
    clear her hT HA HE HOk hok hfm hLA
    go_wp2_with fail
    refine ct.mono ?_
    rintro e w3 ⟨v3, rfl, hv3, b3⟩
    clear ct y0 y1 y2 y3 y4 y5
    obtain ⟨ra2, rc2, ka2, kc2, sa2, sc2, rfl, ht2⟩ := hv3.form
    have htv := ht2.value
    have hsz := Hs1.out
    have hs2 := b2.size
    have b23 := bchain b2 b3
    clear ht2 hv3
    have zz := HZ.out w3 b23
    have zz2 := zz.set6 (.int .i64 T.kind) (.int .i64 T.n) (.string T.name) (.slice ra2 T.r.length rc2) (.slice ka2 T.kids.length kc2) (.slice sa2 T.sys.length sc2)
    obtain ⟨o0, o1, o2, o3, o4, o5, ff⟩ := zz.cells
    have f0 := ff 0
    have f1 := ff 1
    have f2 := ff 2
    have f3 := ff 3
    have f4 := ff 4
    have f5 := ff 5
    obtain ⟨h0, h1, h2, h3, h4, h5, _⟩ := zz2.cells
    obtain ⟨wz, hwz⟩ : ∃ W, W = (((((w3.setCell ⟨X + 1, 0, none⟩ (.int .i64 T.kind)).setCell ⟨X + 1, 1, none⟩ (.int .i64 T.n)).setCell ⟨X + 1, 2, none⟩ (.string T.name)).setCell ⟨X + 1, 3, none⟩ (.slice ra2 T.r.length rc2)).setCell ⟨X + 1, 4, none⟩ (.slice ka2 T.kids.length kc2)).setCell ⟨X + 1, 5, none⟩ (.slice sa2 T.sys.length sc2) := ⟨_, rfl⟩
    rw [← hwz] at h0 h1 h2 h3 h4 h5
    have kz : Kn (fun q => q ≠ X + 1) w3 wz := by rw [hwz]; exact (((((kn_set _ _ _ _).trans (kn_set _ _ _ _)).trans (kn_set _ _ _ _)).trans (kn_set _ _ _ _)).trans (kn_set _ _ _ _)).trans (kn_set _ _ _ _)
    have bz : Below X w wz := (HB.out w3 b23).trans (kz.below (fun q hq => by omega) (by have := (HB.out w3 b23).size; have := HXs.out; omega))
    have HTm : Hid (TmIn (OkN X wz) wz T (.agg #[.int .i64 T.kind, .int .i64 T.n, .string T.name, .slice ra2 T.r.length rc2, .slice ka2 T.kids.length kc2, .slice sa2 T.sys.length sc2])) := htv.keep kz.size (fun q hq => (hq.same (kz.block q (by have := hq.1; omega) hq.lt)).mono (by omega)) (fun q hq hs => kz.block q (by have := hq.1; omega) hs)
    have Hwz : Hid (_ = _) := hwz
    clear hwz ff zz zz2 kz htv
    go_wp2_with fail
    rw [← Hwz.out]
    exact bodyPost_ret (v := .tuple #[.agg #[.int .i64 T.kind, .int .i64 T.n, .string T.name, .slice ra2 T.r.length rc2, .slice ka2 T.kids.length kc2, .slice sa2 T.sys.length sc2], .int .i64 (er)]) (by simp only [results, Tryz.results11]; simp [go_sem, h0, h1, h2, h3, h4, h5]) rfl ⟨_, by rw [Hf.out.1], by rw [Hf.out.2]; exact HTm.out, bz⟩
  · have Hf : Hid (apE e0 ⟨0, 0, fr, by_⟩ t = e0 ∧ apT e0 ⟨0, 0, fr, by_⟩ t = zeroT) := ⟨by rw [HA.out.1, if_neg hz], by rw [HA.out.2, if_neg hz]⟩
    have hz1 : (e0 == 0) = false := by simpa using hz
    have hsz := Hs1.out
    clear HA HE HOk hLA
    have zz := HZ.out w2 b2
    have zz2 := zz.set6 (.int .i64 0) (.int .i64 0) (.string ⟨#[]⟩) (.slice none 0 0) (.slice none 0 0) (.slice none 0 0)
    obtain ⟨o0, o1, o2, o3, o4, o5, ff⟩ := zz.cells
    have f0 := ff 0
    have f1 := ff 1
    have f2 := ff 2
    have f3 := ff 3
    have f4 := ff 4
    have f5 := ff 5
    obtain ⟨h0, h1, h2, h3, h4, h5, _⟩ := zz2.cells
    obtain ⟨wz, hwz⟩ : ∃ W, W = (((((w2.setCell ⟨X + 1, 0, none⟩ (.int .i64 0)).setCell ⟨X + 1, 1, none⟩ (.int .i64 0)).setCell ⟨X + 1, 2, none⟩ (.string ⟨#[]⟩)).setCell ⟨X + 1, 3, none⟩ (.slice none 0 0)).setCell ⟨X + 1, 4, none⟩ (.slice none 0 0)).setCell ⟨X + 1, 5, none⟩ (.slice none 0 0) := ⟨_, rfl⟩
    rw [← hwz] at h0 h1 h2 h3 h4 h5
    have kz : Kn (fun q => q ≠ X + 1) w2 wz := by rw [hwz]; exact (((((kn_set _ _ _ _).trans (kn_set _ _ _ _)).trans (kn_set _ _ _ _)).trans (kn_set _ _ _ _)).trans (kn_set _ _ _ _)).trans (kn_set _ _ _ _)
    have bz : Below X w wz := (HB.out w2 b2).trans (kz.below (fun q hq => by omega) (by have := (HB.out w2 b2).size; have := HXs.out; omega))
    have Hwz : Hid (_ = _) := hwz
    clear hwz ff zz zz2 kz
    go_wp2_with fail
    rw [← Hwz.out]
    exact bodyPost_ret (v := .tuple #[.agg #[.int .i64 0, .int .i64 0, .string ⟨#[]⟩, .slice none 0 0, .slice none 0 0, .slice none 0 0], .int .i64 (e0)]) (by simp only [results, Tryz.results11]; simp [go_sem, h0, h1, h2, h3, h4, h5]) rfl ⟨_, by rw [Hf.out.1], by rw [Hf.out.2]; exact zeroT_in _ _, bz⟩
end Go.Proofs.YtjimednocmdpnaaGreat

namespace Go.Proofs.YtjimednocmdpnaaGreat
open Go.RowKit
set_option linter.unusedVariables false
set_option linter.unusedSimpArgs false

def sf (a b : Int) : Sf := ⟨0, a, 0, b⟩
theorem map_congr_mem {α β : Type} {f g : α → β} {l : List α} (h : ∀ x ∈ l, f x = g x) : l.map f = l.map g := List.map_congr_left h
theorem zip_mem {l : List Tm} {p : Tm × Nat} (h : p ∈ l.zipIdx) : p.1 ∈ l := List.mem_of_getElem? (List.mem_zipIdx_iff_getElem?.1 h)
theorem zip_zip {β : Type} (l : List Tm) (g : Tm × Nat → Tm) (f : Tm × Nat → β) : ((l.zipIdx.map g).zipIdx.map f) = l.zipIdx.map fun p => f (g p, p.2) := by
  refine List.ext_getElem? fun i => ?_
  simp only [List.getElem?_map, List.getElem?_zipIdx]
  cases l[i]? <;> simp
theorem row_row {a b c d : Int} (h : b = 0 ∨ d = 0) (bd : Nat) (r : List C) : rowP (sf c d) bd (rowP (sf a b) bd r).1 = (if d = 0 then ((rowP (sf a b) bd r).1, 0) else rowP (sf a d) bd r) := by
  by_cases hd : d = 0
  · rw [if_pos hd]; exact rowP_zero (s := sf c d) hd bd _
  · rw [if_neg hd, rowP_zero (s := sf a b) (h.resolve_right hd)]
    rfl
theorem row_sum {a b c d : Int} (h : b = 0 ∨ d = 0) (bd : Nat) (r : List C) : (rowP (sf c d) bd (rowP (sf a b) bd r).1).1 = (rowP (sf (a + c) (b + d)) bd r).1 := by
  rw [row_row h]
  by_cases hd : d = 0
  · rw [if_pos hd, hd, Int.add_zero]; rfl
  · rw [if_neg hd, h.resolve_right hd, Int.zero_add]; rfl
theorem numV_sf (a b : Int) (bv : Nat) (k n : Int) : numV (sf a b) bv k n = if k = 1 ∧ 0 ≤ n - (bv : Int) then n + a else n := by
  have e : farB (sf a b) bv k n ↔ (k = 1 ∧ 0 ≤ n - (bv : Int)) := Iff.rfl
  unfold numV
  by_cases h : farB (sf a b) bv k n
  · rw [if_pos h, if_pos (e.1 h)]; rfl
  · rw [if_neg h, if_neg (fun g => h (e.2 g))]
theorem numE_sf (a b : Int) (bv : Nat) (k n : Int) : numE (sf a b) bv k n = if (k = 1 ∧ 0 ≤ n - (bv : Int)) ∧ 1000000000 - a < n then 100 else 0 := by
  have e : (farB (sf a b) bv k n ∧ 1000000000 - (sf a b).vb < n) ↔ ((k = 1 ∧ 0 ≤ n - (bv : Int)) ∧ 1000000000 - a < n) := Iff.rfl
  unfold numE
  by_cases h : farB (sf a b) bv k n ∧ 1000000000 - (sf a b).vb < n
  · rw [if_pos h, if_pos (e.1 h)]
  · rw [if_neg h, if_neg (fun g => h (e.2 g))]
theorem num_num {a b c d : Int} (ha : 0 ≤ a) (bv : Nat) (k n : Int) : numV (sf c d) bv k (numV (sf a b) bv k n) = numV (sf (a + c) (b + d)) bv k n := by
  rw [numV_sf, numV_sf, numV_sf]
  by_cases h1 : k = 1 ∧ 0 ≤ n - (bv : Int)
  · simp only [if_pos h1]; rw [if_pos ⟨h1.1, by omega⟩]; omega
  · simp only [if_neg h1]
theorem numE_num {a b c d e : Int} (ha : 0 ≤ a) (bv : Nat) (k n : Int) : numE (sf c d) bv k (numV (sf a b) bv k n) = numE (sf (a + c) e) bv k n := by
  rw [numE_sf, numE_sf, numV_sf]
  by_cases h1 : k = 1 ∧ 0 ≤ n - (bv : Int)
  · simp only [if_pos h1]
    by_cases h3 : 1000000000 - (a + c) < n
    · rw [if_pos ⟨⟨h1.1, by omega⟩, by omega⟩, if_pos ⟨h1, h3⟩]
    · rw [if_neg (fun h => h3 (by omega)), if_neg (fun h => h3 h.2)]
  · simp only [if_neg h1]
    rw [if_neg (fun h => h1 h.1), if_neg (fun h => h1 h.1)]
/-- One lift, and then another. -/
theorem li_li {a b c d : Int} (ha : 0 ≤ a) (h : b = 0 ∨ d = 0) : ∀ (n : Nat) (t : Tm) (bv bd : Nat), blk t ≤ n → liT (sf c d) (liT (sf a b) t bv bd) bv bd = liT (sf (a + c) (b + d)) t bv bd
  | 0, t, bv, bd, hn => by have := blk_pos t; omega
  | n + 1, t, bv, bd, hn => by
    rw [li_eq (sf c d), li_eq (sf (a + c) (b + d)), li_eq (sf a b)]
    dsimp only
    rw [num_num ha, row_sum h]
    congr 1
    · unfold liK
      rw [zip_zip]
      exact map_congr_mem fun p hp => li_li ha h n p.1 _ _ (by have := blk_kid (zip_mem hp); omega)
    · rw [List.map_map]
      refine map_congr_mem fun x hx => ?_
      show liB _ _ (liB _ _ x _ _) _ _ = _
      unfold liB
      dsimp only
      rw [row_sum h, List.map_map]
      congr 1
      exact map_congr_mem fun y hy => li_li ha h n y _ _ (by have := blk_sub hx hy; omega)
/-- What is refused of a term that was lifted. -/
theorem er_li {a b c d : Int} (ha : 0 ≤ a) (h : b = 0 ∨ d = 0) : ∀ (n : Nat) (t : Tm) (bv bd : Nat), blk t ≤ n → erT (sf c d) (liT (sf a b) t bv bd) bv bd = erT (sf (a + c) d) t bv bd
  | 0, t, bv, bd, hn => by have := blk_pos t; omega
  | n + 1, t, bv, bd, hn => by
    have row2 : ∀ r, (rowP (sf c d) bd (rowP (sf a b) bd r).1).2 = (rowP (sf (a + c) d) bd r).2 := fun r => by
      rw [row_row h]
      by_cases hd : d = 0
      · rw [if_pos hd, rowP_zero (s := sf (a + c) d) hd]
      · rw [if_neg hd]; rfl
    rw [er_eq (sf c d), er_eq (sf (a + c) d), li_eq (sf a b)]
    dsimp only
    rw [numE_num (e := d) ha, row2]
    congr 3
    congr 1
    · unfold erK liK
      rw [zip_zip]
      exact map_congr_mem fun p hp => er_li ha h n p.1 _ _ (by have := blk_kid (zip_mem hp); omega)
    · rw [List.map_map]
      refine map_congr_mem fun x hx => ?_
      show erB _ _ (liB _ _ x _ _) _ _ = _
      unfold erB liB
      dsimp only
      rw [row2, List.map_map]
      congr 2
      exact map_congr_mem fun y hy => er_li ha h n y _ _ (by have := blk_sub hx hy; omega)
theorem li_zero : ∀ (n : Nat) (t : Tm) (bv bd : Nat), blk t ≤ n → liT (sf 0 0) t bv bd = t
  | 0, t, bv, bd, hn => by have := blk_pos t; omega
  | n + 1, t, bv, bd, hn => by
    rw [li_eq, rowP_zero (s := sf 0 0) rfl]
    have e1 : numV (sf 0 0) bv t.kind t.n = t.n := by rw [numV_sf]; split <;> omega
    have e2 : liK (sf 0 0) t.kind t.kids bv bd = t.kids := by
      unfold liK
      have : t.kids.zipIdx.map (fun p => liT (sf 0 0) p.1 (bv + bvK t.kind p.2) (bd + bdK t.kind p.2)) = t.kids.zipIdx.map Prod.fst := map_congr_mem fun p hp => li_zero n p.1 _ _ (by have := blk_kid (zip_mem hp); omega)
      rw [this]
      refine List.ext_getElem? fun i => ?_
      simp only [List.getElem?_map, List.getElem?_zipIdx]
      cases t.kids[i]? <;> simp
    have e3 : (t.sys.map fun b => liB (sf 0 0) t.kind b bv bd) = t.sys := by
      have : (t.sys.map fun b => liB (sf 0 0) t.kind b bv bd) = t.sys.map id := map_congr_mem fun b hb => by
        unfold liB
        rw [rowP_zero (s := sf 0 0) rfl]
        have : (b.2.map fun x => liT (sf 0 0) x bv (bd + moreK t.kind)) = b.2.map id := map_congr_mem fun x hx => li_zero n x _ _ (by have := blk_sub hb hx; omega)
        rw [this]; simp
      rw [this]; simp
    rw [e1, e2, e3]
    cases t
    rfl
/-- No number is refused: what is refused hangs on the rows alone. -/
theorem er_rows {a1 a2 b : Int} : ∀ (n : Nat) (t : Tm) (bv bd : Nat), blk t ≤ n → erT (sf a1 0) t bv bd = 0 → erT (sf a2 0) t bv bd = 0 → erT (sf a1 b) t bv bd = erT (sf a2 b) t bv bd
  | 0, t, bv, bd, hn, _, _ => by have := blk_pos t; omega
  | n + 1, t, bv, bd, hn, h1, h2 => by
    rw [er_eq, firstE_zero] at h1 h2
    rw [er_eq (sf a1 b), er_eq (sf a2 b)]
    have n1 : numE (sf a1 b) bv t.kind t.n = 0 := (by rw [numE_sf]; have := h1 (numE (sf a1 0) bv t.kind t.n) (by simp); rw [numE_sf] at this; exact this)
    have n2 : numE (sf a2 b) bv t.kind t.n = 0 := (by rw [numE_sf]; have := h2 (numE (sf a2 0) bv t.kind t.n) (by simp); rw [numE_sf] at this; exact this)
    rw [n1, n2]
    congr 3
    congr 1
    · unfold erK
      refine map_congr_mem fun p hp => er_rows n p.1 _ _ (by have := blk_kid (zip_mem hp); omega) (h1 _ ?_) (h2 _ ?_)
      · simp only [List.mem_cons, List.mem_append]; right; right; left; exact List.mem_map.2 ⟨p, hp, rfl⟩
      · simp only [List.mem_cons, List.mem_append]; right; right; left; exact List.mem_map.2 ⟨p, hp, rfl⟩
    · refine map_congr_mem fun x hx => ?_
      have g1 : erB (sf a1 0) t.kind x bv bd = 0 := h1 _ (by simp only [List.mem_cons, List.mem_append]; right; right; right; exact List.mem_map.2 ⟨x, hx, rfl⟩)
      have g2 : erB (sf a2 0) t.kind x bv bd = 0 := h2 _ (by simp only [List.mem_cons, List.mem_append]; right; right; right; exact List.mem_map.2 ⟨x, hx, rfl⟩)
      unfold erB at g1 g2 ⊢
      rw [firstE_zero] at g1 g2
      congr 2
      exact map_congr_mem fun y hy => er_rows n y _ _ (by have := blk_sub hx hy; omega) (g1 _ (by simp only [List.mem_cons]; right; exact List.mem_map.2 ⟨y, hy, rfl⟩)) (g2 _ (by simp only [List.mem_cons]; right; exact List.mem_map.2 ⟨y, hy, rfl⟩))
/-- What is refused for its numbers by less is refused by more. -/
theorem er_mono {a c : Int} (hc : 0 ≤ c) : ∀ (n : Nat) (t : Tm) (bv bd : Nat), blk t ≤ n → erT (sf (a + c) 0) t bv bd = 0 → erT (sf a 0) t bv bd = 0
  | 0, t, bv, bd, hn, _ => by have := blk_pos t; omega
  | n + 1, t, bv, bd, hn, h1 => by
    rw [er_eq, firstE_zero] at h1 ⊢
    intro x hx
    simp only [List.mem_cons, List.mem_append] at hx
    rcases hx with rfl | rfl | hx | hx
    · have := h1 (numE (sf (a + c) 0) bv t.kind t.n) (by simp)
      rw [numE_sf] at this ⊢
      split
      · rename_i h
        rw [if_pos ⟨h.1, by omega⟩] at this
        omega
      · rfl
    · rw [rowP_zero (s := sf a 0) rfl]
    · obtain ⟨p, hp, rfl⟩ := List.mem_map.1 hx
      exact er_mono hc n p.1 _ _ (by have := blk_kid (zip_mem hp); omega) (h1 _ (by simp only [List.mem_cons, List.mem_append]; right; right; left; exact List.mem_map.2 ⟨p, hp, rfl⟩))
    · obtain ⟨b, hb, rfl⟩ := List.mem_map.1 hx
      have g1 : erB (sf (a + c) 0) t.kind b bv bd = 0 := h1 _ (by simp only [List.mem_cons, List.mem_append]; right; right; right; exact List.mem_map.2 ⟨b, hb, rfl⟩)
      unfold erB at g1 ⊢
      rw [firstE_zero] at g1 ⊢
      intro y hy
      rcases List.mem_cons.1 hy with rfl | hy
      · rw [rowP_zero (s := sf a 0) rfl]
      · obtain ⟨z, hz, rfl⟩ := List.mem_map.1 hy
        exact er_mono hc n z _ _ (by have := blk_sub hb hz; omega) (g1 _ (by simp only [List.mem_cons]; right; exact List.mem_map.2 ⟨z, hz, rfl⟩))
/-- A variable that is too great for every lift. -/
def farT : Tm → Bool := Tm.fold fun k n _ _ ks sys => decide (k = 1 ∧ 1000000000 < n) || ks.any id || sys.any fun b => b.2.any id
theorem far_eq (t : Tm) : farT t = (decide (t.kind = 1 ∧ 1000000000 < t.n) || t.kids.any farT || t.sys.any fun b => b.2.any farT) := by
  unfold farT
  rw [fold_mk]
  simp only [List.any_map, Function.comp_def, id]
theorem er_far : ∀ (n : Nat) (t : Tm) (bv bd : Nat), blk t ≤ n → erT (sf 0 0) t bv bd = 0 ∨ (erT (sf 0 0) t bv bd = 100 ∧ farT t = true)
  | 0, t, bv, bd, hn => by have := blk_pos t; omega
  | n + 1, t, bv, bd, hn => by
    by_cases h0 : erT (sf 0 0) t bv bd = 0
    · exact .inl h0
    · right
      rw [er_eq] at h0 ⊢
      have hm := firstE_mem h0
      rw [far_eq]
      simp only [List.mem_cons, List.mem_append] at hm
      rcases hm with e | e | hm | hm
      · rw [e] at h0 ⊢
        rw [numE_sf] at h0 ⊢
        split at h0
        · rename_i h
          rw [if_pos h]
          refine ⟨rfl, ?_⟩
          have : decide (t.kind = 1 ∧ 1000000000 < t.n) = true := by simp; exact ⟨h.1.1, by omega⟩
          rw [this]; rfl
        · exact absurd rfl h0
      · rw [rowP_zero (s := sf 0 0) rfl] at e; exact absurd e h0
      · obtain ⟨p, hp, e⟩ := List.mem_map.1 hm
        rw [← e] at h0 ⊢
        rcases er_far n p.1 (bv + bvK t.kind p.2) (bd + bdK t.kind p.2) (by have := blk_kid (zip_mem hp); omega) with h | ⟨h, hf⟩
        · exact absurd h h0
        · refine ⟨h, ?_⟩
          have : t.kids.any farT = true := List.any_eq_true.2 ⟨p.1, zip_mem hp, hf⟩
          rw [this]; simp
      · obtain ⟨b, hb, e⟩ := List.mem_map.1 hm
        rw [← e] at h0 ⊢
        unfold erB at h0 ⊢
        have hm2 := firstE_mem h0
        rcases List.mem_cons.1 hm2 with e2 | hm2
        · rw [rowP_zero (s := sf 0 0) rfl] at e2; exact absurd e2 h0
        · obtain ⟨x, hx, e2⟩ := List.mem_map.1 hm2
          rw [← e2] at h0 ⊢
          rcases er_far n x bv (bd + moreK t.kind) (by have := blk_sub hb hx; omega) with h | ⟨h, hf⟩
          · exact absurd h h0
          · refine ⟨h, ?_⟩
            have : (t.sys.any fun b => b.2.any farT) = true := List.any_eq_true.2 ⟨b, hb, List.any_eq_true.2 ⟨x, hx, hf⟩⟩
            rw [this]; simp
end Go.Proofs.YtjimednocmdpnaaGreat

namespace Go.Proofs.YtjimednocmdpnaaGreat
open Go.RowKit
set_option linter.unusedVariables false
set_option linter.unusedSimpArgs false

theorem up_inj {fr by_ : Int} (hb : 0 ≤ by_) {a b : Nat} (h : upK fr by_ a = upK fr by_ b) : a = b := by
  rcases Nat.lt_trichotomy a b with h1 | h1 | h1
  · have := upK_lt (from_ := fr) hb h1; omega
  · exact h1
  · have := upK_lt (from_ := fr) hb h1; omega
theorem liftN_bit {s : Nat} {fr by_ : Int} (h : liftE s fr by_ = 0) (k : Nat) : (liftN s fr by_).testBit k = true → ∃ j ∈ dimsOf s, upK fr by_ j = k := by
  intro hk
  cases ha : argB fr by_ with
  | true => rw [(lift_arg ha).1] at hk; simp at hk
  | false =>
    cases hb : liftBad fr by_ (dimsOf s) with
    | true => rw [(lift_bad ha hb).1] at hk; simp at hk
    | false =>
      rw [(lift_ok ha hb).1] at hk
      have : k ∈ (dimsOf s).map (upK fr by_) := by rw [testBit_orAll] at hk; simpa using hk
      obtain ⟨j, hj, e⟩ := List.mem_map.1 this
      exact ⟨j, hj, e⟩
theorem okC_lift {c : C} {fr by_ : Int} (hb : 0 ≤ by_) (h : okC c = true) : okC (liftC c fr by_) = true := by
  unfold okC at *
  rw [Bool.not_eq_true', Bool.eq_false_iff] at *
  intro hc
  apply h
  rw [clashC_iff] at hc ⊢
  obtain ⟨k, hk, h1, h2⟩ := hc
  unfold liftC at h1 h2
  by_cases hr : rightC c = true ∧ liftE c.1.val fr by_ = 0 ∧ liftE c.2.val fr by_ = 0
  · rw [if_pos hr] at h1 h2
    obtain ⟨j1, m1, e1⟩ := liftN_bit hr.2.1 k h1
    obtain ⟨j2, m2, e2⟩ := liftN_bit hr.2.2 k h2
    obtain rfl := up_inj hb (e1.trans e2.symm)
    rw [mem_dimsOf] at m1 m2
    exact ⟨j1, m1.1, m1.2, m2.2⟩
  · rw [if_neg hr] at h1
    simp [cl00] at h1
theorem liftS_mem {fr by_ : Int} : ∀ (l : List C) (c : C), c ∈ (liftS l fr by_).1 → ∃ d ∈ l, c = liftC d fr by_ := by
  intro l
  induction l using snoc_ind with
  | nil => intro c hc; simp [liftS] at hc
  | snoc l d ih =>
    intro c hc
    rw [liftS_snoc] at hc
    unfold stepL at hc
    split at hc
    · split at hc
      · rcases List.mem_append.1 hc with hc | hc
        · obtain ⟨x, hx, e⟩ := ih c hc
          exact ⟨x, by simp [hx], e⟩
        · exact ⟨d, by simp, by simpa using hc⟩
      · simp at hc
    · obtain ⟨x, hx, e⟩ := ih c hc
      exact ⟨x, by simp [hx], e⟩
theorem rowP_right (s : Sf) (bd : Nat) {r : List C} (h : rightF r = true) : rightF (rowP s bd r).1 = true := by
  unfold rowP
  split
  · exact h
  · unfold liftFF
    rw [if_pos h]
    split
    · exact leastF_right _
    · exact rightF_nil
theorem rowP_rightA {s : Sf} (hs : 0 ≤ s.db) (bd : Nat) {r : List C} (h : rightA r = true) : rightA (rowP s bd r).1 = true := by
  unfold rowP
  split
  · exact h
  · unfold liftFF
    rw [if_pos (rightA_right h)]
    split
    · refine rightA_least fun c hc => ?_
      obtain ⟨d, hd, rfl⟩ := liftS_mem r c hc
      exact okC_lift hs ((rightA_iff.1 h).2 d hd)
    · exact rightA_nil
theorem depth_li {s : Sf} : ∀ (n : Nat) (t : Tm) (bv bd : Nat), blk t ≤ n → depthT (liT s t bv bd) = depthT t
  | 0, t, bv, bd, hn => by have := blk_pos t; omega
  | n + 1, t, bv, bd, hn => by
    have e := depth_eq (liT s t bv bd)
    rw [li_eq] at e
    rw [li_eq, e, depth_eq t]
    dsimp only
    have h2 : dpL (liK s t.kind t.kids bv bd) = dpL t.kids := by
      unfold dpL liK
      rw [List.map_map]
      have : t.kids.zipIdx.map (depthT ∘ fun p => liT s p.1 (bv + bvK t.kind p.2) (bd + bdK t.kind p.2)) = t.kids.zipIdx.map (fun p => depthT p.1) := map_congr_mem fun p hp => depth_li n p.1 _ _ (by have := blk_kid (zip_mem hp); omega)
      rw [this]
      congr 1
      refine List.ext_getElem? fun i => ?_
      simp only [List.getElem?_map, List.getElem?_zipIdx]
      cases t.kids[i]? <;> simp
    have h3 : dpS (t.sys.map fun b => liB s t.kind b bv bd) = dpS t.sys := by
      unfold dpS
      rw [List.map_map]
      congr 1
      refine map_congr_mem fun b hb => ?_
      show dpL (b.2.map fun x => liT s x bv (bd + moreK t.kind)) = dpL b.2
      unfold dpL
      rw [List.map_map]
      congr 1
      exact map_congr_mem fun x hx => depth_li n x _ _ (by have := blk_sub hb hx; omega)
    rw [h2, h3]
theorem ok_li {s : Sf} (hv : 0 ≤ s.vb) (hd : 0 ≤ s.db) : ∀ (n : Nat) (t : Tm) (bv bd bv' bd' : Nat), blk t ≤ n → okT true 0 0 t bv bd = true → okT true 0 0 (liT s t bv' bd') bv bd = true
  | 0, t, bv, bd, bv', bd', hn, h => by have := blk_pos t; omega
  | n + 1, t, bv, bd, bv', bd', hn, h => by
    have hc := li_eq s t bv' bd'
    rw [ok_eq, Bool.and_eq_true, List.all_eq_true] at h ⊢
    obtain ⟨h1, h2⟩ := h
    unfold Tm.node nodeB at h1 ⊢
    simp only [Bool.and_eq_true] at h1 ⊢
    obtain ⟨⟨⟨⟨⟨a1, a2⟩, a3⟩, a4⟩, a5⟩, a6⟩ := h1
    refine ⟨⟨⟨⟨⟨⟨a1, ?_⟩, ?_⟩, ?_⟩, ?_⟩, ?_⟩, ?_⟩
    · rw [hc]; dsimp only; rw [liK_len]; exact a2
    · rw [hc]; dsimp only
      unfold numB at a3 ⊢
      split
      · rename_i hk
        rw [if_pos hk] at a3
        simp only [Bool.and_eq_true, decide_eq_true_eq] at a3 ⊢
        refine ⟨?_, by simp⟩
        have : t.n ≤ numV s bv' t.kind t.n := by unfold numV; split <;> omega
        omega
      · rename_i hk
        rw [if_neg hk] at a3
        have : numV s bv' t.kind t.n = t.n := by
          unfold numV
          rw [if_neg (fun h => hk h.1)]
        rw [this]; exact a3
    · rw [hc]; exact a4
    · rw [hc]; dsimp only
      unfold rowB at a5 ⊢
      split
      · rename_i hk
        rw [if_pos hk] at a5
        simp only [Bool.and_eq_true] at a5 ⊢
        exact ⟨rowP_right s bd' a5.1, rfl⟩
      · rename_i hk
        rw [if_neg hk] at a5
        split
        · rename_i hk2
          rw [if_pos hk2] at a5
          simp only [Bool.and_eq_true] at a5 ⊢
          exact ⟨rowP_rightA hd bd' a5.1, rfl⟩
        · rename_i hk2
          rw [if_neg hk2] at a5
          simp only [decide_eq_true_eq] at a5 ⊢
          rw [List.length_eq_zero_iff.1 a5, rowP_nil1]; rfl
    · rw [hc]; dsimp only
      rw [List.all_eq_true] at a6 ⊢
      intro p hp
      rw [List.map_map] at hp
      obtain ⟨b, hb, rfl⟩ := List.mem_map.1 hp
      have := a6 (b.1, b.2.length) (List.mem_map.2 ⟨b, hb, rfl⟩)
      unfold brB at this ⊢
      simp only [Bool.and_eq_true] at this ⊢
      obtain ⟨⟨⟨c1, c2⟩, c3⟩, c4⟩ := this
      refine ⟨⟨⟨c1, ?_⟩, rowP_rightA hd bd' c3⟩, rfl⟩
      show decide (((b.2.map fun x => liT s x bv' (bd' + moreK t.kind)).length : Int) = partsK t.kind) = true
      rw [List.length_map]; exact c2
    · intro p hp
      rcases mem_pts hp with ⟨i, hi, e⟩ | ⟨b, hb, hx, e⟩
      · rw [hc] at hi e
        dsimp only at hi e
        obtain ⟨x, hx⟩ := someL (l := t.kids) (k := i) (by have := some_lt hi; rwa [liK_len] at this)
        rw [liK_get hx] at hi
        injection hi with hi
        rw [← hi, e]
        have := h2 _ (pts_kid hx)
        exact ok_li hv hd n x _ _ _ _ (by have := blk_kid (List.mem_of_getElem? hx); omega) this
      · rw [hc] at hb e
        dsimp only at hb e
        obtain ⟨c, hcm, rfl⟩ := List.mem_map.1 hb
        obtain ⟨x, hxm, e2⟩ := List.mem_map.1 hx
        rw [← e2, e]
        exact ok_li hv hd n x _ _ _ _ (by have := blk_sub hcm hxm; omega) (h2 _ (pts_sys hcm hxm))
theorem formed_li {s : Sf} (hv : 0 ≤ s.vb) (hd : 0 ≤ s.db) {t : Tm} (bv bd : Nat) (h : wrongN true 0 0 t = 0) : wrongN true 0 0 (liT s t bv bd) = 0 := by
  unfold wrongN at h ⊢
  rw [depth_li _ t bv bd (Nat.le_refl _)]
  split at h
  · cases h
  · rename_i h1
    rw [if_neg h1]
    split at h
    · rename_i h2; rw [if_pos (ok_li hv hd _ t 0 0 bv bd (Nat.le_refl _) h2)]
    · cases h
end Go.Proofs.YtjimednocmdpnaaGreat

namespace Go.Proofs.YtjimednocmdpnaaGreat
open Go.RowKit
set_option linter.unusedVariables false
set_option linter.unusedSimpArgs false

/-- From a place on by 1: variables; dimensions. -/
def sv (p : Int) : Sf := ⟨p, 1, 0, 0⟩
def sd (p : Int) : Sf := ⟨0, 0, p, 1⟩
theorem numV_sv (p : Int) (bv : Nat) (k n : Int) : numV (sv p) bv k n = if k = 1 ∧ p ≤ n - (bv : Int) then n + 1 else n := by
  have e : farB (sv p) bv k n ↔ (k = 1 ∧ p ≤ n - (bv : Int)) := Iff.rfl
  unfold numV
  by_cases h : farB (sv p) bv k n
  · rw [if_pos h, if_pos (e.1 h)]; rfl
  · rw [if_neg h, if_neg (fun g => h (e.2 g))]
theorem numE_sv (p : Int) (bv : Nat) (k n : Int) : numE (sv p) bv k n = if (k = 1 ∧ p ≤ n - (bv : Int)) ∧ 999999999 < n then 100 else 0 := by
  have e : (farB (sv p) bv k n ∧ 1000000000 - (sv p).vb < n) ↔ ((k = 1 ∧ p ≤ n - (bv : Int)) ∧ 999999999 < n) := by
    show (farB (sv p) bv k n ∧ (1000000000 : Int) - 1 < n) ↔ _
    unfold farB
    exact Iff.rfl
  unfold numE
  by_cases h : farB (sv p) bv k n ∧ 1000000000 - (sv p).vb < n
  · rw [if_pos h, if_pos (e.1 h)]
  · rw [if_neg h, if_neg (fun g => h (e.2 g))]
theorem numV_sd (p : Int) (bv : Nat) (k n : Int) : numV (sd p) bv k n = n := by
  unfold numV
  split
  · show n + 0 = n; omega
  · rfl
theorem ok_num {o : Bool} {V : Int} {D : Nat} {t : Tm} {bv bd : Nat} (h : okT o V D t bv bd = true) : numB o V bv t.kind t.n = true := by
  rw [ok_eq, Bool.and_eq_true] at h
  have h1 := h.1
  unfold Tm.node nodeB at h1
  simp only [Bool.and_eq_true] at h1
  exact h1.1.1.1.2
theorem ok_low {V : Int} {D : Nat} {t : Tm} {bv bd : Nat} (h : okT false V D t bv bd = true) (hV : V ≤ 1000) (hk : t.kind = 1) : t.n < 1000 + bv := by
  have := ok_num h
  unfold numB at this
  rw [if_pos hk] at this
  simp at this
  omega
theorem ok_kid {o : Bool} {V : Int} {D : Nat} {t : Tm} {bv bd i : Nat} {x : Tm} (h : okT o V D t bv bd = true) (hx : t.kids[i]? = some x) : okT o V D x (bv + bvK t.kind i) (bd + bdK t.kind i) = true := by
  rw [ok_eq, Bool.and_eq_true, List.all_eq_true] at h
  exact h.2 _ (pts_kid hx)
theorem ok_sub {o : Bool} {V : Int} {D : Nat} {t : Tm} {bv bd : Nat} {b : List C × List Tm} {x : Tm} (h : okT o V D t bv bd = true) (hb : b ∈ t.sys) (hx : x ∈ b.2) : okT o V D x bv (bd + moreK t.kind) = true := by
  rw [ok_eq, Bool.and_eq_true, List.all_eq_true] at h
  exact h.2 _ (pts_sys hb hx)
theorem er_sv {p V : Int} {D : Nat} (hV : V ≤ 1000) : ∀ (n : Nat) (t : Tm) (bv bd : Nat), blk t ≤ n → bv + blk t ≤ 1000000 → okT false V D t bv bd = true → erT (sv p) t bv bd = 0
  | 0, t, bv, bd, hn, _, h => by have := blk_pos t; omega
  | n + 1, t, bv, bd, hn, hb, h => by
    rw [er_eq, firstE_zero]
    intro e he
    simp only [List.mem_cons, List.mem_append] at he
    rcases he with rfl | rfl | he | he
    · rw [numE_sv, if_neg (fun g => by have := ok_low h hV g.1.1; omega)]
    · rw [rowP_zero (s := sv p) rfl]
    · obtain ⟨q, hq, rfl⟩ := List.mem_map.1 he
      have hx := List.mem_zipIdx_iff_getElem?.1 hq
      have := blk_kid (zip_mem hq)
      have := bvK_le t.kind q.2
      exact er_sv hV n q.1 _ _ (by omega) (by omega) (ok_kid h hx)
    · obtain ⟨b, hbm, rfl⟩ := List.mem_map.1 he
      unfold erB
      rw [firstE_zero]
      intro e he
      rcases List.mem_cons.1 he with rfl | he
      · rw [rowP_zero (s := sv p) rfl]
      · obtain ⟨x, hx, rfl⟩ := List.mem_map.1 he
        have := blk_sub hbm hx
        exact er_sv hV n x _ _ (by omega) (by omega) (ok_sub h hbm hx)
/-- The parts of what was lifted. -/
theorem pts_li {s : Sf} {t : Tm} {bv bd : Nat} {q : Tm × Nat × Nat} (h : q ∈ (liT s t bv bd).pts) : (∃ i x, t.kids[i]? = some x ∧ q = (liT s x (bv + bvK t.kind i) (bd + bdK t.kind i), bvK t.kind i, bdK t.kind i)) ∨ ∃ b ∈ t.sys, ∃ x ∈ b.2, q = (liT s x bv (bd + moreK t.kind), 0, moreK t.kind) := by
  have hc := li_eq s t bv bd
  rcases mem_pts h with ⟨i, hi, e⟩ | ⟨b, hb, hx, e⟩
  · rw [hc] at hi e
    dsimp only at hi e
    obtain ⟨x, hx⟩ := someL (l := t.kids) (k := i) (by have := some_lt hi; rwa [liK_len] at this)
    rw [liK_get hx] at hi
    injection hi with hi
    exact .inl ⟨i, x, hx, by rw [hi, ← e]⟩
  · rw [hc] at hb e
    dsimp only at hb e
    obtain ⟨c, hcm, rfl⟩ := List.mem_map.1 hb
    obtain ⟨x, hxm, e2⟩ := List.mem_map.1 hx
    exact .inr ⟨c, hcm, x, hxm, by rw [e2, ← e]⟩
theorem us_sv {p : Int} : ∀ (n : Nat) (t : Tm) (bv bd : Nat), blk t ≤ n → usT p (liT (sv p) t bv bd) bv = false
  | 0, t, bv, bd, hn => by have := blk_pos t; omega
  | n + 1, t, bv, bd, hn => by
    rw [us_eq, Bool.or_eq_false_iff]
    refine ⟨?_, ?_⟩
    · rw [li_eq]; dsimp only
      rw [numV_sv]
      by_cases hk : t.kind = 1
      · have : ¬ ((if t.kind = 1 ∧ p ≤ t.n - (bv : Int) then t.n + 1 else t.n) = p + (bv : Int)) := by split <;> omega
        simp [this]
      · simp [hk]
    · rw [Bool.eq_false_iff, ne_eq, List.any_eq_true]
      rintro ⟨q, hq, hu⟩
      rcases pts_li hq with ⟨i, x, hx, rfl⟩ | ⟨b, hb, x, hx, rfl⟩
      · dsimp only at hu
        rw [us_sv n x _ _ (by have := blk_kid (List.mem_of_getElem? hx); omega)] at hu
        cases hu
      · dsimp only [Nat.add_zero] at hu
        rw [us_sv n x _ _ (by have := blk_sub hb hx; omega)] at hu
        cases hu
theorem size_li {s : Sf} : ∀ (n : Nat) (t : Tm) (bv bd : Nat), blk t ≤ n → sizeT (liT s t bv bd) = sizeT t
  | 0, t, bv, bd, hn => by have := blk_pos t; omega
  | n + 1, t, bv, bd, hn => by
    have e := size_eq (liT s t bv bd)
    rw [li_eq] at e
    rw [li_eq, e, size_eq t]
    dsimp only
    have h2 : szL (liK s t.kind t.kids bv bd) = szL t.kids := by
      unfold szL liK
      rw [List.map_map]
      have : t.kids.zipIdx.map (sizeT ∘ fun p => liT s p.1 (bv + bvK t.kind p.2) (bd + bdK t.kind p.2)) = t.kids.zipIdx.map (fun p => sizeT p.1) := map_congr_mem fun p hp => size_li n p.1 _ _ (by have := blk_kid (zip_mem hp); omega)
      rw [this]
      congr 1
      refine List.ext_getElem? fun i => ?_
      simp only [List.getElem?_map, List.getElem?_zipIdx]
      cases t.kids[i]? <;> simp
    have h3 : szS (t.sys.map fun b => liB s t.kind b bv bd) = szS t.sys := by
      unfold szS
      rw [List.map_map]
      congr 1
      refine map_congr_mem fun b hb => ?_
      show szL (b.2.map fun x => liT s x bv (bd + moreK t.kind)) = szL b.2
      unfold szL
      rw [List.map_map]
      congr 1
      exact map_congr_mem fun x hx => size_li n x _ _ (by have := blk_sub hb hx; omega)
    rw [h2, h3]
/-- One variable more. -/
theorem ok_sv {p V : Int} {D : Nat} (hp : 0 ≤ p) : ∀ (n : Nat) (t : Tm) (bv bd : Nat), blk t ≤ n → okT false V D t bv bd = true → okT false (V + 1) D (liT (sv p) t bv bd) bv bd = true
  | 0, t, bv, bd, hn, h => by have := blk_pos t; omega
  | n + 1, t, bv, bd, hn, h => by
    have hc := li_eq (sv p) t bv bd
    have h' := h
    rw [ok_eq, Bool.and_eq_true, List.all_eq_true] at h ⊢
    obtain ⟨h1, h2⟩ := h
    unfold Tm.node nodeB at h1 ⊢
    simp only [Bool.and_eq_true] at h1 ⊢
    obtain ⟨⟨⟨⟨⟨a1, a2⟩, a3⟩, a4⟩, a5⟩, a6⟩ := h1
    refine ⟨⟨⟨⟨⟨⟨a1, ?_⟩, ?_⟩, ?_⟩, ?_⟩, ?_⟩, ?_⟩
    · rw [hc]; dsimp only; rw [liK_len]; exact a2
    · rw [hc]; dsimp only
      unfold numB at a3 ⊢
      rw [numV_sv]
      by_cases hk : t.kind = 1
      · rw [if_pos hk] at a3 ⊢
        simp at a3 ⊢
        split <;> omega
      · rw [if_neg hk] at a3 ⊢
        rw [if_neg (fun g => hk g.1)]
        exact a3
    · rw [hc]; exact a4
    · rw [hc]; dsimp only; rw [rowP_zero (s := sv p) rfl]; exact a5
    · rw [hc]; dsimp only
      have : ((t.sys.map fun b => liB (sv p) t.kind b bv bd).map fun b => (b.1, b.2.length)) = t.sys.map fun b => (b.1, b.2.length) := by
        rw [List.map_map]
        exact map_congr_mem fun b hb => by
          show ((rowP (sv p) bd b.1).1, (b.2.map fun x => liT (sv p) x bv (bd + moreK t.kind)).length) = _
          rw [rowP_zero (s := sv p) rfl, List.length_map]
      rw [this]; exact a6
    · intro q hq
      rcases pts_li hq with ⟨i, x, hx, rfl⟩ | ⟨b, hb, x, hx, rfl⟩
      · exact ok_sv hp n x _ _ (by have := blk_kid (List.mem_of_getElem? hx); omega) (ok_kid h' hx)
      · exact ok_sv hp n x _ _ (by have := blk_sub hb hx; omega) (ok_sub h' hb hx)
end Go.Proofs.YtjimednocmdpnaaGreat

namespace Go.Proofs.YtjimednocmdpnaaGreat
open Go.RowKit
set_option linter.unusedVariables false
set_option linter.unusedSimpArgs false

theorem rightC_lift (c : C) (fr by_ : Int) : rightC (liftC c fr by_) = true := by
  unfold liftC
  split
  · have h1 := liftN_lt c.1.val fr by_
    have h2 := liftN_lt c.2.val fr by_
    exact rightC_iff.2 ⟨h1, h2⟩
  · decide
theorem liftE_cases {s : Nat} {fr by_ : Int} (h1 : 0 ≤ fr) (h2 : 0 ≤ by_) : liftE s fr by_ = 0 ∨ liftE s fr by_ = 10 := by
  have ha : argB fr by_ = false := by unfold argB; simp; omega
  unfold liftE
  rw [ha]
  simp only [Bool.false_eq_true, if_false]
  split
  · exact .inr rfl
  · exact .inl rfl
theorem liftCE_cases {c : C} {fr by_ : Int} (h : rightC c = true) (h1 : 0 ≤ fr) (h2 : 0 ≤ by_) : liftCE c fr by_ = 0 ∨ liftCE c fr by_ = 10 := by
  unfold liftCE
  rw [if_pos h]
  split
  · exact liftE_cases h1 h2
  · rename_i hne
    exact .inr ((liftE_cases h1 h2).resolve_left hne)
theorem liftS_err {fr by_ : Int} (h1 : 0 ≤ fr) (h2 : 0 ≤ by_) : ∀ l : List C, (∀ c ∈ l, rightC c = true) → (liftS l fr by_).2 = 0 ∨ (liftS l fr by_).2 = 10 := by
  intro l
  induction l using snoc_ind with
  | nil => intro _; exact .inl rfl
  | snoc l d ih =>
    intro h
    rw [liftS_snoc]
    unfold stepL
    split
    · split
      · exact .inl rfl
      · rename_i hne; exact .inr ((liftCE_cases (h d (by simp)) h1 h2).resolve_left hne)
    · exact ih fun c hc => h c (by simp [hc])
theorem fr_ge (p : Int) (bd : Nat) (hp : 0 ≤ p) : 0 ≤ min p 24 + (bd : Int) := by omega
theorem row_err {p : Int} (hp : 0 ≤ p) (bd : Nat) {r : List C} (h : rightF r = true) : (rowP (sd p) bd r).2 = 0 ∨ (rowP (sd p) bd r).2 = 10 := by
  have e : rowP (sd p) bd r = liftFF r (min p 24 + bd) 1 := by unfold rowP; rw [if_neg (show ¬ (sd p).db = 0 from (by decide : ¬ (1 : Int) = 0))]; rfl
  rw [e]
  unfold liftFF
  rw [if_pos h]
  have ha : ∀ c ∈ r, rightC c = true := fun c hc => List.all_eq_true.1 (rightF_all h) c hc
  split
  · left
    rw [leastF_small (List.all_eq_true.2 fun c hc => by obtain ⟨d, _, rfl⟩ := liftS_mem r c hc; exact rightC_lift _ _ _) (Nat.le_trans (liftS_len r _ _) (rightF_len h))]
  · rename_i hne
    exact .inr ((liftS_err (fr_ge p bd hp) (by decide) r ha).resolve_left hne)
/-- The dimensions of a row that was lifted. -/
theorem row_in {p : Int} (bd : Nat) {r : List C} {k : Nat} (hk : inF (rowP (sd p) bd r).1 k = true) : ∃ j, j < 24 ∧ inF r j = true ∧ k = upK (min p 24 + bd) 1 j := by
  have e : rowP (sd p) bd r = liftFF r (min p 24 + bd) 1 := by unfold rowP; rw [if_neg (show ¬ (sd p).db = 0 from (by decide : ¬ (1 : Int) = 0))]; rfl
  rw [e] at hk
  unfold inF at hk
  obtain ⟨c, hc, hb⟩ := List.any_eq_true.1 hk
  have hm : ∃ d ∈ r, c = liftC d (min p 24 + bd) 1 := by
    unfold liftFF at hc
    by_cases h1 : rightF r = true
    · rw [if_pos h1] at hc
      by_cases h2 : (liftS r (min p 24 + ↑bd) 1).2 = 0
      · rw [if_pos h2] at hc
        exact liftS_mem r c (leastF_sub c hc)
      · rw [if_neg h2] at hc; simp at hc
    · rw [if_neg h1] at hc; simp at hc
  obtain ⟨d, hd, rfl⟩ := hm
  unfold liftC at hb
  by_cases hr : rightC d = true ∧ liftE d.1.val (min p 24 + bd) 1 = 0 ∧ liftE d.2.val (min p 24 + bd) 1 = 0
  · rw [if_pos hr] at hb
    rw [Bool.or_eq_true] at hb
    rcases hb with hb | hb
    · obtain ⟨j, hj, e⟩ := liftN_bit hr.2.1 k hb
      rw [mem_dimsOf] at hj
      exact ⟨j, hj.1, List.any_eq_true.2 ⟨d, hd, by rw [hj.2]; rfl⟩, e.symm⟩
    · obtain ⟨j, hj, e⟩ := liftN_bit hr.2.2 k hb
      rw [mem_dimsOf] at hj
      exact ⟨j, hj.1, List.any_eq_true.2 ⟨d, hd, by rw [hj.2]; simp⟩, e.symm⟩
  · rw [if_neg hr] at hb
    simp [cl00] at hb
theorem row_free {p : Int} (hp : 0 ≤ p) (hp2 : p < 24) (bd : Nat) (r : List C) : (dimsN (rowP (sd p) bd r).1).testBit (p.toNat + bd) = false := by
  rw [dimsN_bit, Bool.eq_false_iff]
  intro h
  rw [Bool.and_eq_true] at h
  obtain ⟨j, _, _, e⟩ := row_in bd h.2
  unfold upK at e
  split at e <;> omega
theorem row_reach {p : Int} {e bd : Nat} {r : List C} (h : reachB false e r = true) : reachB false (e + 1) (rowP (sd p) bd r).1 = true := by
  unfold reachB at h ⊢
  simp only [Bool.false_or, decide_eq_true_eq] at h ⊢
  have hlt : dimsN r < 2 ^ e := by
    rcases Nat.lt_or_ge (dimsN r) (2 ^ e) with h1 | h1
    · exact h1
    · have := Nat.div_pos h1 (Nat.two_pow_pos e); omega
  refine Nat.div_eq_of_lt (Nat.lt_pow_two_of_testBit _ fun i hi => ?_)
  rw [dimsN_bit, Bool.eq_false_iff]
  intro hb
  rw [Bool.and_eq_true] at hb
  obtain ⟨j, hj, hin, e1⟩ := row_in bd hb.2
  have : (dimsN r).testBit j = true := by rw [dimsN_bit, hin]; simp [hj]
  have hje : j < e := by
    rcases Nat.lt_or_ge j e with h1 | h1
    · exact h1
    · rw [Nat.testBit_lt_two_pow (Nat.lt_of_lt_of_le hlt (Nat.pow_le_pow_right (by omega) h1))] at this; cases this
  have hu : upK (min p 24 + bd) 1 j ≤ j + 1 := by unfold upK; split <;> simp
  omega
theorem ok_row {o : Bool} {V : Int} {D : Nat} {t : Tm} {bv bd : Nat} (h : okT o V D t bv bd = true) : rightF t.r = true := by
  rw [ok_eq, Bool.and_eq_true] at h
  have h1 := h.1
  unfold Tm.node nodeB at h1
  simp only [Bool.and_eq_true] at h1
  have h2 := h1.1.2
  unfold rowB at h2
  split at h2
  · simp only [Bool.and_eq_true] at h2; exact h2.1
  · split at h2
    · simp only [Bool.and_eq_true] at h2; exact rightA_right h2.1
    · have h3 : t.r = [] := List.length_eq_zero_iff.1 (by simpa using h2)
      rw [h3]; exact rightF_nil
theorem ok_face {o : Bool} {V : Int} {D : Nat} {t : Tm} {bv bd : Nat} {b : List C × List Tm} (h : okT o V D t bv bd = true) (hb : b ∈ t.sys) : rightA b.1 = true := by
  rw [ok_eq, Bool.and_eq_true] at h
  have h1 := h.1
  unfold Tm.node nodeB at h1
  simp only [Bool.and_eq_true] at h1
  have h2 := List.all_eq_true.1 h1.2 (b.1, b.2.length) (List.mem_map.2 ⟨b, hb, rfl⟩)
  unfold brB at h2
  simp only [Bool.and_eq_true] at h2
  exact h2.1.2
theorem er_sd {p V : Int} {D : Nat} (hp : 0 ≤ p) (hV : V ≤ 1000) : ∀ (n : Nat) (t : Tm) (bv bd : Nat), blk t ≤ n → bv + blk t ≤ 1000000 → okT false V D t bv bd = true → erT (sd p) t bv bd = 0 ∨ erT (sd p) t bv bd = 10
  | 0, t, bv, bd, hn, _, h => by have := blk_pos t; omega
  | n + 1, t, bv, bd, hn, hb, h => by
    by_cases h0 : erT (sd p) t bv bd = 0
    · exact .inl h0
    · rw [er_eq] at h0 ⊢
      have hm := firstE_mem h0
      simp only [List.mem_cons, List.mem_append] at hm
      rcases hm with e | e | hm | hm
      · exfalso
        rw [e] at h0
        apply h0
        have e2 : sd p = ⟨0, 0, p, 1⟩ := rfl
        unfold numE
        rw [if_neg (fun g => by have := ok_low h hV g.1.1; have g2 : (1000000000 : Int) - 0 < t.n := g.2; omega)]
      · rw [e] at h0 ⊢; exact row_err hp bd (ok_row h)
      · obtain ⟨q, hq, e⟩ := List.mem_map.1 hm
        rw [← e]
        have hx := List.mem_zipIdx_iff_getElem?.1 hq
        have := blk_kid (zip_mem hq)
        have := bvK_le t.kind q.2
        exact er_sd hp hV n q.1 _ _ (by omega) (by omega) (ok_kid h hx)
      · obtain ⟨b, hbm, e⟩ := List.mem_map.1 hm
        rw [← e] at h0 ⊢
        unfold erB at h0 ⊢
        have hm2 := firstE_mem h0
        rcases List.mem_cons.1 hm2 with e2 | hm2
        · rw [e2]; exact row_err hp bd (rightA_right (ok_face h hbm))
        · obtain ⟨x, hx, e2⟩ := List.mem_map.1 hm2
          rw [← e2]
          have := blk_sub hbm hx
          exact er_sd hp hV n x _ _ (by omega) (by omega) (ok_sub h hbm hx)
theorem hs_sd {p : Int} (hp : 0 ≤ p) (hp2 : p < 24) : ∀ (n : Nat) (t : Tm) (bv bd : Nat), blk t ≤ n → hsT (liT (sd p) t bv bd) (p.toNat + bd) = false
  | 0, t, bv, bd, hn => by have := blk_pos t; omega
  | n + 1, t, bv, bd, hn => by
    have hc := li_eq (sd p) t bv bd
    rw [hs_eq, Bool.or_eq_false_iff, Bool.or_eq_false_iff]
    refine ⟨⟨?_, ?_⟩, ?_⟩
    · rw [hc]; exact row_free hp hp2 bd t.r
    · rw [hc]; dsimp only
      rw [Bool.eq_false_iff, ne_eq, List.any_eq_true]
      rintro ⟨b, hb, hu⟩
      obtain ⟨c, hcm, rfl⟩ := List.mem_map.1 hb
      have : (dimsN (rowP (sd p) bd c.1).1).testBit (p.toNat + bd) = true := hu
      rw [row_free hp hp2] at this
      cases this
    · rw [Bool.eq_false_iff, ne_eq, List.any_eq_true]
      rintro ⟨q, hq, hu⟩
      rcases pts_li hq with ⟨i, x, hx, rfl⟩ | ⟨b, hb, x, hx, rfl⟩
      · dsimp only at hu
        rw [Nat.add_assoc, hs_sd hp hp2 n x _ _ (by have := blk_kid (List.mem_of_getElem? hx); omega)] at hu
        cases hu
      · dsimp only at hu
        rw [Nat.add_assoc, hs_sd hp hp2 n x _ _ (by have := blk_sub hb hx; omega)] at hu
        cases hu
/-- How many binders of dimensions stand one in the other. -/
def bnT : Tm → Nat := Tm.fold fun k _ _ _ ks sys => max (maxL (ks.zipIdx.map fun p => bdK k p.2 + p.1)) (maxL (sys.map fun b => maxL (b.2.map (1 + ·))))
theorem bn_eq (t : Tm) : bnT t = max (maxL (t.kids.zipIdx.map fun p => bdK t.kind p.2 + bnT p.1)) (maxL (t.sys.map fun b => maxL (b.2.map fun x => 1 + bnT x))) := by
  unfold bnT
  rw [fold_mk]
  simp only [List.zipIdx_map, List.map_map, Function.comp_def, Prod.map]
  rfl
theorem bn_kid {t : Tm} {i : Nat} {x : Tm} (h : t.kids[i]? = some x) : bdK t.kind i + bnT x ≤ bnT t := by
  rw [bn_eq t]
  have := maxL_mem (List.mem_map.2 ⟨(x, i), List.mem_zipIdx_iff_getElem?.2 h, rfl⟩ : bdK t.kind i + bnT x ∈ t.kids.zipIdx.map fun p => bdK t.kind p.2 + bnT p.1)
  omega
theorem bn_sub {t : Tm} {b : List C × List Tm} {x : Tm} (hb : b ∈ t.sys) (hx : x ∈ b.2) : 1 + bnT x ≤ bnT t := by
  rw [bn_eq t]
  have h1 := maxL_mem (List.mem_map.2 ⟨x, hx, rfl⟩ : 1 + bnT x ∈ b.2.map fun x => 1 + bnT x)
  have h2 := maxL_mem (List.mem_map.2 ⟨b, hb, rfl⟩ : maxL (b.2.map fun x => 1 + bnT x) ∈ t.sys.map fun b => maxL (b.2.map fun x => 1 + bnT x))
  omega
/-- One dimension more. -/
theorem ok_sd {p V : Int} {D : Nat} (hp : 0 ≤ p) : ∀ (n : Nat) (t : Tm) (bv bd : Nat), blk t ≤ n → D + bd + bnT t + 1 ≤ 24 → okT false V D t bv bd = true → okT false V (D + 1) (liT (sd p) t bv bd) bv bd = true
  | 0, t, bv, bd, hn, _, h => by have := blk_pos t; omega
  | n + 1, t, bv, bd, hn, hD, h => by
    have hc := li_eq (sd p) t bv bd
    have h' := h
    rw [ok_eq, Bool.and_eq_true, List.all_eq_true] at h ⊢
    obtain ⟨h1, h2⟩ := h
    unfold Tm.node nodeB at h1 ⊢
    simp only [Bool.and_eq_true] at h1 ⊢
    obtain ⟨⟨⟨⟨⟨a1, a2⟩, a3⟩, a4⟩, a5⟩, a6⟩ := h1
    have eD : D + 1 + bd = D + bd + 1 := by omega
    refine ⟨⟨⟨⟨⟨⟨?_, ?_⟩, ?_⟩, ?_⟩, ?_⟩, ?_⟩, ?_⟩
    · simp; omega
    · rw [hc]; dsimp only; rw [liK_len]; exact a2
    · rw [hc]; dsimp only; rw [numV_sd]; exact a3
    · rw [hc]; exact a4
    · rw [hc]; dsimp only
      rw [eD]
      unfold rowB at a5 ⊢
      split
      · rename_i hk
        rw [if_pos hk] at a5
        simp only [Bool.and_eq_true] at a5 ⊢
        exact ⟨rowP_right _ bd a5.1, row_reach a5.2⟩
      · rename_i hk
        rw [if_neg hk] at a5
        split
        · rename_i hk2
          rw [if_pos hk2] at a5
          simp only [Bool.and_eq_true] at a5 ⊢
          exact ⟨rowP_rightA (show 0 ≤ (sd p).db from (by decide : (0 : Int) ≤ 1)) bd a5.1, row_reach a5.2⟩
        · rename_i hk2
          rw [if_neg hk2] at a5
          simp only [decide_eq_true_eq] at a5 ⊢
          rw [List.length_eq_zero_iff.1 a5, rowP_nil1]; rfl
    · rw [hc]; dsimp only
      rw [List.all_eq_true] at a6 ⊢
      intro q hq
      rw [List.map_map] at hq
      obtain ⟨b, hb, rfl⟩ := List.mem_map.1 hq
      have := a6 (b.1, b.2.length) (List.mem_map.2 ⟨b, hb, rfl⟩)
      unfold brB at this ⊢
      simp only [Bool.and_eq_true] at this ⊢
      obtain ⟨⟨⟨c1, c2⟩, c3⟩, c4⟩ := this
      refine ⟨⟨⟨c1, ?_⟩, rowP_rightA (show 0 ≤ (sd p).db from (by decide : (0 : Int) ≤ 1)) bd c3⟩, ?_⟩
      · show decide (((b.2.map fun x => liT (sd p) x bv (bd + moreK t.kind)).length : Int) = partsK t.kind) = true
        rw [List.length_map]; exact c2
      · rw [eD]; exact row_reach c4
    · intro q hq
      rcases pts_li hq with ⟨i, x, hx, rfl⟩ | ⟨b, hb, x, hx, rfl⟩
      · have := bn_kid hx
        exact ok_sd hp n x _ _ (by have := blk_kid (List.mem_of_getElem? hx); omega) (by omega) (ok_kid h' hx)
      · have := bn_sub hb hx
        have := moreK_le t.kind
        exact ok_sd hp n x _ _ (by have := blk_sub hb hx; omega) (by omega) (ok_sub h' hb hx)
end Go.Proofs.YtjimednocmdpnaaGreat

namespace Go.Proofs.YtjimednocmdpnaaGreat
open Go.RowKit
set_option linter.unusedVariables false
set_option linter.unusedSimpArgs false

theorem lift_bits {s j : Nat} (h : liftE s (j : Int) 1 = 0) (hs : s < 16777216) (k : Nat) : (liftN s (j : Int) 1).testBit k = if k < j then s.testBit k else if k = j then false else s.testBit (k - 1) := by
  have ha : argB (j : Int) 1 = false := by cases ha : argB (j : Int) 1 with | false => rfl | true => rw [(lift_arg ha).2] at h; cases h
  have hb : liftBad (j : Int) 1 (dimsOf s) = false := by cases hb : liftBad (j : Int) 1 (dimsOf s) with | false => rfl | true => rw [(lift_bad ha hb).2] at h; cases h
  have h24 : ∀ d, s.testBit d = true → d < 24 := fun d hd => by
    rcases Nat.lt_or_ge d 24 with h | h
    · exact h
    · rw [Nat.testBit_lt_two_pow (Nat.lt_of_lt_of_le hs (Nat.pow_le_pow_right (n := 2) (by omega) h))] at hd; cases hd
  rw [(lift_ok ha hb).1, testBit_orAll, Bool.eq_iff_iff, decide_eq_true_iff, List.mem_map]
  constructor
  · rintro ⟨d, hd, e⟩
    rw [mem_dimsOf] at hd
    unfold upK at e
    split at e
    · rename_i hdj
      subst e
      rw [if_pos (by omega)]; exact hd.2
    · rename_i hdj
      have e : d + 1 = k := by simpa using e
      subst e
      rw [if_neg (by omega), if_neg (by omega)]
      exact hd.2
  · intro hk
    split at hk
    · rename_i hkj
      exact ⟨k, by rw [mem_dimsOf]; exact ⟨h24 k hk, hk⟩, by unfold upK; rw [if_pos (by omega)]⟩
    · split at hk
      · cases hk
      · rename_i h1 h2
        exact ⟨k - 1, by rw [mem_dimsOf]; exact ⟨h24 _ hk, hk⟩, by unfold upK; rw [if_neg (by omega)]; show k - 1 + 1 = k; omega⟩
theorem drop_bits {s j : Nat} (hj : j < 24) (hs : s < 16777216) (k : Nat) : (dropN s (j : Int)).testBit k = if k < j then s.testBit k else s.testBit (k + 1) := by
  have h24 : ∀ d, s.testBit d = true → d < 24 := fun d hd => by
    rcases Nat.lt_or_ge d 24 with h | h
    · exact h
    · rw [Nat.testBit_lt_two_pow (Nat.lt_of_lt_of_le hs (Nat.pow_le_pow_right (n := 2) (by omega) h))] at hd; cases hd
  unfold dropN
  rw [if_pos (isDimB_nat hj), testBit_orAll, Bool.eq_iff_iff, decide_eq_true_iff, List.mem_map]
  have ej : (j : Int).toNat = j := by simp
  rw [ej]
  constructor
  · rintro ⟨d, hd, e⟩
    rw [List.mem_filter, mem_dimsOf] at hd
    have hne : (j : Int) ≠ (d : Int) := by have := hd.2; unfold notI at this; exact of_decide_eq_true this
    unfold downK at e
    split at e
    · subst e
      rw [if_pos (by omega)]; exact hd.1.2
    · subst e
      rw [if_neg (by omega)]
      have : d - 1 + 1 = d := by omega
      rw [this]; exact hd.1.2
  · intro hk
    split at hk
    · rename_i hkj
      exact ⟨k, by rw [List.mem_filter, mem_dimsOf]; exact ⟨⟨h24 k hk, hk⟩, decide_eq_true (by omega)⟩, by unfold downK; rw [if_pos hkj]⟩
    · rename_i hkj
      exact ⟨k + 1, by rw [List.mem_filter, mem_dimsOf]; exact ⟨⟨h24 _ hk, hk⟩, decide_eq_true (by omega)⟩, by unfold downK; rw [if_neg (by omega)]; omega⟩
theorem drop_lift {s j : Nat} (h : liftE s (j : Int) 1 = 0) (hs : s < 16777216) : dropN (liftN s (j : Int) 1) (j : Int) = s := by
  have hb := lift_bits h hs
  have hl := liftN_lt s (j : Int) 1
  rcases Nat.lt_or_ge j 24 with hj | hj
  · refine Nat.eq_of_testBit_eq fun k => ?_
    rw [drop_bits hj hl]
    split
    · rename_i hk; rw [hb, if_pos hk]
    · rename_i hk; rw [hb, if_neg (by omega), if_neg (by omega)]; rfl
  · have e : liftN s (j : Int) 1 = s := by
      refine Nat.eq_of_testBit_eq fun k => ?_
      rw [hb]
      split
      · rfl
      · rename_i hk
        have e1 : ∀ m, 24 ≤ m → s.testBit m = false := fun m hm => Nat.testBit_lt_two_pow (Nat.lt_of_lt_of_le hs (Nat.pow_le_pow_right (n := 2) (by omega) hm))
        rw [e1 k (by omega)]
        split
        · rfl
        · have hz : (liftN s (j : Int) 1).testBit k = false := Nat.testBit_lt_two_pow (Nat.lt_of_lt_of_le hl (Nat.pow_le_pow_right (n := 2) (by omega) (by omega : 24 ≤ k)))
          rw [hb, if_neg (by omega), if_neg (by omega)] at hz
          exact hz
    rw [e]
    unfold dropN
    rw [if_neg (by unfold isDimB; simp; omega)]
    have := Nat.and_two_pow_sub_one_of_lt_two_pow (n := 24) hs
    exact this
/-! ### the order -/
theorem top_diff {x y : Nat} : ∀ n, (∀ k, n ≤ k → x.testBit k = y.testBit k) → x ≠ y → ∃ k, x.testBit k ≠ y.testBit k ∧ ∀ m, k < m → x.testBit m = y.testBit m
  | 0, h, hne => absurd (Nat.eq_of_testBit_eq fun k => h k (Nat.zero_le _)) hne
  | n + 1, h, hne => by
    by_cases hn : x.testBit n = y.testBit n
    · exact top_diff n (fun k hk => by
        rcases Nat.eq_or_lt_of_le hk with e | e
        · rw [← e]; exact hn
        · exact h k e) hne
    · exact ⟨n, hn, fun m hm => h m hm⟩
theorem lt_bits {x y : Nat} (k : Nat) (hx : x.testBit k = false) (hy : y.testBit k = true) (h : ∀ m, k < m → x.testBit m = y.testBit m) : x < y := by
  rw [Nat.testBit_eq_decide_div_mod_eq, decide_eq_false_iff_not] at hx
  rw [Nat.testBit_eq_decide_div_mod_eq, decide_eq_true_iff] at hy
  have e : x / 2 ^ k / 2 = y / 2 ^ k / 2 := by
    rw [Nat.div_div_eq_div_mul, Nat.div_div_eq_div_mul, ← Nat.pow_succ]
    refine Nat.eq_of_testBit_eq fun m => ?_
    rw [Nat.testBit_div_two_pow, Nat.testBit_div_two_pow]
    exact h _ (by omega)
  rcases Nat.lt_or_ge x y with h1 | h1
  · exact h1
  · have := Nat.div_le_div_right (c := 2 ^ k) h1
    omega
theorem lt_top {x y : Nat} (hx : x < 16777216) (hy : y < 16777216) (h : x < y) : ∃ k, x.testBit k = false ∧ y.testBit k = true ∧ ∀ m, k < m → x.testBit m = y.testBit m := by
  have e1 : ∀ z, z < 16777216 → ∀ m, 24 ≤ m → z.testBit m = false := fun z hz m hm => Nat.testBit_lt_two_pow (Nat.lt_of_lt_of_le hz (Nat.pow_le_pow_right (n := 2) (by omega) hm))
  obtain ⟨k, hk, hm⟩ := top_diff 24 (fun m hm => by rw [e1 x hx m hm, e1 y hy m hm]) (by omega : x ≠ y)
  cases ha : x.testBit k <;> cases hb : y.testBit k
  · rw [ha, hb] at hk; exact absurd rfl hk
  · exact ⟨k, ha, hb, hm⟩
  · have := lt_bits k hb ha (fun m hm' => (hm m hm').symm)
    omega
  · rw [ha, hb] at hk; exact absurd rfl hk
theorem lift_lt' {x y j : Nat} (hx : x < 16777216) (hy : y < 16777216) (ex : liftE x (j : Int) 1 = 0) (ey : liftE y (j : Int) 1 = 0) (h : x < y) : liftN x (j : Int) 1 < liftN y (j : Int) 1 := by
  obtain ⟨k, h1, h2, h3⟩ := lt_top hx hy h
  have bx := lift_bits ex hx
  have by_ := lift_bits ey hy
  by_cases hk : k < j
  · refine lt_bits k (by rw [bx, if_pos hk, h1]) (by rw [by_, if_pos hk, h2]) (fun m hm => ?_)
    rw [bx, by_]
    split
    · exact h3 m hm
    · split
      · rfl
      · exact h3 (m - 1) (by omega)
  · refine lt_bits (k + 1) (by rw [bx, if_neg (by omega), if_neg (by omega)]; exact h1) (by rw [by_, if_neg (by omega), if_neg (by omega)]; exact h2) (fun m hm => ?_)
    rw [bx, by_]
    split
    · exact h3 m (by omega)
    · split
      · rfl
      · exact h3 (m - 1) (by omega)
/-! ### clauses, rows -/
theorem liftC_ok {c : C} {j : Nat} (h : liftCE c (j : Int) 1 = 0) : rightC c = true ∧ liftE c.1.val (j : Int) 1 = 0 ∧ liftE c.2.val (j : Int) 1 = 0 := by
  unfold liftCE at h
  split at h
  · split at h
    · exact ⟨‹_›, ‹_›, h⟩
    · exact absurd h ‹_›
  · cases h
theorem right_lts {c : C} (h : rightC c = true) : c.1.val < 16777216 ∧ c.2.val < 16777216 := by
  have := rightC_iff.1 h
  exact ⟨by first | exact this.1 | (have := this.1; omega), by first | exact this.2 | (have := this.2; omega)⟩
theorem liftC_eq {c : C} {j : Nat} (h : liftCE c (j : Int) 1 = 0) : (liftC c (j : Int) 1).1.val = liftN c.1.val (j : Int) 1 ∧ (liftC c (j : Int) 1).2.val = liftN c.2.val (j : Int) 1 := by
  unfold liftC
  rw [if_pos (liftC_ok h)]
  exact ⟨rfl, rfl⟩
theorem drC_lift {c : C} {j : Nat} (h : liftCE c (j : Int) 1 = 0) : drC (j : Int) (liftC c (j : Int) 1) = c := by
  obtain ⟨hr, h1, h2⟩ := liftC_ok h
  obtain ⟨l1, l2⟩ := right_lts hr
  obtain ⟨e1, e2⟩ := liftC_eq h
  refine Prod.ext (Fin.ext ?_) (Fin.ext ?_)
  · show dropN (liftC c (j : Int) 1).1.val (j : Int) = _; rw [e1]; exact drop_lift h1 l1
  · show dropN (liftC c (j : Int) 1).2.val (j : Int) = _; rw [e2]; exact drop_lift h2 l2
theorem ltC_lift {a b : C} {j : Nat} (ha : liftCE a (j : Int) 1 = 0) (hb : liftCE b (j : Int) 1 = 0) (h : ltC a b = true) : ltC (liftC a (j : Int) 1) (liftC b (j : Int) 1) = true := by
  obtain ⟨ra, a1, a2⟩ := liftC_ok ha
  obtain ⟨rb, b1, b2⟩ := liftC_ok hb
  obtain ⟨la1, la2⟩ := right_lts ra
  obtain ⟨lb1, lb2⟩ := right_lts rb
  unfold ltC at h ⊢
  rw [(liftC_eq ha).1, (liftC_eq ha).2, (liftC_eq hb).1, (liftC_eq hb).2]
  simp only [Bool.or_eq_true, Bool.and_eq_true, decide_eq_true_eq] at h ⊢
  rcases h with h | ⟨h, h'⟩
  · exact .inl (lift_lt' la1 lb1 a1 b1 h)
  · exact .inr ⟨by rw [h], lift_lt' la2 lb2 a2 b2 h'⟩
theorem belC_lift {a b : C} {j : Nat} (ha : liftCE a (j : Int) 1 = 0) (hb : liftCE b (j : Int) 1 = 0) (h : belC (liftC a (j : Int) 1) (liftC b (j : Int) 1) = true) : belC a b = true := by
  obtain ⟨ra, a1, a2⟩ := liftC_ok ha
  obtain ⟨rb, b1, b2⟩ := liftC_ok hb
  obtain ⟨la1, la2⟩ := right_lts ra
  obtain ⟨lb1, lb2⟩ := right_lts rb
  have h' := belC_iff.1 h
  rw [(liftC_eq ha).1, (liftC_eq ha).2, (liftC_eq hb).1, (liftC_eq hb).2] at h'
  have gen : ∀ (x y : Nat), x < 16777216 → y < 16777216 → liftE x (j : Int) 1 = 0 → liftE y (j : Int) 1 = 0 → (∀ k, k < 24 → (liftN y (j : Int) 1).testBit k = true → (liftN x (j : Int) 1).testBit k = true) → ∀ k, k < 24 → y.testBit k = true → x.testBit k = true := by
    intro x y hx hy ex ey hh k hk hyk
    have bx := lift_bits ex hx
    have by_ := lift_bits ey hy
    have h24 : ∀ d, (liftN y (j : Int) 1).testBit d = true → d < 24 := fun d hd => by
      rcases Nat.lt_or_ge d 24 with h | h
      · exact h
      · rw [Nat.testBit_lt_two_pow (Nat.lt_of_lt_of_le (liftN_lt y (j : Int) 1) (Nat.pow_le_pow_right (n := 2) (by omega) h))] at hd; cases hd
    by_cases hkj : k < j
    · have e : (liftN y (j : Int) 1).testBit k = true := by rw [by_, if_pos hkj]; exact hyk
      have := hh k (h24 k e) e
      rw [bx, if_pos hkj] at this
      exact this
    · have e : (liftN y (j : Int) 1).testBit (k + 1) = true := by rw [by_, if_neg (by omega), if_neg (by omega)]; exact hyk
      have := hh (k + 1) (h24 _ e) e
      rw [bx, if_neg (by omega), if_neg (by omega)] at this
      exact this
  exact belC_iff.2 ⟨gen _ _ la1 lb1 a1 b1 h'.1, gen _ _ la2 lb2 a2 b2 h'.2⟩
theorem liftS_map {j : Nat} (l : List C) : (liftS l (j : Int) 1).2 = 0 → (liftS l (j : Int) 1).1 = l.map (fun c => liftC c (j : Int) 1) ∧ ∀ c ∈ l, liftCE c (j : Int) 1 = 0 := by
  induction l using snoc_ind with
  | nil => intro _; exact ⟨rfl, fun c hc => by cases hc⟩
  | snoc l c ih =>
    intro h
    rw [liftS_snoc] at h ⊢
    unfold stepL at h ⊢
    by_cases h0 : (liftS l (j : Int) 1).2 = 0
    · rw [if_pos h0] at h ⊢
      by_cases h1 : liftCE c (j : Int) 1 = 0
      · rw [if_pos h1]
        obtain ⟨e, hall⟩ := ih h0
        refine ⟨by rw [List.map_append, ← e]; rfl, fun d hd => ?_⟩
        rcases List.mem_append.1 hd with hd | hd
        · exact hall d hd
        · rw [List.mem_singleton.1 hd]; exact h1
      · rw [if_neg h1] at h; exact absurd h h1
    · rw [if_neg h0] at h; exact absurd h h0
theorem lift_row {f : List C} {j : Nat} (h : (liftFF f (j : Int) 1).2 = 0) : (liftFF f (j : Int) 1).1 = f.map (fun c => liftC c (j : Int) 1) ∧ (∀ c ∈ f, liftCE c (j : Int) 1 = 0) := by
  unfold liftFF at h ⊢
  by_cases hr : rightF f = true
  · rw [if_pos hr] at h ⊢
    by_cases h0 : (liftS f (j : Int) 1).2 = 0
    · rw [if_pos h0] at h ⊢
      obtain ⟨e, hall⟩ := liftS_map f h0
      rw [e] at h ⊢
      obtain ⟨hp, hlen⟩ := rightF_iff.1 hr
      have hP : PreOk (f.map fun c => liftC c (j : Int) 1) := by
        refine ⟨?_, ?_, ?_⟩
        · rw [List.all_eq_true]
          intro x hx
          obtain ⟨c, hc, rfl⟩ := List.mem_map.1 hx
          rw [rightC_iff, (liftC_eq (hall c hc)).1, (liftC_eq (hall c hc)).2]
          exact ⟨liftN_lt _ _ _, liftN_lt _ _ _⟩
        · exact List.pairwise_map.2 (List.Pairwise.imp_of_mem (fun ha hb h => ltC_lift (hall _ ha) (hall _ hb) h) hp.rises)
        · intro x hx
          obtain ⟨c, hc, rfl⟩ := List.mem_map.1 hx
          rw [needed_iff]
          intro y hy hb
          obtain ⟨d, hd, rfl⟩ := List.mem_map.1 hy
          rw [needed_iff.1 (hp.need c hc) d hd (belC_lift (hall c hc) (hall d hd) hb)]
      have hR : rightF (f.map fun c => liftC c (j : Int) 1) = true := rightF_iff.2 ⟨hP, by simpa using hlen⟩
      rw [rightF_eq hR]
      exact ⟨rfl, hall⟩
    · rw [if_neg h0] at h; exact absurd h h0
  · rw [if_neg hr] at h; cases h
theorem drop_row {f : List C} {j : Nat} (h : (liftFF f (j : Int) 1).2 = 0) : (liftFF f (j : Int) 1).1.map (drC (j : Int)) = f := by
  obtain ⟨e, hall⟩ := lift_row h
  rw [e, List.map_map]
  conv => rhs; rw [← List.map_id f]
  exact List.map_congr_left (fun c hc => drC_lift (hall c hc))
end Go.Proofs.YtjimednocmdpnaaGreat

namespace Go.Proofs.YtjimednocmdpnaaGreat
open Go.RowKit
set_option linter.unusedVariables false
set_option linter.unusedSimpArgs false

theorem mt_top' {c : C} (h : rightC c = true) (hk : okC c = true) : mtR [c] [top0] = ([c], 0) := by
  have e : meetC c top0 = c := by
    have h1 := fright_bits h
    refine c_bits (fun k => ?_) (fun k => ?_)
    · rw [(meet_bits c top0 k).1]; rw [← (h1 k).1]; simp [top0]
    · rw [(meet_bits c top0 k).2]; rw [← (h1 k).2]; simp [top0]
  have e2 : calmC (pairsC [c] [top0]) = [c] := by simp [pairsC, calmC, e, hk]
  unfold mtR; rw [e2]; exact leastF_one h
theorem mt_nil' (l : List C) : mtR l [] = ([], 0) := by
  have e2 : calmC (pairsC l []) = [] := by simp [pairsC, calmC]
  unfold mtR; rw [e2]; decide
/-- Least of least and more. -/
theorem least_more {A B : List C} (hA : A.all rightC = true) (hB : B.all rightC = true) (h0 : (leastF A).2 = 0) : leastF ((leastF A).1 ++ B) = leastF (A ++ B) := by
  refine leastF_ext (by rw [List.all_append, leastF_all, hB]; rfl) (by rw [List.all_append, hA, hB]; rfl) (fun c _ => ?_)
  rw [dn_append, dn_append, leastF_dn h0]
theorem all_mem {l : List C} (h : ∀ c ∈ l, rightC c = true) : l.all rightC = true := List.all_eq_true.2 h
theorem rst_app (f g : List C) (p : C) : rstL (f ++ g) p = rstL f p ++ rstL g p := by simp [rstL]
theorem rst_right' {f : List C} (h : ∀ c ∈ f, rightC c = true) (p : C) : ∀ c ∈ rstL f p, rightC c = true := fun x hx => by
  obtain ⟨a, ha, _, rfl⟩ := mem_rst.1 hx
  exact cut_right (h a ha)

/-! ### one -/
theorem cut_one {c : C} {i : Nat} (hi : i < 24) (hr : rightC c = true) (hk : okC c = true) (h : c.2.val.testBit i = false) : cutC (posB i) c = outC c (i : Int) := by
  have h1 := fright_bits hr
  refine c_bits (fun k => ?_) (fun k => ?_)
  · rw [(cut_bits _ c k).1, (out_bits c i k hi).1, (posB_bits i k hi).1]
    have := (h1 k).1
    by_cases hik : i = k
    · subst hik; simp_all
    · simp_all
  · rw [(cut_bits _ c k).2, (out_bits c i k hi).2, (posB_bits i k hi).2]
    have := (h1 k).2
    by_cases hik : i = k
    · subst hik; simp_all
    · simp_all
theorem with_one {c : C} {i : Nat} (hi : i < 24) (hk : okC c = true) : withC (posB i) c = !c.2.val.testBit i := by
  unfold withC
  rw [Bool.eq_iff_iff, meet_ok, Bool.not_eq_true']
  constructor
  · intro h
    have := h i hi
    rw [(posB_bits i i hi).1, (posB_bits i i hi).2] at this
    simpa using this
  · intro h k hk24
    have h2 := okC_iff.1 hk k hk24
    rw [(posB_bits i k hi).1, (posB_bits i k hi).2]
    by_cases hik : i = k
    · subst hik; simp [h]
    · simp [hik]; simpa using h2
theorem rst1_one {c : C} {i : Nat} (hi : i < 24) (hr : rightC c = true) (hk : okC c = true) : rstL [c] (posB i) = if c.2.val.testBit i then [] else [outC c (i : Int)] := by
  unfold rstL
  rw [List.filter_cons, with_one hi hk]
  cases h : c.2.val.testBit i
  · simp [cut_one hi hr hk h]
  · simp
theorem prt_one {c : C} {i : Nat} (hi : i < 24) (hk : okC c = true) : prtA c (i : Int) [top0] ([], 0) = (if c.2.val.testBit i then [] else [outC c (i : Int)], 0) := by
  have h0 := okC_iff.1 hk i hi
  have hB1 : hasB c.1.val (i : Int) = c.1.val.testBit i := hasB_nat hi
  have hB2 : hasB c.2.val (i : Int) = c.2.val.testBit i := hasB_nat hi
  unfold prtA
  rw [hB1, hB2]
  cases h1 : c.1.val.testBit i <;> cases h2 : c.2.val.testBit i
  · simp
  · simp [mt_nil']
  · simp [mt_top' (out_right c i) (out_ok hk)]
  · exact absurd ⟨h1, h2⟩ h0
theorem pts_one {i : Nat} (hi : i < 24) (f : List C) : (∀ c ∈ f, rightC c = true ∧ okC c = true) → f.length ≤ 64 → ptS f (i : Int) [top0] ([], 0) = leastF (rstL f (posB i)) := by
  induction f using snoc_ind with
  | nil => intro _ _; simp only [ptS, List.foldl_nil, rstL, List.filter_nil, List.map_nil]; decide
  | snoc f c ih =>
    intro h hl
    have hf : ∀ x ∈ f, rightC x = true ∧ okC x = true := fun x hx => h x (List.mem_append_left _ hx)
    obtain ⟨hr, hk⟩ := h c (by simp)
    have hl2 : f.length ≤ 64 := by simp at hl; omega
    have hA : (rstL f (posB i)).all rightC = true := all_mem (rst_right' (fun x hx => (hf x hx).1) _)
    have h0 : (leastF (rstL f (posB i))).2 = 0 := least_small hA (Nat.le_trans (rst_len f _) hl2)
    rw [ptS_snoc, ih hf hl2]
    have e := leastF_pair h0
    rw [e, stpA_some, prt_one hi hk, if_pos rfl, rst_app, rst1_one hi hr hk, least_more hA (all_mem (fun x hx => ?_)) h0]
    split at hx
    · cases hx
    · rw [List.mem_singleton.1 hx]; exact out_right c i
theorem put_one {i : Nat} (hi : i < 24) {f : List C} (hf : rightA f = true) : putRow ptA (i : Int) [top0] f 0 = rstA f (posB i) := by
  have hs : singleC (posB i) = true := singleC_iff.2 ⟨posB_right i, okC_iff.2 (fun k _ h => by rw [(posB_bits i k hi).1, (posB_bits i k hi).2] at h; simp at h)⟩
  have hR : rstA f (posB i) = leastF (rstL f (posB i)) := by unfold rstA; rw [hf, hs]; rfl
  have hall : ∀ c ∈ f, rightC c = true ∧ okC c = true := fun c hc => ⟨List.all_eq_true.1 (rightF_all (rightA_right hf)) c hc, rightA_ok hf c hc⟩
  have e0 : ((i : Int) + ((0 : Nat) : Int)) = (i : Int) := by omega
  unfold putRow
  rw [e0]
  cases hh : hasB (dimsN f) (i : Int)
  · rw [if_neg (by simp), hR]
    rw [hasB_nat hi, dimsN_bit] at hh
    have hno : ∀ c ∈ f, c.1.val.testBit i = false ∧ c.2.val.testBit i = false := fun c hc => by
      simp only [hi, decide_true, Bool.true_and] at hh
      have := List.any_eq_false.1 hh c hc
      simpa using this
    have e : rstL f (posB i) = f := by
      unfold rstL
      rw [List.filter_eq_self.2 (fun c hc => by rw [with_one hi (hall c hc).2, (hno c hc).2]; rfl)]
      conv => rhs; rw [← List.map_id f]
      refine List.map_congr_left (fun c hc => ?_)
      rw [cut_one hi (hall c hc).1 (hall c hc).2 (hno c hc).2]
      have h1 := fright_bits (hall c hc).1
      refine c_bits (fun k => ?_) (fun k => ?_)
      · rw [(out_bits c i k hi).1]
        have := (h1 k).1
        by_cases hik : i = k
        · subst hik; simp [(hno c hc).1]
        · simp_all
      · rw [(out_bits c i k hi).2]
        have := (h1 k).2
        by_cases hik : i = k
        · subst hik; simp [(hno c hc).2]
        · simp_all
    rw [e, rightF_eq (rightA_right hf)]
  · rw [if_pos rfl]
    have eL : liftFF [top0] 0 ((0 : Nat) : Int) = ([top0], 0) := by decide
    rw [eL, if_pos rfl]
    show ptA f (i : Int) [top0] = _
    have hd : isDimB (i : Int) = true := isDimB_nat hi
    have hq : rightF [top0] = true := by decide
    unfold ptA
    rw [hf, hd, hq]
    have e1 : (ofF [top0]).1 = [top0] := by decide
    have e2 : ofZ [top0] = ([], 0) := by decide
    rw [e1, e2, hR]
    exact pts_one hi f hall (rightA_len hf)

/-! ### nil -/
theorem cut_nil {c : C} {i : Nat} (hi : i < 24) (hr : rightC c = true) (hk : okC c = true) (h : c.1.val.testBit i = false) : cutC (negB i) c = outC c (i : Int) := by
  have h1 := fright_bits hr
  refine c_bits (fun k => ?_) (fun k => ?_)
  · rw [(cut_bits _ c k).1, (out_bits c i k hi).1, (negB_bits i k hi).1]
    have := (h1 k).1
    by_cases hik : i = k
    · subst hik; simp_all
    · simp_all
  · rw [(cut_bits _ c k).2, (out_bits c i k hi).2, (negB_bits i k hi).2]
    have := (h1 k).2
    by_cases hik : i = k
    · subst hik; simp_all
    · simp_all
theorem with_nil {c : C} {i : Nat} (hi : i < 24) (hk : okC c = true) : withC (negB i) c = !c.1.val.testBit i := by
  unfold withC
  rw [Bool.eq_iff_iff, meet_ok, Bool.not_eq_true']
  constructor
  · intro h
    have := h i hi
    rw [(negB_bits i i hi).1, (negB_bits i i hi).2] at this
    simpa using this
  · intro h k hk24
    have h2 := okC_iff.1 hk k hk24
    rw [(negB_bits i k hi).1, (negB_bits i k hi).2]
    by_cases hik : i = k
    · subst hik; simp [h]
    · simp [hik]; simpa using h2
theorem rst1_nil {c : C} {i : Nat} (hi : i < 24) (hr : rightC c = true) (hk : okC c = true) : rstL [c] (negB i) = if c.1.val.testBit i then [] else [outC c (i : Int)] := by
  unfold rstL
  rw [List.filter_cons, with_nil hi hk]
  cases h : c.1.val.testBit i
  · simp [cut_nil hi hr hk h]
  · simp
theorem prt_nil {c : C} {i : Nat} (hi : i < 24) (hk : okC c = true) : prtA c (i : Int) [] ([top0], 0) = (if c.1.val.testBit i then [] else [outC c (i : Int)], 0) := by
  have h0 := okC_iff.1 hk i hi
  have hB1 : hasB c.1.val (i : Int) = c.1.val.testBit i := hasB_nat hi
  have hB2 : hasB c.2.val (i : Int) = c.2.val.testBit i := hasB_nat hi
  unfold prtA
  rw [hB1, hB2]
  cases h1 : c.1.val.testBit i <;> cases h2 : c.2.val.testBit i
  · simp
  · simp [mt_top' (out_right c i) (out_ok hk)]
  · simp [mt_nil']
  · exact absurd ⟨h1, h2⟩ h0
theorem pts_nil {i : Nat} (hi : i < 24) (f : List C) : (∀ c ∈ f, rightC c = true ∧ okC c = true) → f.length ≤ 64 → ptS f (i : Int) [] ([top0], 0) = leastF (rstL f (negB i)) := by
  induction f using snoc_ind with
  | nil => intro _ _; simp only [ptS, List.foldl_nil, rstL, List.filter_nil, List.map_nil]; decide
  | snoc f c ih =>
    intro h hl
    have hf : ∀ x ∈ f, rightC x = true ∧ okC x = true := fun x hx => h x (List.mem_append_left _ hx)
    obtain ⟨hr, hk⟩ := h c (by simp)
    have hl2 : f.length ≤ 64 := by simp at hl; omega
    have hA : (rstL f (negB i)).all rightC = true := all_mem (rst_right' (fun x hx => (hf x hx).1) _)
    have h0 : (leastF (rstL f (negB i))).2 = 0 := least_small hA (Nat.le_trans (rst_len f _) hl2)
    rw [ptS_snoc, ih hf hl2]
    have e := leastF_pair h0
    rw [e, stpA_some, prt_nil hi hk, if_pos rfl, rst_app, rst1_nil hi hr hk, least_more hA (all_mem (fun x hx => ?_)) h0]
    split at hx
    · cases hx
    · rw [List.mem_singleton.1 hx]; exact out_right c i
theorem put_nil {i : Nat} (hi : i < 24) {f : List C} (hf : rightA f = true) : putRow ptA (i : Int) [] f 0 = rstA f (negB i) := by
  have hs : singleC (negB i) = true := singleC_iff.2 ⟨negB_right i, okC_iff.2 (fun k _ h => by rw [(negB_bits i k hi).1, (negB_bits i k hi).2] at h; simp at h)⟩
  have hR : rstA f (negB i) = leastF (rstL f (negB i)) := by unfold rstA; rw [hf, hs]; rfl
  have hall : ∀ c ∈ f, rightC c = true ∧ okC c = true := fun c hc => ⟨List.all_eq_true.1 (rightF_all (rightA_right hf)) c hc, rightA_ok hf c hc⟩
  have e0 : ((i : Int) + ((0 : Nat) : Int)) = (i : Int) := by omega
  unfold putRow
  rw [e0]
  cases hh : hasB (dimsN f) (i : Int)
  · rw [if_neg (by simp), hR]
    rw [hasB_nat hi, dimsN_bit] at hh
    have hno : ∀ c ∈ f, c.1.val.testBit i = false ∧ c.2.val.testBit i = false := fun c hc => by
      simp only [hi, decide_true, Bool.true_and] at hh
      have := List.any_eq_false.1 hh c hc
      simpa using this
    have e : rstL f (negB i) = f := by
      unfold rstL
      rw [List.filter_eq_self.2 (fun c hc => by rw [with_nil hi (hall c hc).2, (hno c hc).1]; rfl)]
      conv => rhs; rw [← List.map_id f]
      refine List.map_congr_left (fun c hc => ?_)
      rw [cut_nil hi (hall c hc).1 (hall c hc).2 (hno c hc).1]
      have h1 := fright_bits (hall c hc).1
      refine c_bits (fun k => ?_) (fun k => ?_)
      · rw [(out_bits c i k hi).1]
        have := (h1 k).1
        by_cases hik : i = k
        · subst hik; simp [(hno c hc).1]
        · simp_all
      · rw [(out_bits c i k hi).2]
        have := (h1 k).2
        by_cases hik : i = k
        · subst hik; simp [(hno c hc).2]
        · simp_all
    rw [e, rightF_eq (rightA_right hf)]
  · rw [if_pos rfl]
    have eL : liftFF [] 0 ((0 : Nat) : Int) = ([], 0) := by decide
    rw [eL, if_pos rfl]
    show ptA f (i : Int) [] = _
    have hd : isDimB (i : Int) = true := isDimB_nat hi
    have hq : rightF [] = true := by decide
    unfold ptA
    rw [hf, hd, hq]
    have e1 : (ofF []).1 = [] := by decide
    have e2 : ofZ [] = ([top0], 0) := by decide
    rw [e1, e2, hR]
    exact pts_nil hi f hall (rightA_len hf)

/-! ### one after another -/
def Rf (c : C) (f : List C) : List C := (rstA f c).1
theorem Rf_right (c : C) (f : List C) : rightA (Rf c f) = true := rstA_right f c
theorem Rf_eq {c : C} {f : List C} (hf : rightA f = true) (hc : singleC c = true) : Rf c f = (leastF (rstL f c)).1 := by unfold Rf rstA; rw [hf, hc]; rfl
theorem Rf_told {c : C} {f : List C} (hf : rightA f = true) (hc : singleC c = true) : (leastF (rstL f c)).2 = 0 := by
  have := rstA_told hf hc; unfold rstA at this; rw [hf, hc] at this; exact this
theorem Rf_nil {c : C} (hc : singleC c = true) : Rf c [] = [] := by rw [Rf_eq rightA_nil hc]; simp only [rstL, List.filter_nil, List.map_nil]; decide
theorem face_ext {f g : List C} (hf : rightA f = true) (hg : rightA g = true) (h1 : ∀ c ∈ f, dn g c) (h2 : ∀ c ∈ g, dn f c) : f = g := by
  have e := ent_anti hf hg (entB_mem.2 h1)
  rw [entB_mem.2 h2] at e
  exact of_decide_eq_true e.symm
theorem bl1 : ∀ (y1 y2 a1 a2 b1 b2 : Bool), ¬(((y1 && !a1) = true ∨ b1 = true) ∧ ((y2 && !a2) = true ∨ b2 = true)) → ¬((y1 = true ∨ a1 = true) ∧ (y2 = true ∨ a2 = true)) → ¬((a1 = true ∨ b1 = true) ∧ (a2 = true ∨ b2 = true)) → ¬((y1 = true ∨ (a1 || b1) = true) ∧ (y2 = true ∨ (a2 || b2) = true)) := by decide
theorem bl2 : ∀ (y1 y2 a1 a2 b1 b2 : Bool), ¬((y1 = true ∨ (a1 || b1) = true) ∧ (y2 = true ∨ (a2 || b2) = true)) → ¬((y1 = true ∨ a1 = true) ∧ (y2 = true ∨ a2 = true)) := by decide
theorem bl3 : ∀ (x1 x2 y1 y2 a1 a2 b1 b2 : Bool), ¬((y1 = true ∨ (a1 || b1) = true) ∧ (y2 = true ∨ (a2 || b2) = true)) → (x1 = true → (y1 && !a1) = true) → (x2 = true → (y2 && !a2) = true) → ¬((x1 = true ∨ b1 = true) ∧ (x2 = true ∨ b2 = true)) := by decide
theorem Rf_Rf {a b : C} {f : List C} (hf : rightA f = true) (ha : singleC a = true) (hb : singleC b = true) (hab : okC (meetC a b) = true) : Rf b (Rf a f) = Rf (meetC a b) f := by
  have hm : singleC (meetC a b) = true := singleC_iff.2 ⟨meet_right a b, hab⟩
  have hRa := Rf_right a f
  have hrow : ∀ y ∈ f, ∀ k, (y.1.val.testBit k = true → k < 24) ∧ (y.2.val.testBit k = true → k < 24) := fun y hy k => by
    have hr := rightC_iff.1 (List.all_eq_true.1 (rightF_all (rightA_right hf)) y hy)
    exact ⟨fun h => bit_lt24 hr.1 h, fun h => bit_lt24 hr.2 h⟩
  have hcut : ∀ y ∈ f, cutC b (cutC a y) = cutC (meetC a b) y := fun y hy => by
    refine c_bits (fun k => ?_) (fun k => ?_)
    · rw [(cut_bits b _ k).1, (cut_bits a y k).1, (cut_bits _ y k).1, (meet_bits a b k).1]
      cases h : y.1.val.testBit k
      · simp
      · have := (hrow y hy k).1 h; simp [this]
    · rw [(cut_bits b _ k).2, (cut_bits a y k).2, (cut_bits _ y k).2, (meet_bits a b k).2]
      cases h : y.2.val.testBit k
      · simp
      · have := (hrow y hy k).2 h; simp [this]
  rw [meet_ok] at hab
  refine face_ext (Rf_right _ _) (Rf_right _ _) (fun c hc => ?_) (fun c hc => ?_)
  · rw [Rf_eq hRa hb] at hc
    obtain ⟨x, hx, hwx, rfl⟩ := mem_rst.1 (leastF_sub c hc)
    rw [Rf_eq hf ha] at hx
    obtain ⟨y, hy, hwy, rfl⟩ := mem_rst.1 (leastF_sub x hx)
    rw [hcut y hy, Rf_eq hf hm, leastF_dn (Rf_told hf hm)]
    refine ⟨_, mem_rst.2 ⟨y, hy, ?_, rfl⟩, belC_refl _⟩
    unfold withC at hwx hwy ⊢
    rw [meet_ok] at hwx hwy ⊢
    intro k hk
    have h1 := hwx k hk
    have h2 := hwy k hk
    have h3 := hab k hk
    rw [(cut_bits a y k).1, (cut_bits a y k).2] at h1
    rw [(meet_bits a b k).1, (meet_bits a b k).2]
    simp only [hk, decide_true, Bool.true_and]
    exact bl1 _ _ _ _ _ _ h1 h2 h3
  · rw [Rf_eq hf hm] at hc
    obtain ⟨y, hy, hwy, rfl⟩ := mem_rst.1 (leastF_sub c hc)
    have hwa : withC a y = true := by
      unfold withC at hwy ⊢
      rw [meet_ok] at hwy ⊢
      intro k hk
      have h1 := hwy k hk
      rw [(meet_bits a b k).1, (meet_bits a b k).2] at h1
      simp only [hk, decide_true, Bool.true_and] at h1
      exact bl2 _ _ _ _ _ _ h1
    have hd : dn (Rf a f) (cutC a y) := by rw [Rf_eq hf ha, leastF_dn (Rf_told hf ha)]; exact ⟨_, mem_rst.2 ⟨y, hy, hwa, rfl⟩, belC_refl _⟩
    obtain ⟨x, hx, hbx⟩ := hd
    rw [← hcut y hy, Rf_eq hRa hb, leastF_dn (Rf_told hRa hb)]
    rw [belC_iff] at hbx
    refine ⟨cutC b x, mem_rst.2 ⟨x, hx, ?_, rfl⟩, belC_iff.2 ⟨fun k hk h => ?_, fun k hk h => ?_⟩⟩
    · unfold withC at hwy ⊢
      rw [meet_ok] at hwy ⊢
      intro k hk
      have h1 := hwy k hk
      have h2 := hbx.1 k hk
      have h3 := hbx.2 k hk
      rw [(meet_bits a b k).1, (meet_bits a b k).2] at h1
      rw [(cut_bits a y k).1] at h2
      rw [(cut_bits a y k).2] at h3
      simp only [hk, decide_true, Bool.true_and] at h1
      exact bl3 _ _ _ _ _ _ _ _ h1 h2 h3
    · rw [(cut_bits b x k).1, Bool.and_eq_true] at h
      rw [(cut_bits b _ k).1, Bool.and_eq_true]
      exact ⟨hbx.1 k hk h.1, h.2⟩
    · rw [(cut_bits b x k).2, Bool.and_eq_true] at h
      rw [(cut_bits b _ k).2, Bool.and_eq_true]
      exact ⟨hbx.2 k hk h.1, h.2⟩
/-! ### the faces of a term -/
def facesT (t : Tm) : List (List C) := t.sys.map Prod.fst
def neF (f : List C) : Bool := !f.isEmpty
theorem faces_d (o : DOp) (t : Tm) : facesT (dT o t 0) = ((facesT t).map fun f => (o.fc f 0).1).filter neF := by
  unfold facesT
  rw [d_eq]
  show (dS o t.kind t.sys 0).map Prod.fst = _
  unfold dS
  rw [List.map_map, List.map_map, List.filter_map]
  rfl
theorem filt_ne {g : List C → List C} (h0 : g [] = []) (l : List (List C)) : ((l.filter neF).map g).filter neF = (l.map g).filter neF := by
  induction l with
  | nil => rfl
  | cons f l ih =>
    rw [List.filter_cons, List.map_cons, List.filter_cons (xs := l.map g)]
    cases h : neF f
    · have e : f = [] := by simpa [neF] using h
      subst e
      rw [h0]
      simp only [Bool.false_eq_true, if_false]
      rw [ih]
      rfl
    · simp only [if_true, List.map_cons, List.filter_cons, ih]
/-- A step: 1 at a dimension, or 0. -/
structure DStp where
  i : Nat
  r : List C
  p : C
def DStp.ok (s : DStp) : Prop := s.i < 24 ∧ ((s.r = [top0] ∧ s.p = posB s.i) ∨ (s.r = [] ∧ s.p = negB s.i))
theorem DStp.put {s : DStp} (h : s.ok) {f : List C} (hf : rightA f = true) : (putRow ptA (s.i : Int) s.r f 0).1 = Rf s.p f := by
  obtain ⟨hi, ⟨hr, hp⟩ | ⟨hr, hp⟩⟩ := h
  · rw [hr, hp, put_one hi hf]; rfl
  · rw [hr, hp, put_nil hi hf]; rfl
theorem DStp.single {s : DStp} (h : s.ok) : singleC s.p = true := by
  obtain ⟨hi, ⟨hr, hp⟩ | ⟨hr, hp⟩⟩ := h
  · rw [hp]; exact singleC_iff.2 ⟨posB_right _, okC_iff.2 (fun k _ h => by rw [(posB_bits s.i k hi).1, (posB_bits s.i k hi).2] at h; simp at h)⟩
  · rw [hp]; exact singleC_iff.2 ⟨negB_right _, okC_iff.2 (fun k _ h => by rw [(negB_bits s.i k hi).1, (negB_bits s.i k hi).2] at h; simp at h)⟩
def dStp (t : Tm) (s : DStp) : Tm := dT (putOp s.i s.r) t 0
def meetAll (a : C) (l : List DStp) : C := l.foldl (fun a s => meetC a s.p) a
/-- Where some clause was so already, and then more. -/
theorem faces_more : ∀ (l : List DStp) (a : C) (t : Tm) (fs : List (List C)), (∀ f ∈ fs, rightA f = true) → singleC a = true → (∀ s ∈ l, s.ok) → (∀ b, (∀ k, (b.1.val.testBit k = true → (meetAll a l).1.val.testBit k = true) ∧ (b.2.val.testBit k = true → (meetAll a l).2.val.testBit k = true)) → okC b = true) → facesT t = (fs.map (Rf a)).filter neF → facesT (l.foldl dStp t) = (fs.map (Rf (meetAll a l))).filter neF
  | [], a, t, fs, _, _, _, _, h => h
  | s :: l, a, t, fs, hfs, ha, hl, hok, h => by
    have hs := hl s (by simp)
    have hsub : ∀ (l : List DStp) (a : C) (k : Nat), (∀ x, x < 24 → True) → (a.1.val.testBit k = true ∧ k < 24 → (meetAll a l).1.val.testBit k = true) ∧ (a.2.val.testBit k = true ∧ k < 24 → (meetAll a l).2.val.testBit k = true) := by
      intro l
      induction l with
      | nil => intro a k _; exact ⟨fun h => h.1, fun h => h.1⟩
      | cons s l ih =>
        intro a k hx
        have := ih (meetC a s.p) k hx
        refine ⟨fun h => this.1 ⟨?_, h.2⟩, fun h => this.2 ⟨?_, h.2⟩⟩
        · rw [(meet_bits a s.p k).1]; simp [h.1, h.2]
        · rw [(meet_bits a s.p k).2]; simp [h.1, h.2]
    have hmr := meet_right a s.p
    have hmk : okC (meetC a s.p) = true := hok _ (fun k => ⟨fun h => (hsub l (meetC a s.p) k (fun _ _ => trivial)).1 ⟨h, bit_lt24 (rightC_iff.1 hmr).1 h⟩, fun h => (hsub l (meetC a s.p) k (fun _ _ => trivial)).2 ⟨h, bit_lt24 (rightC_iff.1 hmr).2 h⟩⟩)
    have hm : singleC (meetC a s.p) = true := singleC_iff.2 ⟨hmr, hmk⟩
    rw [List.foldl_cons]
    refine faces_more l (meetC a s.p) (dStp t s) fs hfs hm (fun x hx => hl x (List.mem_cons_of_mem _ hx)) hok ?_
    unfold dStp
    rw [faces_d, h]
    have e1 : ((fs.map (Rf a)).filter neF).map (fun f => ((putOp s.i s.r).fc f 0).1) = ((fs.map (Rf a)).filter neF).map (Rf s.p) := by
      refine List.map_congr_left (fun f hf => ?_)
      obtain ⟨g, _, rfl⟩ := List.mem_map.1 ((List.mem_filter.1 hf).1)
      exact DStp.put hs (Rf_right a g)
    rw [e1, filt_ne (Rf_nil (DStp.single hs)), List.map_map]
    congr 1
    refine List.map_congr_left (fun f hf => ?_)
    exact Rf_Rf (hfs f hf) ha (DStp.single hs) hmk
/-! ### Under -/
theorem pall_ok {r : List C} : ∀ (l : List Nat) (t : Tm), (l.foldl (pallS r) (t, 0)).2 = 0 → (l.foldl (pallS r) (t, 0)).1 = l.foldl (fun t (i : Nat) => dT (putOp i r) t 0) t
  | [], t, _ => rfl
  | i :: l, t, h => by
    rw [List.foldl_cons] at h ⊢
    rw [List.foldl_cons]
    by_cases he : eT (putOp i r) t 0 = 0
    · have e : pallS r (t, 0) i = (dT (putOp i r) t 0, 0) := by unfold pallS ansD; simp [he]
      rw [e] at h ⊢
      exact pall_ok l _ h
    · have e : pallS r (t, 0) i = (noT, eT (putOp i r) t 0) := by unfold pallS; simp [he]
      rw [e, pallS_stuck l _ he] at h
      exact absurd h he
def stepsC (c : C) : List DStp := (dimsOf c.1.val).map (fun i => ⟨i, [top0], posB i⟩) ++ (dimsOf c.2.val).map (fun i => ⟨i, [], negB i⟩)
theorem steps_ok (c : C) : ∀ s ∈ stepsC c, s.ok := fun s hs => by
  unfold stepsC at hs
  rcases List.mem_append.1 hs with h | h
  · obtain ⟨i, hi, rfl⟩ := List.mem_map.1 h
    exact ⟨dimsOf_lt i hi, .inl ⟨rfl, rfl⟩⟩
  · obtain ⟨i, hi, rfl⟩ := List.mem_map.1 h
    exact ⟨dimsOf_lt i hi, .inr ⟨rfl, rfl⟩⟩
theorem und_steps {c : C} {t : Tm} (h : (undR c t).2 = 0) : (undR c t).1 = (stepsC c).foldl dStp t := by
  unfold undR at h ⊢
  by_cases h1 : (pall [top0] (dimsOf c.1.val) t).2 = 0
  · rw [if_pos h1] at h ⊢
    have e1 := pall_ok _ _ h1
    have e2 := pall_ok _ _ h
    unfold pall at e1 e2 h ⊢
    rw [e2]
    unfold stepsC
    rw [List.foldl_append, List.foldl_map, List.foldl_map]
    rw [e1]
    rfl
  · rw [if_neg h1] at h
    exact absurd h h1
theorem meetAll_bits : ∀ (l : List DStp) (a : C), rightC a = true → ∀ k, (meetAll a l).1.val.testBit k = (a.1.val.testBit k || l.any fun s => decide (k < 24) && s.p.1.val.testBit k) ∧ (meetAll a l).2.val.testBit k = (a.2.val.testBit k || l.any fun s => decide (k < 24) && s.p.2.val.testBit k)
  | [], a, _, k => by simp [meetAll]
  | s :: l, a, ha, k => by
    have h := meetAll_bits l (meetC a s.p) (meet_right a s.p) k
    have hb := fright_bits ha k
    have e : meetAll a (s :: l) = meetAll (meetC a s.p) l := rfl
    rw [e, h.1, h.2, (meet_bits a s.p k).1, (meet_bits a s.p k).2]
    simp only [List.any_cons]
    refine ⟨?_, ?_⟩
    · rw [Bool.and_or_distrib_left, hb.1, Bool.or_assoc]
    · rw [Bool.and_or_distrib_left, hb.2, Bool.or_assoc]
theorem steps_bits {c : C} (hr : rightC c = true) (k : Nat) : ((stepsC c).any fun s => decide (k < 24) && s.p.1.val.testBit k) = c.1.val.testBit k ∧ ((stepsC c).any fun s => decide (k < 24) && s.p.2.val.testBit k) = c.2.val.testBit k := by
  have hb := fright_bits hr k
  unfold stepsC
  refine ⟨?_, ?_⟩
  · rw [Bool.eq_iff_iff, List.any_eq_true]
    constructor
    · rintro ⟨s, hs, h⟩
      rw [Bool.and_eq_true, decide_eq_true_eq] at h
      rcases List.mem_append.1 hs with h1 | h1
      · obtain ⟨i, hi, rfl⟩ := List.mem_map.1 h1
        have := (posB_bits i k (dimsOf_lt i hi)).1
        rw [this, decide_eq_true_eq] at h
        obtain ⟨_, rfl⟩ := h
        exact (mem_dimsOf.1 hi).2
      · obtain ⟨i, hi, rfl⟩ := List.mem_map.1 h1
        have := (negB_bits i k (dimsOf_lt i hi)).1
        rw [this] at h
        exact absurd h.2 (by simp)
    · intro h
      have hk : k < 24 := bit_lt24 (rightC_iff.1 hr).1 h
      exact ⟨⟨k, [top0], posB k⟩, List.mem_append_left _ (List.mem_map_of_mem (mem_dimsOf.2 ⟨hk, h⟩)), by rw [(posB_bits k k hk).1]; simp [hk]⟩
  · rw [Bool.eq_iff_iff, List.any_eq_true]
    constructor
    · rintro ⟨s, hs, h⟩
      rw [Bool.and_eq_true, decide_eq_true_eq] at h
      rcases List.mem_append.1 hs with h1 | h1
      · obtain ⟨i, hi, rfl⟩ := List.mem_map.1 h1
        have := (posB_bits i k (dimsOf_lt i hi)).2
        rw [this] at h
        exact absurd h.2 (by simp)
      · obtain ⟨i, hi, rfl⟩ := List.mem_map.1 h1
        have := (negB_bits i k (dimsOf_lt i hi)).2
        rw [this, decide_eq_true_eq] at h
        obtain ⟨_, rfl⟩ := h
        exact (mem_dimsOf.1 hi).2
    · intro h
      have hk : k < 24 := bit_lt24 (rightC_iff.1 hr).2 h
      exact ⟨⟨k, [], negB k⟩, List.mem_append_right _ (List.mem_map_of_mem (mem_dimsOf.2 ⟨hk, h⟩)), by rw [(negB_bits k k hk).2]; simp [hk]⟩
theorem faces_und {c : C} {t : Tm} (hc : singleC c = true) (hf : ∀ f ∈ facesT t, rightA f = true) (h : (undR c t).2 = 0) : facesT (undR c t).1 = if c = top0 then facesT t else ((facesT t).map (Rf c)).filter neF := by
  rw [und_steps h]
  have hr := (singleC_iff.1 hc).1
  have hk := (singleC_iff.1 hc).2
  have hok := steps_ok c
  have hbits := steps_bits hr
  cases hs : stepsC c with
  | nil =>
    have e : c = top0 := by
      refine c_bits (fun k => ?_) (fun k => ?_)
      · rw [← (hbits k).1, hs]; simp [top0]
      · rw [← (hbits k).2, hs]; simp [top0]
    rw [if_pos e]; rfl
  | cons s l =>
    rw [hs] at hok hbits
    have hso := hok s (by simp)
    have hsr := (singleC_iff.1 (DStp.single hso)).1
    have hm : meetAll s.p l = c := by
      refine c_bits (fun k => ?_) (fun k => ?_)
      · rw [(meetAll_bits l s.p hsr k).1, ← (hbits k).1, List.any_cons, (fright_bits hsr k).1]
      · rw [(meetAll_bits l s.p hsr k).2, ← (hbits k).2, List.any_cons, (fright_bits hsr k).2]
    have hne : c ≠ top0 := by
      intro e
      obtain ⟨hi, ⟨_, hp⟩ | ⟨_, hp⟩⟩ := hso
      · have := (hbits s.i).1
        rw [e, List.any_cons, hp, (posB_bits s.i s.i hi).1] at this
        simp [hi, top0] at this
      · have := (hbits s.i).2
        rw [e, List.any_cons, hp, (negB_bits s.i s.i hi).2] at this
        simp [hi, top0] at this
    rw [if_neg hne, List.foldl_cons]
    have h1 : facesT (dStp t s) = ((facesT t).map (Rf s.p)).filter neF := by
      unfold dStp
      rw [faces_d]
      congr 1
      exact List.map_congr_left (fun f hff => DStp.put hso (hf f hff))
    have h2 := faces_more l s.p (dStp t s) (facesT t) hf (DStp.single hso) (fun x hx => hok x (List.mem_cons_of_mem _ hx)) (fun b hb => by
      rw [hm] at hb
      rw [okC_iff]
      intro k hk24 hx
      exact okC_iff.1 hk k hk24 ⟨(hb k).1 hx.1, (hb k).2 hx.2⟩) h1
    rw [h2, hm]
theorem faces_right {t : Tm} (h : wrongN true 0 0 t = 0) : ∀ f ∈ facesT t, rightA f = true := by
  unfold wrongN at h
  split at h
  · cases h
  · split at h
    · rename_i h2
      rw [ok_eq, Bool.and_eq_true] at h2
      have h1 := h2.1
      unfold Tm.node nodeB at h1
      simp only [Bool.and_eq_true] at h1
      intro f hf
      obtain ⟨b, hb, rfl⟩ := List.mem_map.1 hf
      have := List.all_eq_true.1 h1.2 (b.1, b.2.length) (List.mem_map_of_mem hb)
      unfold brB at this
      simp only [Bool.and_eq_true] at this
      exact this.1.2
    · cases h
/-! ### those that are kept -/
def keepP (c : C) (g : List C) : Bool := decide (c = top0) || neF g
def FSc (c : C) (fs : List (List C)) : List (List C) := (fs.map (Rf c)).filter (keepP c)
def kN (c : C) (fs : List (List C)) (j : Nat) : Nat := (((fs.map (Rf c)).take j).filter (keepP c)).length
theorem kN_zero (c : C) (fs : List (List C)) : kN c fs 0 = 0 := by simp [kN]
theorem kN_le (c : C) (fs : List (List C)) (j : Nat) : kN c fs j ≤ j := Nat.le_trans (List.length_filter_le _ _) (by rw [List.length_take]; omega)
theorem kN_end (c : C) (fs : List (List C)) : kN c fs fs.length = (FSc c fs).length := by unfold kN FSc; rw [List.take_of_length_le (by simp)]
theorem kN_no {c : C} {fs : List (List C)} {j : Nat} {f : List C} (h : fs[j]? = some f) (hs : keepP c (Rf c f) = false) : kN c fs (j + 1) = kN c fs j := by
  unfold kN; rw [List.take_add_one, List.getElem?_map, h]; simp [List.filter_append, hs]
theorem kN_yes {c : C} {fs : List (List C)} {j : Nat} {f : List C} (h : fs[j]? = some f) (hs : keepP c (Rf c f) = true) : kN c fs (j + 1) = kN c fs j + 1 := by
  unfold kN; rw [List.take_add_one, List.getElem?_map, h]; simp [List.filter_append, hs]
theorem FSc_at {c : C} {fs : List (List C)} {j : Nat} {f : List C} (h : fs[j]? = some f) (hs : keepP c (Rf c f) = true) : (FSc c fs)[kN c fs j]? = some (Rf c f) := by
  have h' : (fs.map (Rf c))[j]? = some (Rf c f) := by rw [List.getElem?_map, h]; rfl
  unfold FSc kN
  generalize fs.map (Rf c) = l at h' ⊢
  have hl : l = l.take j ++ Rf c f :: l.drop (j + 1) := by
    have hj := (List.getElem?_eq_some_iff.1 h').1
    rw [List.getElem?_eq_getElem hj] at h'
    injection h' with h'
    rw [← h', List.getElem_cons_drop]
    exact (List.take_append_drop j l).symm
  conv => lhs; arg 1; rw [hl]
  rw [List.filter_append, List.getElem?_append_right (by simp)]
  simp [hs]
theorem faces_undA {c : C} {t : Tm} (hc : rightA [c] = true) (hw : wrongN true 0 0 t = 0) (h : (undA c t).2 = 0) : facesT (undA c t).1 = FSc c (facesT t) := by
  have hs : singleC c = true := by
    have h1 := rightA_iff.1 hc
    exact singleC_iff.2 ⟨by have := rightF_all h1.1; simpa using this, h1.2 c (by simp)⟩
  have hf := faces_right hw
  unfold undA at h ⊢
  rw [hw, if_pos rfl, if_pos hc] at h ⊢
  rw [faces_und hs hf h]
  unfold FSc
  split
  · rename_i e
    subst e
    have e1 : (facesT t).map (Rf top0) = facesT t := by
      conv => rhs; rw [← List.map_id (facesT t)]
      refine List.map_congr_left (fun f hff => ?_)
      have hfa := hf f hff
      rw [Rf_eq hfa hs]
      have e2 : rstL f top0 = f := by
        unfold rstL
        have hall : ∀ a ∈ f, okC a = true := rightA_ok hfa
        rw [List.filter_eq_self.2 (fun a ha => by
          unfold withC
          rw [meet_ok]
          intro k hk
          have := okC_iff.1 (hall a ha) k hk
          simpa [top0] using this)]
        conv => rhs; rw [← List.map_id f]
        refine List.map_congr_left (fun a _ => c_bits (fun k => ?_) (fun k => ?_))
        · rw [(cut_bits _ a k).1]; simp [top0]
        · rw [(cut_bits _ a k).2]; simp [top0]
      rw [e2, rightF_eq (rightA_right hfa)]
      rfl
    rw [e1, List.filter_eq_self.2 (fun _ _ => by simp [keepP])]
  · rename_i e
    refine List.filter_congr (fun f _ => ?_)
    simp [keepP, e]
end Go.Proofs.YtjimednocmdpnaaGreat

namespace Go.Proofs.YtjimednocmdpnaaGreat
open Go.RowKit
set_option linter.unusedVariables false
set_option linter.unusedSimpArgs false

theorem meet_top' {c : C} (h : rightC c = true) : meetC c top0 = c := by
  have h1 := fright_bits h
  refine c_bits (fun k => ?_) (fun k => ?_)
  · rw [(meet_bits c top0 k).1]; rw [← (h1 k).1]; simp [top0]
  · rw [(meet_bits c top0 k).2]; rw [← (h1 k).2]; simp [top0]
theorem meetR_top {c : C} (h : rightC c = true) : meetR [c] [top0] = ([c], 0) := by rw [meet_one, meet_top' h]
theorem meetR_nil (l : List C) : meetR l [] = ([], 0) := by
  have e2 : pairsC l [] = [] := by simp [pairsC]
  unfold meetR; rw [e2]; decide
theorem meetR_nill (l : List C) : meetR [] l = ([], 0) := by
  have e2 : pairsC [] l = [] := by simp [pairsC]
  unfold meetR; rw [e2]; decide
theorem inF_iff {l : List C} {k : Nat} : inF l k = true ↔ ∃ c ∈ l, c.1.val.testBit k = true ∨ c.2.val.testBit k = true := by
  unfold inF; rw [List.any_eq_true]; simp only [Bool.or_eq_true]
theorem lift_nil24 : ∀ bd : Fin 24, liftFF [] 0 ((bd.val : Nat) : Int) = ([], 0) := by decide +kernel
theorem lift_top24 : ∀ bd : Fin 24, liftFF [top0] 0 ((bd.val : Nat) : Int) = ([top0], 0) := by decide +kernel

/-! ### one -/
def cut_oneL (l : List C) (j : Nat) : List C := (l.filter fun c => !c.2.val.testBit j).map fun c => outC c (j : Int)
theorem part_one {c : C} {j : Nat} (hj : j < 24) : partF c (j : Int) [top0] ([], 0) = (if c.2.val.testBit j then [] else [outC c (j : Int)], 0) := by
  have hB1 : hasB c.1.val (j : Int) = c.1.val.testBit j := hasB_nat hj
  have hB2 : hasB c.2.val (j : Int) = c.2.val.testBit j := hasB_nat hj
  have hr := out_right c (j : Int)
  unfold partF partA
  rw [hB1, hB2]
  cases h1 : c.1.val.testBit j <;> cases h2 : c.2.val.testBit j <;> simp [meetR_top hr, meetR_nil, meetR_nill]
theorem fputs_one {j : Nat} (hj : j < 24) (f : List C) : f.length ≤ 64 → putS f (j : Int) [top0] ([], 0) = leastF (cut_oneL f j) := by
  induction f using snoc_ind with
  | nil => intro _; simp only [putS, List.foldl_nil, cut_oneL, List.filter_nil, List.map_nil]; decide
  | snoc f c ih =>
    intro hl
    have hl2 : f.length ≤ 64 := by simp at hl; omega
    have hA : (cut_oneL f j).all rightC = true := all_mem (fun x hx => by obtain ⟨a, _, rfl⟩ := List.mem_map.1 hx; exact out_right a _)
    have h0 : (leastF (cut_oneL f j)).2 = 0 := least_small hA (by unfold cut_oneL; rw [List.length_map]; exact Nat.le_trans (List.length_filter_le _ _) hl2)
    rw [putS_snoc, ih hl2]
    have e := leastF_pair h0
    rw [e, stepP_some, part_one hj, if_pos rfl]
    have e2 : cut_oneL (f ++ [c]) j = cut_oneL f j ++ (if c.2.val.testBit j then [] else [outC c (j : Int)]) := by
      unfold cut_oneL
      rw [List.filter_append, List.map_append]
      congr 1
      cases h : c.2.val.testBit j <;> simp [h]
    rw [e2]
    show leastF ((leastF (cut_oneL f j)).1 ++ _) = _
    refine least_more hA (all_mem (fun x hx => ?_)) h0
    split at hx
    · cases hx
    · rw [List.mem_singleton.1 hx]; exact out_right c j
theorem fput_one {j : Nat} (hj : j < 24) {l : List C} (hl : rightF l = true) : putF l (j : Int) [top0] = leastF (cut_oneL l j) ∧ (leastF (cut_oneL l j)).2 = 0 := by
  have hA : (cut_oneL l j).all rightC = true := all_mem (fun x hx => by obtain ⟨a, _, rfl⟩ := List.mem_map.1 hx; exact out_right a _)
  refine ⟨?_, least_small hA (by unfold cut_oneL; rw [List.length_map]; exact Nat.le_trans (List.length_filter_le _ _) (rightF_len hl))⟩
  rw [putF_ok hl (by decide) (isDimB_nat hj)]
  unfold putR
  have e : notR [top0] = ([], 0) := by decide
  rw [e]
  exact fputs_one hj l (rightF_len hl)
theorem fput_one_in {j k : Nat} (hj : j < 24) {l : List C} (h : inF (leastF (cut_oneL l j)).1 k = true) : inF l k = true ∧ k ≠ j := by
  obtain ⟨c, hc, hb⟩ := inF_iff.1 h
  obtain ⟨a, ha, rfl⟩ := List.mem_map.1 (leastF_sub c hc)
  rw [(out_bits a j k hj).1, (out_bits a j k hj).2] at hb
  simp only [Bool.and_eq_true, Bool.not_eq_true', decide_eq_true_eq, decide_eq_false_iff_not] at hb
  have ha' := (List.mem_filter.1 ha).1
  rcases hb with ⟨⟨_, h1⟩, h2⟩ | ⟨⟨_, h1⟩, h2⟩
  · exact ⟨inF_iff.2 ⟨a, ha', .inl h1⟩, fun e => h2 e.symm⟩
  · exact ⟨inF_iff.2 ⟨a, ha', .inr h1⟩, fun e => h2 e.symm⟩
theorem aput_one {j : Nat} (hj : j < 24) {f : List C} (hf : rightA f = true) : ptA f (j : Int) [top0] = leastF (rstL f (posB j)) ∧ (leastF (rstL f (posB j))).2 = 0 := by
  have hall : ∀ c ∈ f, rightC c = true ∧ okC c = true := fun c hc => ⟨List.all_eq_true.1 (rightF_all (rightA_right hf)) c hc, rightA_ok hf c hc⟩
  have hA : (rstL f (posB j)).all rightC = true := all_mem (rst_right' (fun x hx => (hall x hx).1) _)
  refine ⟨?_, least_small hA (Nat.le_trans (rst_len f _) (rightA_len hf))⟩
  have hd : isDimB (j : Int) = true := isDimB_nat hj
  have hq : rightF [top0] = true := by decide
  unfold ptA
  rw [hf, hd, hq]
  have e1 : (ofF [top0]).1 = [top0] := by decide
  have e2 : ofZ [top0] = ([], 0) := by decide
  rw [e1, e2]
  exact pts_one hj f hall (rightA_len hf)
theorem aput_one_in {j k : Nat} (hj : j < 24) {f : List C} (hf : rightA f = true) (h : inF (leastF (rstL f (posB j))).1 k = true) : inF f k = true ∧ k ≠ j := by
  obtain ⟨c, hc, hb⟩ := inF_iff.1 h
  obtain ⟨a, ha, hw, rfl⟩ := mem_rst.1 (leastF_sub c hc)
  rw [with_one hj (rightA_ok hf a ha), Bool.not_eq_true'] at hw
  rw [cut_one hj (List.all_eq_true.1 (rightF_all (rightA_right hf)) a ha) (rightA_ok hf a ha) hw] at hb
  rw [(out_bits a j k hj).1, (out_bits a j k hj).2] at hb
  simp only [Bool.and_eq_true, Bool.not_eq_true', decide_eq_true_eq, decide_eq_false_iff_not] at hb
  rcases hb with ⟨⟨_, h1⟩, h2⟩ | ⟨⟨_, h1⟩, h2⟩
  · exact ⟨inF_iff.2 ⟨a, ha, .inl h1⟩, fun e => h2 e.symm⟩
  · exact ⟨inF_iff.2 ⟨a, ha, .inr h1⟩, fun e => h2 e.symm⟩

/-! ### nil -/
def cut_nilL (l : List C) (j : Nat) : List C := (l.filter fun c => !c.1.val.testBit j).map fun c => outC c (j : Int)
theorem part_nil {c : C} {j : Nat} (hj : j < 24) : partF c (j : Int) [] ([top0], 0) = (if c.1.val.testBit j then [] else [outC c (j : Int)], 0) := by
  have hB1 : hasB c.1.val (j : Int) = c.1.val.testBit j := hasB_nat hj
  have hB2 : hasB c.2.val (j : Int) = c.2.val.testBit j := hasB_nat hj
  have hr := out_right c (j : Int)
  unfold partF partA
  rw [hB1, hB2]
  cases h1 : c.1.val.testBit j <;> cases h2 : c.2.val.testBit j <;> simp [meetR_top hr, meetR_nil, meetR_nill]
theorem fputs_nil {j : Nat} (hj : j < 24) (f : List C) : f.length ≤ 64 → putS f (j : Int) [] ([top0], 0) = leastF (cut_nilL f j) := by
  induction f using snoc_ind with
  | nil => intro _; simp only [putS, List.foldl_nil, cut_nilL, List.filter_nil, List.map_nil]; decide
  | snoc f c ih =>
    intro hl
    have hl2 : f.length ≤ 64 := by simp at hl; omega
    have hA : (cut_nilL f j).all rightC = true := all_mem (fun x hx => by obtain ⟨a, _, rfl⟩ := List.mem_map.1 hx; exact out_right a _)
    have h0 : (leastF (cut_nilL f j)).2 = 0 := least_small hA (by unfold cut_nilL; rw [List.length_map]; exact Nat.le_trans (List.length_filter_le _ _) hl2)
    rw [putS_snoc, ih hl2]
    have e := leastF_pair h0
    rw [e, stepP_some, part_nil hj, if_pos rfl]
    have e2 : cut_nilL (f ++ [c]) j = cut_nilL f j ++ (if c.1.val.testBit j then [] else [outC c (j : Int)]) := by
      unfold cut_nilL
      rw [List.filter_append, List.map_append]
      congr 1
      cases h : c.1.val.testBit j <;> simp [h]
    rw [e2]
    show leastF ((leastF (cut_nilL f j)).1 ++ _) = _
    refine least_more hA (all_mem (fun x hx => ?_)) h0
    split at hx
    · cases hx
    · rw [List.mem_singleton.1 hx]; exact out_right c j
theorem fput_nil {j : Nat} (hj : j < 24) {l : List C} (hl : rightF l = true) : putF l (j : Int) [] = leastF (cut_nilL l j) ∧ (leastF (cut_nilL l j)).2 = 0 := by
  have hA : (cut_nilL l j).all rightC = true := all_mem (fun x hx => by obtain ⟨a, _, rfl⟩ := List.mem_map.1 hx; exact out_right a _)
  refine ⟨?_, least_small hA (by unfold cut_nilL; rw [List.length_map]; exact Nat.le_trans (List.length_filter_le _ _) (rightF_len hl))⟩
  rw [putF_ok hl (by decide) (isDimB_nat hj)]
  unfold putR
  have e : notR [] = ([top0], 0) := by decide
  rw [e]
  exact fputs_nil hj l (rightF_len hl)
theorem fput_nil_in {j k : Nat} (hj : j < 24) {l : List C} (h : inF (leastF (cut_nilL l j)).1 k = true) : inF l k = true ∧ k ≠ j := by
  obtain ⟨c, hc, hb⟩ := inF_iff.1 h
  obtain ⟨a, ha, rfl⟩ := List.mem_map.1 (leastF_sub c hc)
  rw [(out_bits a j k hj).1, (out_bits a j k hj).2] at hb
  simp only [Bool.and_eq_true, Bool.not_eq_true', decide_eq_true_eq, decide_eq_false_iff_not] at hb
  have ha' := (List.mem_filter.1 ha).1
  rcases hb with ⟨⟨_, h1⟩, h2⟩ | ⟨⟨_, h1⟩, h2⟩
  · exact ⟨inF_iff.2 ⟨a, ha', .inl h1⟩, fun e => h2 e.symm⟩
  · exact ⟨inF_iff.2 ⟨a, ha', .inr h1⟩, fun e => h2 e.symm⟩
theorem aput_nil {j : Nat} (hj : j < 24) {f : List C} (hf : rightA f = true) : ptA f (j : Int) [] = leastF (rstL f (negB j)) ∧ (leastF (rstL f (negB j))).2 = 0 := by
  have hall : ∀ c ∈ f, rightC c = true ∧ okC c = true := fun c hc => ⟨List.all_eq_true.1 (rightF_all (rightA_right hf)) c hc, rightA_ok hf c hc⟩
  have hA : (rstL f (negB j)).all rightC = true := all_mem (rst_right' (fun x hx => (hall x hx).1) _)
  refine ⟨?_, least_small hA (Nat.le_trans (rst_len f _) (rightA_len hf))⟩
  have hd : isDimB (j : Int) = true := isDimB_nat hj
  have hq : rightF [] = true := by decide
  unfold ptA
  rw [hf, hd, hq]
  have e1 : (ofF []).1 = [] := by decide
  have e2 : ofZ [] = ([top0], 0) := by decide
  rw [e1, e2]
  exact pts_nil hj f hall (rightA_len hf)
theorem aput_nil_in {j k : Nat} (hj : j < 24) {f : List C} (hf : rightA f = true) (h : inF (leastF (rstL f (negB j))).1 k = true) : inF f k = true ∧ k ≠ j := by
  obtain ⟨c, hc, hb⟩ := inF_iff.1 h
  obtain ⟨a, ha, hw, rfl⟩ := mem_rst.1 (leastF_sub c hc)
  rw [with_nil hj (rightA_ok hf a ha), Bool.not_eq_true'] at hw
  rw [cut_nil hj (List.all_eq_true.1 (rightF_all (rightA_right hf)) a ha) (rightA_ok hf a ha) hw] at hb
  rw [(out_bits a j k hj).1, (out_bits a j k hj).2] at hb
  simp only [Bool.and_eq_true, Bool.not_eq_true', decide_eq_true_eq, decide_eq_false_iff_not] at hb
  rcases hb with ⟨⟨_, h1⟩, h2⟩ | ⟨⟨_, h1⟩, h2⟩
  · exact ⟨inF_iff.2 ⟨a, ha, .inl h1⟩, fun e => h2 e.symm⟩
  · exact ⟨inF_iff.2 ⟨a, ha, .inr h1⟩, fun e => h2 e.symm⟩

/-! ### a row -/
theorem put_no {PF : List C → Int → List C → List C × Int} {i bd : Nat} {r l : List C} (h : i + bd < 24 → inF l (i + bd) = false) : putRow PF (i : Int) r l bd = (l, 0) := by
  unfold putRow
  have e : hasB (dimsN l) ((i : Int) + (bd : Int)) = false := by
    have e1 : ((i : Int) + (bd : Int)) = ((i + bd : Nat) : Int) := by omega
    rw [e1]
    by_cases h24 : i + bd < 24
    · rw [hasB_nat h24, dimsN_bit, h h24]; simp
    · exact hasB_no (by simp [isDimB]; omega)
  rw [e]; rfl
theorem put_yes {PF : List C → Int → List C → List C × Int} {s : DStp} (hs : s.ok) {bd : Nat} {l : List C} (h24 : s.i + bd < 24) (h : inF l (s.i + bd) = true) : putRow PF (s.i : Int) s.r l bd = PF l ((s.i + bd : Nat) : Int) s.r := by
  unfold putRow
  have e1 : ((s.i : Int) + (bd : Int)) = ((s.i + bd : Nat) : Int) := by omega
  rw [e1, hasB_nat h24, dimsN_bit, h]
  have e2 : liftFF s.r 0 (bd : Int) = (s.r, 0) := by
    rcases hs.2 with ⟨hr, _⟩ | ⟨hr, _⟩
    · rw [hr]; exact lift_top24 ⟨bd, by omega⟩
    · rw [hr]; exact lift_nil24 ⟨bd, by omega⟩
  rw [e2]
  simp [h24]
theorem row_cases {i bd : Nat} {l : List C} : (i + bd < 24 ∧ inF l (i + bd) = true) ∨ (i + bd < 24 → inF l (i + bd) = false) := by
  by_cases h : i + bd < 24
  · cases hh : inF l (i + bd)
    · exact .inr (fun _ => rfl)
    · exact .inl ⟨h, rfl⟩
  · exact .inr (fun h' => absurd h' h)
theorem rowF {s : DStp} (hs : s.ok) {l : List C} (hl : rightF l = true) (bd : Nat) : ((putOp s.i s.r).fn l bd).2 = 0 ∧ rightF ((putOp s.i s.r).fn l bd).1 = true ∧ ∀ k, k < 24 → inF ((putOp s.i s.r).fn l bd).1 k = true → inF l k = true ∧ k ≠ s.i + bd := by
  show (putRow putF (s.i : Int) s.r l bd).2 = 0 ∧ rightF (putRow putF (s.i : Int) s.r l bd).1 = true ∧ ∀ k, k < 24 → inF (putRow putF (s.i : Int) s.r l bd).1 k = true → inF l k = true ∧ k ≠ s.i + bd
  rcases row_cases (i := s.i) (bd := bd) (l := l) with ⟨h24, h⟩ | h
  · rw [put_yes hs h24 h]
    rcases hs.2 with ⟨hr, _⟩ | ⟨hr, _⟩
    · rw [hr]
      obtain ⟨e1, e2⟩ := fput_one h24 hl
      rw [e1]
      exact ⟨e2, leastF_right _, fun k _ hk => fput_one_in h24 hk⟩
    · rw [hr]
      obtain ⟨e1, e2⟩ := fput_nil h24 hl
      rw [e1]
      exact ⟨e2, leastF_right _, fun k _ hk => fput_nil_in h24 hk⟩
  · rw [put_no h]
    exact ⟨rfl, hl, fun k hk hi => ⟨hi, fun e => by subst e; rw [h hk] at hi; cases hi⟩⟩
theorem rowA {s : DStp} (hs : s.ok) {l : List C} (hl : rightA l = true) (bd : Nat) : ((putOp s.i s.r).fc l bd).2 = 0 ∧ rightA ((putOp s.i s.r).fc l bd).1 = true ∧ ∀ k, k < 24 → inF ((putOp s.i s.r).fc l bd).1 k = true → inF l k = true ∧ k ≠ s.i + bd := by
  show (putRow ptA (s.i : Int) s.r l bd).2 = 0 ∧ rightA (putRow ptA (s.i : Int) s.r l bd).1 = true ∧ ∀ k, k < 24 → inF (putRow ptA (s.i : Int) s.r l bd).1 k = true → inF l k = true ∧ k ≠ s.i + bd
  rcases row_cases (i := s.i) (bd := bd) (l := l) with ⟨h24, h⟩ | h
  · rw [put_yes hs h24 h]
    have hR := ptA_right l ((s.i + bd : Nat) : Int) s.r
    rcases hs.2 with ⟨hr, _⟩ | ⟨hr, _⟩
    · rw [hr] at hR ⊢
      obtain ⟨e1, e2⟩ := aput_one h24 hl
      refine ⟨by rw [e1]; exact e2, hR, fun k _ hk => ?_⟩
      rw [e1] at hk
      exact aput_one_in h24 hl hk
    · rw [hr] at hR ⊢
      obtain ⟨e1, e2⟩ := aput_nil h24 hl
      refine ⟨by rw [e1]; exact e2, hR, fun k _ hk => ?_⟩
      rw [e1] at hk
      exact aput_nil_in h24 hl hk
  · rw [put_no h]
    exact ⟨rfl, hl, fun k hk hi => ⟨hi, fun e => by subst e; rw [h hk] at hi; cases hi⟩⟩
theorem bit_in {l : List C} {k : Nat} : (dimsN l).testBit k = true ↔ k < 24 ∧ inF l k = true := by rw [dimsN_bit, Bool.and_eq_true, decide_eq_true_eq]
theorem reach_sub {o : Bool} {e : Nat} {r r' : List C} (h : reachB o e r = true) (hs : ∀ k, k < 24 → inF r' k = true → inF r k = true) : reachB o e r' = true := by
  unfold reachB at h ⊢
  cases o
  · simp only [Bool.false_or, decide_eq_true_eq] at h ⊢
    refine Nat.eq_of_testBit_eq (fun j => ?_)
    rw [Nat.zero_testBit, Nat.testBit_div_two_pow]
    cases hb : (dimsN r').testBit (j + e)
    · rfl
    · have h1 := bit_in.1 hb
      have h2 : (dimsN r).testBit (j + e) = true := bit_in.2 ⟨h1.1, hs _ h1.1 h1.2⟩
      have h3 : (dimsN r / 2 ^ e).testBit j = true := by rw [Nat.testBit_div_two_pow]; exact h2
      rw [h, Nat.zero_testBit] at h3
      cases h3
  · rfl
theorem own_ok {s : DStp} (hs : s.ok) {o : Bool} {e : Nat} {k : Int} {r : List C} (h : rowB o e k r = true) (bd : Nat) : (ownP (putOp s.i s.r) k r bd).2 = 0 ∧ rowB o e k (ownP (putOp s.i s.r) k r bd).1 = true ∧ ∀ j, j < 24 → inF (ownP (putOp s.i s.r) k r bd).1 j = true → inF r j = true ∧ j ≠ s.i + bd := by
  unfold rowB at h ⊢
  by_cases h1 : k = 13 ∨ k = 21 ∨ k = 26
  · have hk : ¬ k = 14 := by omega
    rw [if_pos h1, Bool.and_eq_true] at h
    obtain ⟨a, b, c⟩ := rowF hs h.1 bd
    unfold ownP
    rw [if_neg hk, if_pos h1, b]
    exact ⟨a, by rw [Bool.true_and]; exact reach_sub h.2 (fun j hj hi => (c j hj hi).1), c⟩
  · rw [if_neg h1] at h ⊢
    by_cases hk : k = 14
    · rw [if_pos hk, Bool.and_eq_true] at h
      obtain ⟨a, b, c⟩ := rowA hs h.1 bd
      unfold ownP
      rw [if_pos hk, if_pos hk, b]
      exact ⟨a, by rw [Bool.true_and]; exact reach_sub h.2 (fun j hj hi => (c j hj hi).1), c⟩
    · rw [if_neg hk, decide_eq_true_eq] at h
      obtain rfl := List.length_eq_zero_iff.1 h
      have e : (putOp s.i s.r).fn [] bd = ([], 0) := put_no (fun _ => rfl)
      unfold ownP
      rw [if_neg hk, if_neg hk, e]
      exact ⟨rfl, rfl, fun j _ hj => by cases hj⟩
/-! ### a term -/
/-- No branch whose face is never. -/
def neT : Tm → Prop := Tm.fold fun _ _ _ _ ks sys => (∀ p ∈ ks, p) ∧ ∀ b ∈ sys, b.1 ≠ [] ∧ ∀ p ∈ b.2, p
theorem ne_eq (t : Tm) : neT t ↔ (∀ x ∈ t.kids, neT x) ∧ ∀ b ∈ t.sys, b.1 ≠ [] ∧ ∀ x ∈ b.2, neT x := by
  unfold neT
  rw [fold_mk]
  simp only [List.mem_map, forall_exists_index, and_imp, forall_apply_eq_imp_iff₂]
theorem dK_mem {o : DOp} {k : Int} {l : List Tm} {bd : Nat} {y : Tm} (h : y ∈ dK o k l bd) : ∃ i x, l[i]? = some x ∧ y = dT o x (bd + bdK k i) := by
  unfold dK at h
  obtain ⟨p, hp, rfl⟩ := List.mem_map.1 h
  obtain ⟨i, hi⟩ := List.mem_iff_getElem?.1 hp
  rw [List.getElem?_zipIdx] at hi
  cases hx : l[i]? with
  | none => rw [hx] at hi; cases hi
  | some x => rw [hx] at hi; simp at hi; subst hi; exact ⟨i, x, hx, rfl⟩
theorem dS_mem {o : DOp} {k : Int} {l : List (List C × List Tm)} {bd : Nat} {y : List C × List Tm} (h : y ∈ dS o k l bd) : ∃ b ∈ l, stayB o bd b.1 = true ∧ y = dB o k b bd := by
  unfold dS at h
  obtain ⟨b, hb, rfl⟩ := List.mem_map.1 h
  exact ⟨b, (List.mem_filter.1 hb).1, (List.mem_filter.1 hb).2, rfl⟩
theorem d_pts {o : DOp} {t : Tm} {bd : Nat} {p : Tm × Nat × Nat} (h : p ∈ (dT o t bd).pts) : ∃ q ∈ t.pts, q.2 = p.2 ∧ p.1 = dT o q.1 (bd + q.2.2) := by
  rw [d_eq] at h
  rcases mem_pts h with ⟨i, h1, h2⟩ | ⟨b, h1, h2, h3⟩
  · dsimp only at h1 h2
    obtain ⟨x, hx⟩ := someL (l := t.kids) (k := i) (by rw [← dK_len o t.kind t.kids bd]; exact some_lt h1)
    rw [dK_get hx] at h1
    injection h1 with h1
    exact ⟨_, pts_kid hx, h2.symm, h1.symm⟩
  · dsimp only at h1 h2 h3
    obtain ⟨b0, hb0, _, rfl⟩ := dS_mem h1
    unfold dB at h2
    dsimp only at h2
    obtain ⟨x, hx, e⟩ := List.mem_map.1 h2
    exact ⟨_, pts_sys hb0 hx, h3.symm, e.symm⟩
theorem depth_d {o : DOp} : ∀ (n : Nat) (t : Tm) (bd : Nat), blk t ≤ n → depthT (dT o t bd) ≤ depthT t
  | 0, t, bd, hn => by have := blk_pos t; omega
  | n + 1, t, bd, hn => by
    have e := depth_eq (dT o t bd)
    rw [d_eq] at e ⊢
    rw [e, depth_eq t]
    dsimp only
    have h2 : dpL (dK o t.kind t.kids bd) ≤ dpL t.kids := maxL_le fun x hx => by
      obtain ⟨y, hy, rfl⟩ := List.mem_map.1 hx
      obtain ⟨i, z, hz, rfl⟩ := dK_mem hy
      have hm := List.mem_of_getElem? hz
      exact Nat.le_trans (depth_d n z _ (by have := blk_kid hm; omega)) (maxL_mem (List.mem_map_of_mem hm))
    have h3 : dpS (dS o t.kind t.sys bd) ≤ dpS t.sys := maxL_le fun x hx => by
      obtain ⟨y, hy, rfl⟩ := List.mem_map.1 hx
      obtain ⟨b, hb, _, rfl⟩ := dS_mem hy
      refine Nat.le_trans ?_ (maxL_mem (List.mem_map_of_mem (f := fun b : List C × List Tm => dpL b.2) hb))
      show dpL (b.2.map fun x => dT o x (bd + moreK t.kind)) ≤ dpL b.2
      refine maxL_le fun x hx => ?_
      obtain ⟨y, hy, rfl⟩ := List.mem_map.1 hx
      obtain ⟨z, hz, rfl⟩ := List.mem_map.1 hy
      exact Nat.le_trans (depth_d n z _ (by have := blk_sub hb hz; omega)) (maxL_mem (List.mem_map_of_mem hz))
    omega
/-- Nothing is refused. -/
theorem e_ok {s : DStp} (hs : s.ok) {o : Bool} {V : Int} {D : Nat} : ∀ (n : Nat) (t : Tm) (bd bv b2 : Nat), blk t ≤ n → okT o V D t bv b2 = true → eT (putOp s.i s.r) t bd = 0
  | 0, t, bd, bv, b2, hn, _ => by have := blk_pos t; omega
  | n + 1, t, bd, bv, b2, hn, h => by
    rw [ok_eq, Bool.and_eq_true] at h
    obtain ⟨h1, h2⟩ := h
    rw [List.all_eq_true] at h2
    unfold Tm.node nodeB at h1
    simp only [Bool.and_eq_true] at h1
    obtain ⟨⟨⟨⟨⟨_, _⟩, _⟩, _⟩, hrow⟩, hsys⟩ := h1
    refine e_none (own_ok hs hrow bd).1 (firstE_zero.2 fun x hx => ?_) (firstE_zero.2 fun x hx => ?_)
    · obtain ⟨i, hi⟩ := List.mem_iff_getElem?.1 hx
      obtain ⟨y, hy⟩ := someL (l := t.kids) (k := i) (by rw [← eK_len (putOp s.i s.r) t.kind t.kids bd]; exact some_lt hi)
      rw [eK_get hy] at hi
      injection hi with hi
      rw [← hi]
      exact e_ok hs n y _ _ _ (by have := blk_kid (List.mem_of_getElem? hy); omega) (h2 _ (pts_kid hy))
    · unfold eS at hx
      obtain ⟨b, hb, rfl⟩ := List.mem_map.1 hx
      have hbr := List.all_eq_true.1 hsys (b.1, b.2.length) (List.mem_map_of_mem hb)
      unfold brB at hbr
      simp only [Bool.and_eq_true] at hbr
      have hf := (rowA hs hbr.1.2 bd).1
      cases hst : stayB (putOp s.i s.r) bd b.1
      · exact b_gone hf hst
      · refine b_none hf hst (firstE_zero.2 fun x hx => ?_)
        unfold eBk at hx
        obtain ⟨y, hy, rfl⟩ := List.mem_map.1 hx
        exact e_ok hs n y _ _ _ (by have := blk_sub hb hy; omega) (h2 _ (pts_sys hb hy))
/-- It may be as before. -/
theorem ok_d {s : DStp} (hs : s.ok) {o : Bool} {V : Int} {D : Nat} : ∀ (n : Nat) (t : Tm) (bd bv b2 : Nat), blk t ≤ n → okT o V D t bv b2 = true → okT o V D (dT (putOp s.i s.r) t bd) bv b2 = true
  | 0, t, bd, bv, b2, hn, _ => by have := blk_pos t; omega
  | n + 1, t, bd, bv, b2, hn, h => by
    rw [ok_eq, Bool.and_eq_true] at h ⊢
    obtain ⟨h1, h2⟩ := h
    rw [List.all_eq_true] at h2 ⊢
    refine ⟨?_, fun p hp => ?_⟩
    · rw [d_eq]
      unfold Tm.node nodeB at h1 ⊢
      simp only [Bool.and_eq_true] at h1 ⊢
      obtain ⟨⟨⟨⟨⟨c1, c2⟩, c3⟩, c4⟩, hrow⟩, hsys⟩ := h1
      refine ⟨⟨⟨⟨⟨c1, by rw [dK_len]; exact c2⟩, c3⟩, c4⟩, (own_ok hs hrow bd).2.1⟩, ?_⟩
      rw [List.all_eq_true] at hsys ⊢
      intro q hq
      obtain ⟨y, hy, rfl⟩ := List.mem_map.1 hq
      obtain ⟨b, hb, _, rfl⟩ := dS_mem hy
      have hbr := hsys (b.1, b.2.length) (List.mem_map_of_mem hb)
      unfold brB at hbr ⊢
      simp only [Bool.and_eq_true] at hbr ⊢
      obtain ⟨r1, r2, r3⟩ := rowA hs hbr.1.2 bd
      refine ⟨⟨⟨hbr.1.1.1, ?_⟩, r2⟩, reach_sub hbr.2 (fun k hk hi => (r3 k hk hi).1)⟩
      show decide (((b.2.map fun x => dT (putOp s.i s.r) x (bd + moreK t.kind)).length : Int) = partsK t.kind) = true
      rw [List.length_map]
      exact hbr.1.1.2
    · obtain ⟨q, hq, e1, e2⟩ := d_pts hp
      rw [e2, ← e1]
      exact ok_d hs n q.1 _ _ _ (by have := blk_pts hq; omega) (h2 q hq)
/-- What it has left. -/
theorem hs_d {s : DStp} (hs : s.ok) {o : Bool} {V : Int} {D : Nat} : ∀ (n : Nat) (t : Tm) (bd bv b2 j : Nat), blk t ≤ n → okT o V D t bv b2 = true → hsT (dT (putOp s.i s.r) t bd) j = true → hsT t j = true ∧ j ≠ s.i + bd
  | 0, t, bd, bv, b2, j, hn, _, _ => by have := blk_pos t; omega
  | n + 1, t, bd, bv, b2, j, hn, h, hj => by
    rw [ok_eq, Bool.and_eq_true] at h
    obtain ⟨h1, h2⟩ := h
    rw [List.all_eq_true] at h2
    unfold Tm.node nodeB at h1
    simp only [Bool.and_eq_true] at h1
    obtain ⟨⟨⟨⟨⟨_, _⟩, _⟩, _⟩, hrow⟩, hsys⟩ := h1
    rw [hs_eq, Bool.or_eq_true, Bool.or_eq_true] at hj
    rw [hs_eq t, Bool.or_eq_true, Bool.or_eq_true]
    rcases hj with (hj | hj) | hj
    · rw [d_eq] at hj
      have hb := bit_in.1 hj
      obtain ⟨k1, k2⟩ := (own_ok hs hrow bd).2.2 j hb.1 hb.2
      exact ⟨.inl (.inl (bit_in.2 ⟨hb.1, k1⟩)), k2⟩
    · rw [d_eq, List.any_eq_true] at hj
      obtain ⟨y, hy, hyj⟩ := hj
      obtain ⟨b, hb, _, rfl⟩ := dS_mem hy
      have hbr := List.all_eq_true.1 hsys (b.1, b.2.length) (List.mem_map_of_mem hb)
      unfold brB at hbr
      simp only [Bool.and_eq_true] at hbr
      have hbb := bit_in.1 hyj
      obtain ⟨k1, k2⟩ := (rowA hs hbr.1.2 bd).2.2 j hbb.1 hbb.2
      exact ⟨.inl (.inr (List.any_eq_true.2 ⟨b, hb, bit_in.2 ⟨hbb.1, k1⟩⟩)), k2⟩
    · rw [List.any_eq_true] at hj
      obtain ⟨p, hp, hpj⟩ := hj
      obtain ⟨q, hq, e1, e2⟩ := d_pts hp
      rw [e2, ← e1] at hpj
      obtain ⟨k1, k2⟩ := hs_d hs n q.1 _ _ _ _ (by have := blk_pts hq; omega) (h2 q hq) hpj
      exact ⟨.inr (List.any_eq_true.2 ⟨q, hq, k1⟩), by omega⟩
theorem ne_d {o : DOp} : ∀ (n : Nat) (t : Tm) (bd : Nat), blk t ≤ n → neT (dT o t bd)
  | 0, t, bd, hn => by have := blk_pos t; omega
  | n + 1, t, bd, hn => by
    rw [ne_eq, d_eq]
    refine ⟨fun x hx => ?_, fun b hb => ?_⟩
    · obtain ⟨i, z, hz, rfl⟩ := dK_mem hx
      exact ne_d n z _ (by have := blk_kid (List.mem_of_getElem? hz); omega)
    · obtain ⟨b0, hb0, hst, rfl⟩ := dS_mem hb
      refine ⟨?_, fun x hx => ?_⟩
      · intro e
        have e' : (o.fc b0.1 bd).1 = [] := e
        unfold stayB at hst
        rw [e'] at hst
        cases hst
      · obtain ⟨z, hz, rfl⟩ := List.mem_map.1 hx
        exact ne_d n z _ (by have := blk_sub hb0 hz; omega)
/-- Where it has no such dimension nothing is changed. -/
theorem d_same {s : DStp} : ∀ (n : Nat) (t : Tm) (bd : Nat), blk t ≤ n → neT t → hsT t (s.i + bd) = false → dT (putOp s.i s.r) t bd = t
  | 0, t, bd, hn, _, _ => by have := blk_pos t; omega
  | n + 1, t, bd, hn, hne, hh => by
    rw [ne_eq] at hne
    rw [hs_eq, Bool.or_eq_false_iff, Bool.or_eq_false_iff] at hh
    obtain ⟨⟨hr, hs⟩, hp⟩ := hh
    rw [List.any_eq_false] at hs hp
    have no : ∀ l : List C, (dimsN l).testBit (s.i + bd) = false → (s.i + bd < 24 → inF l (s.i + bd) = false) := fun l h h24 => by
      cases hi : inF l (s.i + bd)
      · rfl
      · rw [bit_in.2 ⟨h24, hi⟩] at h; cases h
    have e1 : (ownP (putOp s.i s.r) t.kind t.r bd).1 = t.r := by
      unfold ownP
      split
      · have := put_no (PF := ptA) (r := s.r) (no t.r hr); exact congrArg Prod.fst this
      · have := put_no (PF := putF) (r := s.r) (no t.r hr); exact congrArg Prod.fst this
    have e2 : dK (putOp s.i s.r) t.kind t.kids bd = t.kids := by
      refine List.ext_getElem? fun i => ?_
      cases hx : t.kids[i]? with
      | none =>
        rw [List.getElem?_eq_none_iff] at hx ⊢
        rw [dK_len]; exact hx
      | some x =>
        rw [dK_get hx]
        have hm := List.mem_of_getElem? hx
        have := hp _ (pts_kid hx)
        have h2 : hsT x (s.i + (bd + bdK t.kind i)) = false := by
          have : hsT x (s.i + bd + bdK t.kind i) = false := by simpa using this
          rw [← Nat.add_assoc]; exact this
        rw [d_same n x _ (by have := blk_kid hm; omega) (hne.1 x hm) h2]
    have e3 : dS (putOp s.i s.r) t.kind t.sys bd = t.sys := by
      have fc : ∀ b ∈ t.sys, (putOp s.i s.r).fc b.1 bd = (b.1, 0) := fun b hb => put_no (PF := ptA) (r := s.r) (no b.1 (by simpa using hs b hb))
      unfold dS
      rw [List.filter_eq_self.2 (fun b hb => by
        unfold stayB
        rw [fc b hb]
        have := (hne.2 b hb).1
        cases hb1 : b.1 with
        | nil => exact absurd hb1 this
        | cons _ _ => rfl)]
      conv => rhs; rw [← List.map_id t.sys]
      refine List.map_congr_left fun b hb => ?_
      unfold dB
      rw [fc b hb]
      refine Prod.ext rfl ?_
      show (b.2.map fun x => dT (putOp s.i s.r) x (bd + moreK t.kind)) = b.2
      conv => rhs; rw [← List.map_id b.2]
      refine List.map_congr_left fun x hx => ?_
      have := hp _ (pts_sys hb hx)
      have h2 : hsT x (s.i + (bd + moreK t.kind)) = false := by
        have : hsT x (s.i + bd + moreK t.kind) = false := by simpa using this
        rw [← Nat.add_assoc]; exact this
      exact d_same n x _ (by have := blk_sub hb hx; omega) ((hne.2 b hb).2 x hx) h2
    rw [d_eq, e1, e2, e3]
    cases t
    rfl
/-! ### one after another -/
theorem pall_all {r : List C} {p : Nat → C} {o : Bool} {V : Int} {D : Nat} : ∀ (l : List Nat) (t : Tm), (∀ i ∈ l, (DStp.mk i r (p i)).ok) → okT o V D t 0 0 = true → l.foldl (pallS r) (t, 0) = ((l.map fun i => DStp.mk i r (p i)).foldl dStp t, 0) ∧ okT o V D ((l.map fun i => DStp.mk i r (p i)).foldl dStp t) 0 0 = true
  | [], t, _, h => ⟨rfl, h⟩
  | i :: l, t, hl, h => by
    have hs := hl i (by simp)
    have he : eT (putOp i r) t 0 = 0 := e_ok hs _ t 0 0 0 (Nat.le_refl _) h
    have e : pallS r (t, 0) i = (dT (putOp i r) t 0, 0) := by unfold pallS ansD; simp [he]
    rw [List.foldl_cons, e]
    exact pall_all l _ (fun x hx => hl x (List.mem_cons_of_mem _ hx)) (ok_d hs _ t 0 0 0 (Nat.le_refl _) h)
theorem undR_all {c : C} {t : Tm} {o : Bool} {V : Int} {D : Nat} (h : okT o V D t 0 0 = true) : undR c t = ((stepsC c).foldl dStp t, 0) ∧ okT o V D ((stepsC c).foldl dStp t) 0 0 = true := by
  obtain ⟨e1, h1⟩ := pall_all (r := [top0]) (p := posB) (dimsOf c.1.val) t (fun i hi => ⟨dimsOf_lt i hi, .inl ⟨rfl, rfl⟩⟩) h
  obtain ⟨e2, h2⟩ := pall_all (r := []) (p := negB) (dimsOf c.2.val) _ (fun i hi => ⟨dimsOf_lt i hi, .inr ⟨rfl, rfl⟩⟩) h1
  unfold undR pall stepsC
  rw [e1, List.foldl_append]
  exact ⟨by rw [if_pos rfl, e2], h2⟩
theorem steps_end {o : Bool} {V : Int} {D : Nat} : ∀ (l : List DStp) (t : Tm), (∀ s ∈ l, s.ok) → okT o V D t 0 0 = true → (∀ j, hsT (l.foldl dStp t) j = true → hsT t j = true ∧ ∀ s ∈ l, j ≠ s.i) ∧ (neT t ∨ l ≠ [] → neT (l.foldl dStp t)) ∧ depthT (l.foldl dStp t) ≤ depthT t
  | [], t, _, _ => ⟨fun j h => ⟨h, fun s hs => by cases hs⟩, fun h => h.resolve_right (fun h => h rfl), Nat.le_refl _⟩
  | s :: l, t, hl, h => by
    have hs := hl s (by simp)
    have h1 : okT o V D (dStp t s) 0 0 = true := ok_d hs _ t 0 0 0 (Nat.le_refl _) h
    obtain ⟨a, b, c⟩ := steps_end l (dStp t s) (fun x hx => hl x (List.mem_cons_of_mem _ hx)) h1
    rw [List.foldl_cons]
    refine ⟨fun j hj => ?_, fun _ => b (.inl (ne_d _ t 0 (Nat.le_refl _))), Nat.le_trans c (depth_d _ t 0 (Nat.le_refl _))⟩
    obtain ⟨a1, a2⟩ := a j hj
    obtain ⟨k1, k2⟩ := hs_d hs _ t 0 0 0 j (Nat.le_refl _) h a1
    refine ⟨k1, fun x hx => ?_⟩
    rcases List.mem_cons.1 hx with rfl | hx
    · exact by simpa using k2
    · exact a2 x hx
theorem steps_same : ∀ (l : List DStp) (t : Tm), neT t → (∀ s ∈ l, hsT t s.i = false) → l.foldl dStp t = t
  | [], t, _, _ => rfl
  | s :: l, t, hn, h => by
    have e : dStp t s = t := d_same _ t 0 (Nat.le_refl _) hn (h s (by simp))
    rw [List.foldl_cons, e]
    exact steps_same l t hn (fun x hx => h x (List.mem_cons_of_mem _ hx))
/-- All that is said. -/
theorem gone_all {c : C} {t : Tm} {V d : Int} (hc : rightA [c] = true) (h : rightN V d t = 0) :
    (undA c t).2 = 0 ∧ rightN V d (undA c t).1 = 0 ∧ undA c (undA c t).1 = ((undA c t).1, 0) ∧ ∀ j, hsT (undA c t).1 j = true → c.1.val.testBit j = false ∧ c.2.val.testBit j = false := by
  unfold rightN at h ⊢
  split at h
  · cases h
  · rename_i hVd
    rw [if_neg hVd]
    have hdep : depthT t ≤ 200 ∧ okT false V d.toNat t 0 0 = true := by
      unfold wrongN at h
      split at h
      · cases h
      · rename_i h1
        split at h
        · rename_i h2; exact ⟨by omega, h2⟩
        · cases h
    have wf : ∀ u : Tm, depthT u ≤ 200 → okT false V d.toNat u 0 0 = true → wrongN true 0 0 u = 0 ∧ wrongN false V d.toNat u = 0 := fun u h1 h2 => by
      have h3 := ok_formed V 0 d.toNat 0 false _ u (Nat.le_refl _) 0 0 0 0 h2
      unfold wrongN
      have hn : ¬ 200 < depthT u := by omega
      rw [if_neg hn, if_neg hn, if_pos h3, if_pos h2]
      exact ⟨rfl, rfl⟩
    have hr : singleC c = true := by
      have h1 := rightA_iff.1 hc
      exact singleC_iff.2 ⟨by have := rightF_all h1.1; simpa using this, h1.2 c (by simp)⟩
    have und : ∀ u : Tm, depthT u ≤ 200 → okT false V d.toNat u 0 0 = true → undA c u = ((stepsC c).foldl dStp u, 0) := fun u h1 h2 => by
      unfold undA
      rw [(wf u h1 h2).1, if_pos rfl, if_pos hc]
      exact (undR_all h2).1
    obtain ⟨a, b, e⟩ := steps_end (stepsC c) t (steps_ok c) hdep.2
    have hok := (undR_all (c := c) hdep.2).2
    have hd2 : depthT ((stepsC c).foldl dStp t) ≤ 200 := by omega
    rw [und t hdep.1 hdep.2]
    refine ⟨rfl, (wf _ hd2 hok).2, ?_, fun j hj => ?_⟩
    · show undA c ((stepsC c).foldl dStp t) = ((stepsC c).foldl dStp t, 0)
      rw [und _ hd2 hok]
      by_cases hl : stepsC c = []
      · rw [hl]; rfl
      · rw [steps_same (stepsC c) _ (b (.inr hl)) (fun s hs => by
          cases hh : hsT ((stepsC c).foldl dStp t) s.i
          · rfl
          · exact absurd rfl ((a s.i hh).2 s hs))]
    · obtain ⟨_, h2⟩ := a j hj
      have hb := steps_bits (singleC_iff.1 hr).1 j
      refine ⟨?_, ?_⟩
      · cases hx : c.1.val.testBit j
        · rfl
        · exfalso
          have hj24 := bit_lt24 (rightC_iff.1 (singleC_iff.1 hr).1).1 hx
          exact h2 ⟨j, [top0], posB j⟩ (List.mem_append_left _ (List.mem_map_of_mem (mem_dimsOf.2 ⟨hj24, hx⟩))) rfl
      · cases hx : c.2.val.testBit j
        · rfl
        · exfalso
          have hj24 := bit_lt24 (rightC_iff.1 (singleC_iff.1 hr).1).2 hx
          exact h2 ⟨j, [], negB j⟩ (List.mem_append_right _ (List.mem_map_of_mem (mem_dimsOf.2 ⟨hj24, hx⟩))) rfl
end Go.Proofs.YtjimednocmdpnaaGreat

namespace Go.Proofs.YtjimednocmdpnaaGreat
open Go.RowKit
set_option linter.unusedVariables false
set_option linter.unusedSimpArgs false

/-- What Take tells: refused ahead, by the lifting, by the putting; else r is put, and i taken out. -/
def takE (i : Int) (r : List C) (t : Tm) : Int := if wrD i r t = 0 then (if (liftFF r i 1).2 = 0 then (if eT (putOp i (liftFF r i 1).1) t 0 = 0 then eT (dropOp i) (ansD (putOp i (liftFF r i 1).1) t) 0 else eT (putOp i (liftFF r i 1).1) t 0) else (liftFF r i 1).2) else wrD i r t
def takT (i : Int) (r : List C) (t : Tm) : Tm := if wrD i r t = 0 then (if (liftFF r i 1).2 = 0 then (if eT (putOp i (liftFF r i 1).1) t 0 = 0 then ansD (dropOp i) (ansD (putOp i (liftFF r i 1).1) t) else noT) else noT) else noT
set_option maxRecDepth 100000 in
set_option maxHeartbeats 8000000 in
theorem dtake_any (t : Tm) (v : Value) (w : World) (hv : TmIn Tt w t v) (hb : blk t ≤ 20000) (i : Int) (r : List C) (vr : Value) (hr : ClRow Tt w r vr) (hrl : r.length ≤ 40000) (hsm : blk (ansD (putOp i (liftFF r i 1).1) t) ≤ 40000) : Calls Tryz.prog 13 #[v, .int .i64 i, vr] w fun e w' => ∃ v', e = .returned (.tuple #[v', .int .i64 (takE i r t)]) ∧ TmIn (OkN w.heap.size w') w' (takT i r t) v' ∧ Below w.heap.size w w' := by
  obtain ⟨ra, rc, ka, kc, sa, sc, rfl, ht⟩ := hv.form
  obtain ⟨w1, hw1⟩ : ∃ W, W = (w.alloc (.cells #[.int .i64 t.kind, .int .i64 t.n, .string t.name, .slice ra t.r.length rc, .slice ka t.kids.length kc, .slice sa t.sys.length sc] 26)).alloc (.cells #[.int .i64 0, .int .i64 0, .string ⟨#[]⟩, .slice none 0 0, .slice none 0 0, .slice none 0 0] 26) := ⟨_, rfl⟩
  have b1 : Below w.heap.size w w1 := by rw [hw1]; exact bchain (belowA _ _) (belowA _ _)
  obtain ⟨X, hX⟩ : ∃ X, X = w.heap.size := ⟨_, rfl⟩
  have s1 : w1.heap.size = X + 2 := by rw [hw1, hX]; simp
  have x1 : Six w1 X (.int .i64 t.kind) (.int .i64 t.n) (.string t.name) (.slice ra t.r.length rc) (.slice ka t.kids.length kc) (.slice sa t.sys.length sc) := ⟨by rw [hX, hw1]; exact (Below.heap_alloc _ _ _ (by simp)).trans (heapNew w _)⟩
  have x2 : Six w1 (X + 1) (.int .i64 0) (.int .i64 0) (.string ⟨#[]⟩) (.slice none 0 0) (.slice none 0 0) (.slice none 0 0) := ⟨by
    rw [hX, hw1]; have := heapNew (w.alloc (.cells #[.int .i64 t.kind, .int .i64 t.n, .string t.name, .slice ra t.r.length rc, .slice ka t.kids.length kc, .slice sa t.sys.length sc] 26)) (.cells #[.int .i64 0, .int .i64 0, .string ⟨#[]⟩, .slice none 0 0, .slice none 0 0, .slice none 0 0] 26); rwa [World.size_alloc] at this⟩
  have HC : Hid (∀ W, Below w1.heap.size w1 W → Six W X (.int .i64 t.kind) (.int .i64 t.n) (.string t.name) (.slice ra t.r.length rc) (.slice ka t.kids.length kc) (.slice sa t.sys.length sc)) := fun W q => x1.blw q
  have HZ : Hid (∀ W, Below w1.heap.size w1 W → Six W (X + 1) (.int .i64 0) (.int .i64 0) (.string ⟨#[]⟩) (.slice none 0 0) (.slice none 0 0) (.slice none 0 0)) := fun W q => x2.blw q
  have HT : Hid (∀ W, Below w1.heap.size w1 W → TmIn Tt W t (.agg #[.int .i64 t.kind, .int .i64 t.n, .string t.name, .slice ra t.r.length rc, .slice ka t.kids.length kc, .slice sa t.sys.length sc])) := fun W q => ((ht.blw b1).blw q).value
  have HB : Hid (∀ W, Below w1.heap.size w1 W → Below X w W) := fun W q => by rw [hX]; exact bchain b1 q
  have HXs : Hid (X = w.heap.size) := hX
  have Hs1 : Hid (w1.heap.size = X + 2) := s1
  have HW : Hid (_ = _) := hw1
  have HR : Hid (∀ W, Below w1.heap.size w1 W → ClRow Tt W r vr) := fun W q => (hr.blw b1).blw q
  have cw := dwrong_any t _ w1 (HT.out w1 (Below.refl _ _)) hb i r vr (HR.out w1 (Below.refl _ _)) hrl
  have cl : Hid (∀ V, Below w1.heap.size w1 V → Calls Tryz.prog 12 #[vr, .int .i64 i, .int .i64 1] V fun e w' => ∃ v, e = .returned (.tuple #[v, .int .i64 (liftFF r i 1).2]) ∧ OwnsC w' V.heap.size v (liftFF r i 1).1 ∧ Below V.heap.size V w') := fun V q => Lift_any r i 1 vr V (HR.out V q).frow hrl
  have HE : Hid (takE i r t = (if wrD i r t = 0 then (if (liftFF r i 1).2 = 0 then (if eT (putOp i (liftFF r i 1).1) t 0 = 0 then eT (dropOp i) (ansD (putOp i (liftFF r i 1).1) t) 0 else eT (putOp i (liftFF r i 1).1) t 0) else (liftFF r i 1).2) else wrD i r t) ∧ takT i r t = (if wrD i r t = 0 then (if (liftFF r i 1).2 = 0 then (if eT (putOp i (liftFF r i 1).1) t 0 = 0 then ansD (dropOp i) (ansD (putOp i (liftFF r i 1).1) t) else noT) else noT) else noT)) := ⟨rfl, rfl⟩
  have HOk : Hid (wrD i r t = 0 → 0 ≤ i ∧ i ≤ 1000000) := fun h => by have := (wrD_ok h).1; omega
  have hll := liftFF_len r i 1
  obtain ⟨e0, he0⟩ : ∃ e, e = wrD i r t := ⟨_, rfl⟩
  rw [← he0] at cw HE HOk
  obtain ⟨Pl, hPl⟩ : ∃ P, P = liftFF r i 1 := ⟨_, rfl⟩
  rw [← hPl] at cl HE hsm hll
  obtain ⟨rl, el⟩ := Pl
  dsimp only at cl HE hsm hll
  obtain ⟨va, vc, rfl, _⟩ := id hr
  obtain ⟨LR, hLR⟩ : ∃ L, L = r.length := ⟨_, rfl⟩
  rw [← hLR] at cw HR cl
  simp only [← hLR]
  rw [← hX]
  have Hbt : Hid (blk t ≤ 40000) := (by omega : blk t ≤ 40000)
  clear he0 hw1 hX s1 x1 x2 hv ht b1 hr hLR hPl
  go_enter Tryz.func13, Tryz.ntmps13
  go_upto_region 1 with fail
  rw [← HW.out]
  simp only [← HXs.out]
  clear HW
  obtain ⟨y0, y1, y2, y3, y4, y5, _⟩ := (HC.out w1 (Below.refl _ _)).cells
  go_wp2_with fail
  refine cw.mono ?_
  rintro e w2 ⟨rfl, b2⟩
  clear cw y0 y1 y2 y3 y4 y5
  have hsz := Hs1.out
  by_cases hz : e0 = 0
  rotate_left
  · have Hf : Hid (takE i r t = e0 ∧ takT i r t = noT) := ⟨by rw [HE.out.1, if_neg hz], by rw [HE.out.2, if_neg hz]⟩
    have hz1 : (e0 == 0) = false := by simpa using hz
    clear HE HOk cl
    have zz := HZ.out w2 b2
    have zz2 := zz.set6 (.int .i64 0) (.int .i64 0) (.string ⟨#[]⟩) (.slice none 0 0) (.slice none 0 0) (.slice none 0 0)
    obtain ⟨o0, o1, o2, o3, o4, o5, ff⟩ := zz.cells
    have f0 := ff 0
    have f1 := ff 1
    have f2 := ff 2
    have f3 := ff 3
    have f4 := ff 4
    have f5 := ff 5
    obtain ⟨h0, h1, h2, h3, h4, h5, _⟩ := zz2.cells
    obtain ⟨wz, hwz⟩ : ∃ W, W = (((((w2.setCell ⟨X + 1, 0, none⟩ (.int .i64 0)).setCell ⟨X + 1, 1, none⟩ (.int .i64 0)).setCell ⟨X + 1, 2, none⟩ (.string ⟨#[]⟩)).setCell ⟨X + 1, 3, none⟩ (.slice none 0 0)).setCell ⟨X + 1, 4, none⟩ (.slice none 0 0)).setCell ⟨X + 1, 5, none⟩ (.slice none 0 0) := ⟨_, rfl⟩
    rw [← hwz] at h0 h1 h2 h3 h4 h5
    have kz : Kn (fun q => q ≠ X + 1) w2 wz := by rw [hwz]; exact kn_set6 _ _ _ _ _ _ _ _
    have bz : Below X w wz := (HB.out w2 b2).trans (kz.below (fun q hq => by omega) (by have := (HB.out w2 b2).size; have := HXs.out; omega))
    have Hwz : Hid (_ = _) := hwz
    clear hwz ff zz zz2 kz
    go_wp2_with fail
    rw [← Hwz.out]
    exact bodyPost_ret (v := .tuple #[.agg #[.int .i64 0, .int .i64 0, .string ⟨#[]⟩, .slice none 0 0, .slice none 0 0, .slice none 0 0], .int .i64 (e0)]) (by simp only [results, Tryz.results13]; simp [go_sem, h0, h1, h2, h3, h4, h5]) rfl ⟨_, by rw [Hf.out.1], by rw [Hf.out.2]; exact noT_in _ _, bz⟩
  subst hz
  have hok := HOk.out rfl
  rw [if_pos rfl, if_pos rfl] at HE
  have cc := cl.out w2 b2
  go_wp2_with fail
  refine cc.mono ?_
  rintro e w3 ⟨v3, rfl, hO3, b3⟩
  clear cc cl
  have b13 : Below w1.heap.size w1 w3 := b2.trans (b3.mono b2.size)
  obtain ⟨va3, vc3, rfl⟩ := OwnsC.len hO3
  obtain ⟨L3, hL3⟩ : ∃ L, L = rl.length := ⟨_, rfl⟩
  have HR3 : Hid (∀ W, Below w3.heap.size w3 W → ClRow Tt W rl (.slice va3 L3 vc3)) := fun W q => by
    rw [hL3]; exact ((OwnsC.okn hO3).keep (Nat.le_refl _) (fun _ _ => trivial) (fun _ _ _ => rfl)).blw q
  rw [← hL3]
  clear hO3 hL3
  by_cases hz : el = 0
  rotate_left
  · have Hf : Hid (takE i r t = el ∧ takT i r t = noT) := ⟨by rw [HE.out.1, if_neg hz], by rw [HE.out.2, if_neg hz]⟩
    have hz1 : (el == 0) = false := by simpa using hz
    clear HE HOk
    have zz := HZ.out w3 b13
    have zz2 := zz.set6 (.int .i64 0) (.int .i64 0) (.string ⟨#[]⟩) (.slice none 0 0) (.slice none 0 0) (.slice none 0 0)
    obtain ⟨o0, o1, o2, o3, o4, o5, ff⟩ := zz.cells
    have f0 := ff 0
    have f1 := ff 1
    have f2 := ff 2
    have f3 := ff 3
    have f4 := ff 4
    have f5 := ff 5
    obtain ⟨h0, h1, h2, h3, h4, h5, _⟩ := zz2.cells
    obtain ⟨wz, hwz⟩ : ∃ W, W = (((((w3.setCell ⟨X + 1, 0, none⟩ (.int .i64 0)).setCell ⟨X + 1, 1, none⟩ (.int .i64 0)).setCell ⟨X + 1, 2, none⟩ (.string ⟨#[]⟩)).setCell ⟨X + 1, 3, none⟩ (.slice none 0 0)).setCell ⟨X + 1, 4, none⟩ (.slice none 0 0)).setCell ⟨X + 1, 5, none⟩ (.slice none 0 0) := ⟨_, rfl⟩
    rw [← hwz] at h0 h1 h2 h3 h4 h5
    have kz : Kn (fun q => q ≠ X + 1) w3 wz := by rw [hwz]; exact kn_set6 _ _ _ _ _ _ _ _
    have bz : Below X w wz := (HB.out w3 b13).trans (kz.below (fun q hq => by omega) (by have := (HB.out w3 b13).size; have := HXs.out; omega))
    have Hwz : Hid (_ = _) := hwz
    clear hwz ff zz zz2 kz
    go_wp2_with fail
    rw [← Hwz.out]
    exact bodyPost_ret (v := .tuple #[.agg #[.int .i64 0, .int .i64 0, .string ⟨#[]⟩, .slice none 0 0, .slice none 0 0, .slice none 0 0], .int .i64 (el)]) (by simp only [results, Tryz.results13]; simp [go_sem, h0, h1, h2, h3, h4, h5]) rfl ⟨_, by rw [Hf.out.1], by rw [Hf.out.2]; exact noT_in _ _, bz⟩
  subst hz
  rw [if_pos rfl, if_pos rfl] at HE
  have cP : Hid (∀ V, Below w3.heap.size w3 V → Calls Tryz.prog 22 #[.int .i64 i, .slice va3 L3 vc3] V fun e w' => ∃ fV cV, e = .returned (.agg #[fV, cV]) ∧ RowC (putOp i rl).fn fV w' ∧ RowC (putOp i rl).fc cV w' ∧ Below V.heap.size V w') := fun V q => putting_any i rl _ V (HR3.out V q) (by omega) hok
  have HT3 : Hid (∀ V, Below w3.heap.size w3 V → TmIn Tt V t (.agg #[.int .i64 t.kind, .int .i64 t.n, .string t.name, .slice ra t.r.length rc, .slice ka t.kids.length kc, .slice sa t.sys.length sc])) := fun V q => HT.out V (b13.trans (q.mono b13.size))
  have cT : Hid (∀ V fV cV, Below w3.heap.size w3 V → RowC (putOp i rl).fn fV V → RowC (putOp i rl).fc cV V → Calls Tryz.prog 23 #[.agg #[fV, cV], .agg #[.int .i64 t.kind, .int .i64 t.n, .string t.name, .slice ra t.r.length rc, .slice ka t.kids.length kc, .slice sa t.sys.length sc]] V fun e w' => ∃ v', e = .returned (.tuple #[v', .int .i64 (eT (putOp i rl) t 0)]) ∧ TmIn (OkN V.heap.size w') w' (ansD (putOp i rl) t) v' ∧ Below V.heap.size V w') := fun V fV cV q h1 h2 => dterm_any t _ V (HT3.out V q) h1 h2 Hbt.out
  obtain ⟨er, her⟩ : ∃ e, e = eT (putOp i rl) t 0 := ⟨_, rfl⟩
  obtain ⟨T, hT⟩ : ∃ T, T = ansD (putOp i rl) t := ⟨_, rfl⟩
  rw [← her, ← hT] at cT HE
  rw [← hT] at hsm
  have HC3 : Hid (∀ V, Below w3.heap.size w3 V → Six V X (.int .i64 t.kind) (.int .i64 t.n) (.string t.name) (.slice ra t.r.length rc) (.slice ka t.kids.length kc) (.slice sa t.sys.length sc)) := fun V q => HC.out V (b13.trans (q.mono b13.size))
  clear her hT HOk
  go_upto_region 7 with fail
  have hS1 : Below w3.heap.size w3 w3 := Below.refl _ _
  go_cut [11, 10] (fun s se wx => ∃ o ra2 rc2 ka2 kc2 sa2 sc2, s = .pointer (some ⟨o, 0, none⟩) ∧ se = .int .i64 er ∧ Six wx o (.int .i64 T.kind) (.int .i64 T.n) (.string T.name) (.slice ra2 T.r.length rc2) (.slice ka2 T.kids.length kc2) (.slice sa2 T.sys.length sc2) ∧ TmIn Tt wx T (.agg #[.int .i64 T.kind, .int .i64 T.n, .string T.name, .slice ra2 T.r.length rc2, .slice ka2 T.kids.length kc2, .slice sa2 T.sys.length sc2]) ∧ Below w3.heap.size w3 wx ∧ w3.heap.size ≤ o)
  case first => as_aux_lemma =>
    refine wp_region_held_drew (S := fun V => Below w3.heap.size w3 V) (by kernel_rfl) (hS1.drew) (fun hS => ?_)
    obtain ⟨wd, hwd⟩ : ∃ V, V = w3.drew := ⟨_, rfl⟩
    have hbd : Below w3.heap.size w3 wd := by rw [hwd]; exact (Below.refl _ _).drew
    rw [← hwd] at hS ⊢
    clear hwd
    refine wpAnyH_take (i := 0) (v := .int .i64 i) rfl (by kernel_rfl) (by kernel_rfl) (by kernel_rfl) (fun _ _ _ h => h) (Or.inl ⟨by rfl, fun w hS => by go_simp⟩) hS ?_
    try simp only [Act.put, List.getElem_toArray, List.getElem_cons_zero, List.getElem_cons_succ, List.setIfInBounds_toArray, List.set_cons_zero, List.set_cons_succ]
    refine wpAnyH_take (i := 1) (v := .slice va3 L3 vc3) rfl (by kernel_rfl) (by kernel_rfl) (by kernel_rfl) (fun _ _ _ h => h) (Or.inl ⟨by rfl, fun w hS => by go_simp⟩) hS ?_
    try simp only [Act.put, List.getElem_toArray, List.getElem_cons_zero, List.getElem_cons_succ, List.setIfInBounds_toArray, List.set_cons_zero, List.set_cons_succ]
    refine wpAnyH_take (i := 3) (v := .agg #[.int .i64 t.kind, .int .i64 t.n, .string t.name, .slice ra t.r.length rc, .slice ka t.kids.length kc, .slice sa t.sys.length sc]) rfl (by kernel_rfl) (by kernel_rfl) (by kernel_rfl) (fun _ _ _ h => h) (Or.inl ⟨by rfl, fun w hS => by obtain ⟨y0, y1, y2, y3, y4, y5, _⟩ := (HC3.out w hS).cells; go_simp⟩) hS ?_
    try simp only [Act.put, List.getElem_toArray, List.getElem_cons_zero, List.getElem_cons_succ, List.setIfInBounds_toArray, List.set_cons_zero, List.set_cons_succ]
    refine wpAnyH_ready (rs := [2, 8]) (by kernel_rfl) (by simp) ?_
    refine ready_cons rfl (fun KK hKK => ?_) (ready_cons rfl (fun KK hKK => ?_) AllReadyH.nil)
    · skip
      refine ⟨?_⟩
      have cc := cP.out wd hS
      go_simp
      refine cc.mono ?_
      rintro e w4 ⟨fV, cV, rfl, hF, hC, hbP⟩
      have hSw4 : Below w3.heap.size w3 w4 := hS.trans (hbP.mono hS.size)
      clear cc
      refine hKK.out _ _ hSw4 (fun hS => ?_)
      clear hKK KK
      try simp only [Act.put, List.getElem_toArray, List.getElem_cons_zero, List.getElem_cons_succ, List.setIfInBounds_toArray, List.set_cons_zero, List.set_cons_succ]
      refine wpAnyH_ready (rs := [4, 8]) (by kernel_rfl) (by simp) ?_
      refine ready_cons rfl (fun KK hKK => ?_) (ready_cons rfl (fun KK hKK => ?_) AllReadyH.nil)
      · skip
        refine ⟨?_⟩
        have cc := cT.out w4 fV cV hS hF hC
        go_simp
        refine cc.mono ?_
        rintro e w5 ⟨v3, rfl, hv3, hbT⟩
        obtain ⟨ra2, rc2, ka2, kc2, sa2, sc2, rfl, ht2⟩ := hv3.form
        have htv := ht2.value
        have hSw5 : Below w3.heap.size w3 w5 := hS.trans (hbT.mono hS.size)
        clear cc ht2 hv3
        refine hKK.out _ _ hSw5 (fun hS => ?_)
        clear hKK KK
        try simp only [Act.put, List.getElem_toArray, List.getElem_cons_zero, List.getElem_cons_succ, List.setIfInBounds_toArray, List.set_cons_zero, List.set_cons_succ]
        refine wpAnyH_take (i := 5) (v := .tuple #[.agg #[.int .i64 T.kind, .int .i64 T.n, .string T.name, .slice ra2 T.r.length rc2, .slice ka2 T.kids.length kc2, .slice sa2 T.sys.length sc2], .int .i64 er]) rfl (by kernel_rfl) (by kernel_rfl) (by kernel_rfl) (fun _ _ _ h => h) (Or.inl ⟨by rfl, fun w hS => by go_simp⟩) hS ?_
        try simp only [Act.put, List.getElem_toArray, List.getElem_cons_zero, List.getElem_cons_succ, List.setIfInBounds_toArray, List.set_cons_zero, List.set_cons_succ]
        refine wpAnyH_take (i := 6) (v := .agg #[.int .i64 T.kind, .int .i64 T.n, .string T.name, .slice ra2 T.r.length rc2, .slice ka2 T.kids.length kc2, .slice sa2 T.sys.length sc2]) rfl (by kernel_rfl) (by kernel_rfl) (by kernel_rfl) (fun _ _ _ h => h) (Or.inl ⟨by rfl, fun w hS => by go_simp⟩) hS ?_
        try simp only [Act.put, List.getElem_toArray, List.getElem_cons_zero, List.getElem_cons_succ, List.setIfInBounds_toArray, List.set_cons_zero, List.set_cons_succ]
        refine wpAnyH_take (i := 7) (v := .int .i64 er) rfl (by kernel_rfl) (by kernel_rfl) (by kernel_rfl) (fun _ _ _ h => h) (Or.inl ⟨by rfl, fun w hS => by go_simp⟩) hS ?_
        try simp only [Act.put, List.getElem_toArray, List.getElem_cons_zero, List.getElem_cons_succ, List.setIfInBounds_toArray, List.set_cons_zero, List.set_cons_succ]
        refine wpAnyH_ready (rs := [8]) (by kernel_rfl) (by simp) ?_
        refine ready_cons rfl (fun KK hKK => ?_) AllReadyH.nil
        obtain ⟨w6, hw6⟩ : ∃ W, W = w5.alloc (.cells #[.int .i64 0, .int .i64 0, .string ⟨#[]⟩, .slice none 0 0, .slice none 0 0, .slice none 0 0] 26) := ⟨_, rfl⟩
        have bw6 : Below w5.heap.size w5 w6 := by rw [hw6]; exact belowA _ _
        have sw6 : w6.heap.size = w5.heap.size + 1 := by rw [hw6]; simp
        have hZ : Six w6 w5.heap.size (.int .i64 0) (.int .i64 0) (.string ⟨#[]⟩) (.slice none 0 0) (.slice none 0 0) (.slice none 0 0) := ⟨by rw [hw6]; exact heapNew _ _⟩
        have hSw6 : Below w3.heap.size w3 w6 := hS.trans (bw6.mono hS.size)
        have Hw6 : Hid (_ = _) := hw6
        clear hw6
        refine ⟨?_⟩
        go_simp
        rw [← Hw6.out]
        refine hKK.out _ _ hSw6 (fun hS => ?_)
        clear hKK KK
        try simp only [Act.put, List.getElem_toArray, List.getElem_cons_zero, List.getElem_cons_succ, List.setIfInBounds_toArray, List.set_cons_zero, List.set_cons_succ]
        have hge : w3.heap.size ≤ w5.heap.size := hSw5.size
        have zz2 := hZ.set6 (.int .i64 T.kind) (.int .i64 T.n) (.string T.name) (.slice ra2 T.r.length rc2) (.slice ka2 T.kids.length kc2) (.slice sa2 T.sys.length sc2)
        obtain ⟨o0, o1, o2, o3, o4, o5, ff⟩ := hZ.cells
        have f0 := ff 0
        have f1 := ff 1
        have f2 := ff 2
        have f3 := ff 3
        have f4 := ff 4
        have f5 := ff 5
        obtain ⟨w9, hwz⟩ : ∃ W, W = (((((w6.setCell ⟨w5.heap.size, 0, none⟩ (.int .i64 T.kind)).setCell ⟨w5.heap.size, 1, none⟩ (.int .i64 T.n)).setCell ⟨w5.heap.size, 2, none⟩ (.string T.name)).setCell ⟨w5.heap.size, 3, none⟩ (.slice ra2 T.r.length rc2)).setCell ⟨w5.heap.size, 4, none⟩ (.slice ka2 T.kids.length kc2)).setCell ⟨w5.heap.size, 5, none⟩ (.slice sa2 T.sys.length sc2) := ⟨_, rfl⟩
        rw [← hwz] at zz2
        have kz : Kn (fun q => q ≠ w5.heap.size) w6 w9 := by rw [hwz]; exact kn_set6 _ _ _ _ _ _ _ _
        have HTm : Hid (TmIn Tt w9 T (.agg #[.int .i64 T.kind, .int .i64 T.n, .string T.name, .slice ra2 T.r.length rc2, .slice ka2 T.kids.length kc2, .slice sa2 T.sys.length sc2])) := htv.keep (Nat.le_trans bw6.size kz.size) (fun _ _ => trivial) (fun q hq hs => (kz.block q (by have := hq.lt; omega) (by have := bw6.size; omega)).trans (bw6.block q hs))
        have hS5 : Below w3.heap.size w3 w9 := hS.trans (kz.below (fun q hq => by omega) hS.size)
        have Hwz : Hid (_ = _) := hwz
        clear hwz ff kz htv
        refine wpAnyH_ready (rs := [9]) (by kernel_rfl) (by simp) ?_
        refine ready_cons rfl (fun KK hKK => ?_) AllReadyH.nil
        refine ⟨?_⟩
        go_simp
        rw [← Hwz.out]
        refine hKK.out _ _ hS5 (fun hS => ?_)
        clear hKK KK
        try simp only [Act.put, List.getElem_toArray, List.getElem_cons_zero, List.getElem_cons_succ, List.setIfInBounds_toArray, List.set_cons_zero, List.set_cons_succ]
        refine wpAnyH_take (i := 10) (v := .int .i64 er) rfl (by kernel_rfl) (by kernel_rfl) (by kernel_rfl) (fun _ _ _ h => h) (Or.inl ⟨by rfl, fun w hS => by go_simp⟩) hS ?_
        try simp only [Act.put, List.getElem_toArray, List.getElem_cons_zero, List.getElem_cons_succ, List.setIfInBounds_toArray, List.set_cons_zero, List.set_cons_succ]
        refine wpAnyH_done (by kernel_rfl) ?_ _
        go_wp2_with fail
        go_meet
        exact ⟨_, _, _, _, _, _, _, rfl, rfl, zz2, HTm.out, hS, hge⟩
      · skip
        obtain ⟨w5, hw5⟩ : ∃ W, W = w4.alloc (.cells #[.int .i64 0, .int .i64 0, .string ⟨#[]⟩, .slice none 0 0, .slice none 0 0, .slice none 0 0] 26) := ⟨_, rfl⟩
        have bw5 : Below w4.heap.size w4 w5 := by rw [hw5]; exact belowA _ _
        have sw5 : w5.heap.size = w4.heap.size + 1 := by rw [hw5]; simp
        have hZ : Six w5 w4.heap.size (.int .i64 0) (.int .i64 0) (.string ⟨#[]⟩) (.slice none 0 0) (.slice none 0 0) (.slice none 0 0) := ⟨by rw [hw5]; exact heapNew _ _⟩
        have hSw5 : Below w3.heap.size w3 w5 := hS.trans (bw5.mono hS.size)
        have Hw5 : Hid (_ = _) := hw5
        clear hw5
        refine ⟨?_⟩
        go_simp
        rw [← Hw5.out]
        refine hKK.out _ _ hSw5 (fun hS => ?_)
        clear hKK KK
        try simp only [Act.put, List.getElem_toArray, List.getElem_cons_zero, List.getElem_cons_succ, List.setIfInBounds_toArray, List.set_cons_zero, List.set_cons_succ]
        have hF := hF.blw bw5
        have hC := hC.blw bw5
        refine wpAnyH_ready (rs := [4]) (by kernel_rfl) (by simp) ?_
        refine ready_cons rfl (fun KK hKK => ?_) AllReadyH.nil
        refine ⟨?_⟩
        have cc := cT.out w5 fV cV hS hF hC
        go_simp
        refine cc.mono ?_
        rintro e w6 ⟨v3, rfl, hv3, hbT⟩
        obtain ⟨ra2, rc2, ka2, kc2, sa2, sc2, rfl, ht2⟩ := hv3.form
        have htv := ht2.value
        have hSw6 : Below w3.heap.size w3 w6 := hS.trans (hbT.mono hS.size)
        clear cc ht2 hv3
        refine hKK.out _ _ hSw6 (fun hS => ?_)
        clear hKK KK
        try simp only [Act.put, List.getElem_toArray, List.getElem_cons_zero, List.getElem_cons_succ, List.setIfInBounds_toArray, List.set_cons_zero, List.set_cons_succ]
        refine wpAnyH_take (i := 5) (v := .tuple #[.agg #[.int .i64 T.kind, .int .i64 T.n, .string T.name, .slice ra2 T.r.length rc2, .slice ka2 T.kids.length kc2, .slice sa2 T.sys.length sc2], .int .i64 er]) rfl (by kernel_rfl) (by kernel_rfl) (by kernel_rfl) (fun _ _ _ h => h) (Or.inl ⟨by rfl, fun w hS => by go_simp⟩) hS ?_
        try simp only [Act.put, List.getElem_toArray, List.getElem_cons_zero, List.getElem_cons_succ, List.setIfInBounds_toArray, List.set_cons_zero, List.set_cons_succ]
        refine wpAnyH_take (i := 6) (v := .agg #[.int .i64 T.kind, .int .i64 T.n, .string T.name, .slice ra2 T.r.length rc2, .slice ka2 T.kids.length kc2, .slice sa2 T.sys.length sc2]) rfl (by kernel_rfl) (by kernel_rfl) (by kernel_rfl) (fun _ _ _ h => h) (Or.inl ⟨by rfl, fun w hS => by go_simp⟩) hS ?_
        try simp only [Act.put, List.getElem_toArray, List.getElem_cons_zero, List.getElem_cons_succ, List.setIfInBounds_toArray, List.set_cons_zero, List.set_cons_succ]
        refine wpAnyH_take (i := 7) (v := .int .i64 er) rfl (by kernel_rfl) (by kernel_rfl) (by kernel_rfl) (fun _ _ _ h => h) (Or.inl ⟨by rfl, fun w hS => by go_simp⟩) hS ?_
        try simp only [Act.put, List.getElem_toArray, List.getElem_cons_zero, List.getElem_cons_succ, List.setIfInBounds_toArray, List.set_cons_zero, List.set_cons_succ]
        have hZ := hZ.blw hbT
        have hge : w3.heap.size ≤ w4.heap.size := hSw4.size
        have zz2 := hZ.set6 (.int .i64 T.kind) (.int .i64 T.n) (.string T.name) (.slice ra2 T.r.length rc2) (.slice ka2 T.kids.length kc2) (.slice sa2 T.sys.length sc2)
        obtain ⟨o0, o1, o2, o3, o4, o5, ff⟩ := hZ.cells
        have f0 := ff 0
        have f1 := ff 1
        have f2 := ff 2
        have f3 := ff 3
        have f4 := ff 4
        have f5 := ff 5
        obtain ⟨w9, hwz⟩ : ∃ W, W = (((((w6.setCell ⟨w4.heap.size, 0, none⟩ (.int .i64 T.kind)).setCell ⟨w4.heap.size, 1, none⟩ (.int .i64 T.n)).setCell ⟨w4.heap.size, 2, none⟩ (.string T.name)).setCell ⟨w4.heap.size, 3, none⟩ (.slice ra2 T.r.length rc2)).setCell ⟨w4.heap.size, 4, none⟩ (.slice ka2 T.kids.length kc2)).setCell ⟨w4.heap.size, 5, none⟩ (.slice sa2 T.sys.length sc2) := ⟨_, rfl⟩
        rw [← hwz] at zz2
        have kz : Kn (fun q => q ≠ w4.heap.size) w6 w9 := by rw [hwz]; exact kn_set6 _ _ _ _ _ _ _ _
        have HTm : Hid (TmIn Tt w9 T (.agg #[.int .i64 T.kind, .int .i64 T.n, .string T.name, .slice ra2 T.r.length rc2, .slice ka2 T.kids.length kc2, .slice sa2 T.sys.length sc2])) := htv.keep kz.size (fun _ _ => trivial) (fun q hq hs => kz.block q (by have := hq.1; omega) hs)
        have hS5 : Below w3.heap.size w3 w9 := hS.trans (kz.below (fun q hq => by omega) hS.size)
        have Hwz : Hid (_ = _) := hwz
        clear hwz ff kz htv
        refine wpAnyH_ready (rs := [9]) (by kernel_rfl) (by simp) ?_
        refine ready_cons rfl (fun KK hKK => ?_) AllReadyH.nil
        refine ⟨?_⟩
        go_simp
        rw [← Hwz.out]
        refine hKK.out _ _ hS5 (fun hS => ?_)
        clear hKK KK
        try simp only [Act.put, List.getElem_toArray, List.getElem_cons_zero, List.getElem_cons_succ, List.setIfInBounds_toArray, List.set_cons_zero, List.set_cons_succ]
        refine wpAnyH_take (i := 10) (v := .int .i64 er) rfl (by kernel_rfl) (by kernel_rfl) (by kernel_rfl) (fun _ _ _ h => h) (Or.inl ⟨by rfl, fun w hS => by go_simp⟩) hS ?_
        try simp only [Act.put, List.getElem_toArray, List.getElem_cons_zero, List.getElem_cons_succ, List.setIfInBounds_toArray, List.set_cons_zero, List.set_cons_succ]
        refine wpAnyH_done (by kernel_rfl) ?_ _
        go_wp2_with fail
        go_meet
        exact ⟨_, _, _, _, _, _, _, rfl, rfl, zz2, HTm.out, hS, hge⟩
    · skip
      obtain ⟨w4, hw4⟩ : ∃ W, W = wd.alloc (.cells #[.int .i64 0, .int .i64 0, .string ⟨#[]⟩, .slice none 0 0, .slice none 0 0, .slice none 0 0] 26) := ⟨_, rfl⟩
      have bw4 : Below wd.heap.size wd w4 := by rw [hw4]; exact belowA _ _
      have sw4 : w4.heap.size = wd.heap.size + 1 := by rw [hw4]; simp
      have hZ : Six w4 wd.heap.size (.int .i64 0) (.int .i64 0) (.string ⟨#[]⟩) (.slice none 0 0) (.slice none 0 0) (.slice none 0 0) := ⟨by rw [hw4]; exact heapNew _ _⟩
      have hSw4 : Below w3.heap.size w3 w4 := hS.trans (bw4.mono hS.size)
      have Hw4 : Hid (_ = _) := hw4
      clear hw4
      refine ⟨?_⟩
      go_simp
      rw [← Hw4.out]
      refine hKK.out _ _ hSw4 (fun hS => ?_)
      clear hKK KK
      try simp only [Act.put, List.getElem_toArray, List.getElem_cons_zero, List.getElem_cons_succ, List.setIfInBounds_toArray, List.set_cons_zero, List.set_cons_succ]
      refine wpAnyH_ready (rs := [2]) (by kernel_rfl) (by simp) ?_
      refine ready_cons rfl (fun KK hKK => ?_) AllReadyH.nil
      refine ⟨?_⟩
      have cc := cP.out w4 hS
      go_simp
      refine cc.mono ?_
      rintro e w5 ⟨fV, cV, rfl, hF, hC, hbP⟩
      have hSw5 : Below w3.heap.size w3 w5 := hS.trans (hbP.mono hS.size)
      clear cc
      refine hKK.out _ _ hSw5 (fun hS => ?_)
      clear hKK KK
      try simp only [Act.put, List.getElem_toArray, List.getElem_cons_zero, List.getElem_cons_succ, List.setIfInBounds_toArray, List.set_cons_zero, List.set_cons_succ]
      have hZ := hZ.blw hbP
      refine wpAnyH_ready (rs := [4]) (by kernel_rfl) (by simp) ?_
      refine ready_cons rfl (fun KK hKK => ?_) AllReadyH.nil
      refine ⟨?_⟩
      have cc := cT.out w5 fV cV hS hF hC
      go_simp
      refine cc.mono ?_
      rintro e w6 ⟨v3, rfl, hv3, hbT⟩
      obtain ⟨ra2, rc2, ka2, kc2, sa2, sc2, rfl, ht2⟩ := hv3.form
      have htv := ht2.value
      have hSw6 : Below w3.heap.size w3 w6 := hS.trans (hbT.mono hS.size)
      clear cc ht2 hv3
      refine hKK.out _ _ hSw6 (fun hS => ?_)
      clear hKK KK
      try simp only [Act.put, List.getElem_toArray, List.getElem_cons_zero, List.getElem_cons_succ, List.setIfInBounds_toArray, List.set_cons_zero, List.set_cons_succ]
      refine wpAnyH_take (i := 5) (v := .tuple #[.agg #[.int .i64 T.kind, .int .i64 T.n, .string T.name, .slice ra2 T.r.length rc2, .slice ka2 T.kids.length kc2, .slice sa2 T.sys.length sc2], .int .i64 er]) rfl (by kernel_rfl) (by kernel_rfl) (by kernel_rfl) (fun _ _ _ h => h) (Or.inl ⟨by rfl, fun w hS => by go_simp⟩) hS ?_
      try simp only [Act.put, List.getElem_toArray, List.getElem_cons_zero, List.getElem_cons_succ, List.setIfInBounds_toArray, List.set_cons_zero, List.set_cons_succ]
      refine wpAnyH_take (i := 6) (v := .agg #[.int .i64 T.kind, .int .i64 T.n, .string T.name, .slice ra2 T.r.length rc2, .slice ka2 T.kids.length kc2, .slice sa2 T.sys.length sc2]) rfl (by kernel_rfl) (by kernel_rfl) (by kernel_rfl) (fun _ _ _ h => h) (Or.inl ⟨by rfl, fun w hS => by go_simp⟩) hS ?_
      try simp only [Act.put, List.getElem_toArray, List.getElem_cons_zero, List.getElem_cons_succ, List.setIfInBounds_toArray, List.set_cons_zero, List.set_cons_succ]
      refine wpAnyH_take (i := 7) (v := .int .i64 er) rfl (by kernel_rfl) (by kernel_rfl) (by kernel_rfl) (fun _ _ _ h => h) (Or.inl ⟨by rfl, fun w hS => by go_simp⟩) hS ?_
      try simp only [Act.put, List.getElem_toArray, List.getElem_cons_zero, List.getElem_cons_succ, List.setIfInBounds_toArray, List.set_cons_zero, List.set_cons_succ]
      have hZ := hZ.blw hbT
      have hge : w3.heap.size ≤ wd.heap.size := hbd.size
      have zz2 := hZ.set6 (.int .i64 T.kind) (.int .i64 T.n) (.string T.name) (.slice ra2 T.r.length rc2) (.slice ka2 T.kids.length kc2) (.slice sa2 T.sys.length sc2)
      obtain ⟨o0, o1, o2, o3, o4, o5, ff⟩ := hZ.cells
      have f0 := ff 0
      have f1 := ff 1
      have f2 := ff 2
      have f3 := ff 3
      have f4 := ff 4
      have f5 := ff 5
      obtain ⟨w9, hwz⟩ : ∃ W, W = (((((w6.setCell ⟨wd.heap.size, 0, none⟩ (.int .i64 T.kind)).setCell ⟨wd.heap.size, 1, none⟩ (.int .i64 T.n)).setCell ⟨wd.heap.size, 2, none⟩ (.string T.name)).setCell ⟨wd.heap.size, 3, none⟩ (.slice ra2 T.r.length rc2)).setCell ⟨wd.heap.size, 4, none⟩ (.slice ka2 T.kids.length kc2)).setCell ⟨wd.heap.size, 5, none⟩ (.slice sa2 T.sys.length sc2) := ⟨_, rfl⟩
      rw [← hwz] at zz2
      have kz : Kn (fun q => q ≠ wd.heap.size) w6 w9 := by rw [hwz]; exact kn_set6 _ _ _ _ _ _ _ _
      have HTm : Hid (TmIn Tt w9 T (.agg #[.int .i64 T.kind, .int .i64 T.n, .string T.name, .slice ra2 T.r.length rc2, .slice ka2 T.kids.length kc2, .slice sa2 T.sys.length sc2])) := htv.keep kz.size (fun _ _ => trivial) (fun q hq hs => kz.block q (by have := hq.1; have := hbP.size; omega) hs)
      have hS5 : Below w3.heap.size w3 w9 := hS.trans (kz.below (fun q hq => by omega) hS.size)
      have Hwz : Hid (_ = _) := hwz
      clear hwz ff kz htv
      refine wpAnyH_ready (rs := [9]) (by kernel_rfl) (by simp) ?_
      refine ready_cons rfl (fun KK hKK => ?_) AllReadyH.nil
      refine ⟨?_⟩
      go_simp
      rw [← Hwz.out]
      refine hKK.out _ _ hS5 (fun hS => ?_)
      clear hKK KK
      try simp only [Act.put, List.getElem_toArray, List.getElem_cons_zero, List.getElem_cons_succ, List.setIfInBounds_toArray, List.set_cons_zero, List.set_cons_succ]
      refine wpAnyH_take (i := 10) (v := .int .i64 er) rfl (by kernel_rfl) (by kernel_rfl) (by kernel_rfl) (fun _ _ _ h => h) (Or.inl ⟨by rfl, fun w hS => by go_simp⟩) hS ?_
      try simp only [Act.put, List.getElem_toArray, List.getElem_cons_zero, List.getElem_cons_succ, List.setIfInBounds_toArray, List.set_cons_zero, List.set_cons_succ]
      refine wpAnyH_done (by kernel_rfl) ?_ _
      go_wp2_with fail
      go_meet
      exact ⟨_, _, _, _, _, _, _, rfl, rfl, zz2, HTm.out, hS, hge⟩
  case rest =>
  obtain ⟨ob, ra2, rc2, ka2, kc2, sa2, sc2, rfl, rfl, hO, hTv, hS4, hge⟩ := hcut
  obtain ⟨w4, hw4⟩ : ∃ V, V = wc := ⟨_, rfl⟩
  subst hw4
  have b14 : Below w1.heap.size w1 w4 := b13.trans (hS4.mono b13.size)
  clear cP cT HR3 HC3 HT3 hS1
  by_cases hz : er = 0
  rotate_left
  · have Hf : Hid (takE i r t = er ∧ takT i r t = noT) := ⟨by rw [HE.out.1, if_neg hz], by rw [HE.out.2, if_neg hz]⟩
    have hz1 : (er == 0) = false := by simpa using hz
    clear HE
    have zz := HZ.out w4 b14
    have zz2 := zz.set6 (.int .i64 0) (.int .i64 0) (.string ⟨#[]⟩) (.slice none 0 0) (.slice none 0 0) (.slice none 0 0)
    obtain ⟨o0, o1, o2, o3, o4, o5, ff⟩ := zz.cells
    have f0 := ff 0
    have f1 := ff 1
    have f2 := ff 2
    have f3 := ff 3
    have f4 := ff 4
    have f5 := ff 5
    obtain ⟨h0, h1, h2, h3, h4, h5, _⟩ := zz2.cells
    obtain ⟨wz, hwz⟩ : ∃ W, W = (((((w4.setCell ⟨X + 1, 0, none⟩ (.int .i64 0)).setCell ⟨X + 1, 1, none⟩ (.int .i64 0)).setCell ⟨X + 1, 2, none⟩ (.string ⟨#[]⟩)).setCell ⟨X + 1, 3, none⟩ (.slice none 0 0)).setCell ⟨X + 1, 4, none⟩ (.slice none 0 0)).setCell ⟨X + 1, 5, none⟩ (.slice none 0 0) := ⟨_, rfl⟩
    rw [← hwz] at h0 h1 h2 h3 h4 h5
    have kz : Kn (fun q => q ≠ X + 1) w4 wz := by rw [hwz]; exact kn_set6 _ _ _ _ _ _ _ _
    have bz : Below X w wz := (HB.out w4 b14).trans (kz.below (fun q hq => by omega) (by have := (HB.out w4 b14).size; have := HXs.out; omega))
    have Hwz : Hid (_ = _) := hwz
    clear hwz ff zz zz2 kz
    go_wp2_with fail
    rw [← Hwz.out]
    exact bodyPost_ret (v := .tuple #[.agg #[.int .i64 0, .int .i64 0, .string ⟨#[]⟩, .slice none 0 0, .slice none 0 0, .slice none 0 0], .int .i64 (er)]) (by simp only [results, Tryz.results13]; simp [go_sem, h0, h1, h2, h3, h4, h5]) rfl ⟨_, by rw [Hf.out.1], by rw [Hf.out.2]; exact noT_in _ _, bz⟩
  subst hz
  rw [if_pos rfl, if_pos rfl] at HE
  have cP : Hid (∀ V, Below w4.heap.size w4 V → Calls Tryz.prog 32 #[.int .i64 i] V fun e w' => ∃ fV cV, e = .returned (.agg #[fV, cV]) ∧ RowC (dropOp i).fn fV w' ∧ RowC (dropOp i).fc cV w' ∧ Below V.heap.size V w') := fun V q => dropping_any i V hok
  have cT : Hid (∀ V fV cV, Below w4.heap.size w4 V → RowC (dropOp i).fn fV V → RowC (dropOp i).fc cV V → Calls Tryz.prog 23 #[.agg #[fV, cV], .agg #[.int .i64 T.kind, .int .i64 T.n, .string T.name, .slice ra2 T.r.length rc2, .slice ka2 T.kids.length kc2, .slice sa2 T.sys.length sc2]] V fun e w' => ∃ v', e = .returned (.tuple #[v', .int .i64 (eT (dropOp i) T 0)]) ∧ TmIn (OkN V.heap.size w') w' (ansD (dropOp i) T) v' ∧ Below V.heap.size V w') := fun V fV cV q h1 h2 => dterm_any T _ V (hTv.blw q) h1 h2 hsm
  obtain ⟨er2, her⟩ : ∃ e, e = eT (dropOp i) T 0 := ⟨_, rfl⟩
  obtain ⟨T2, hT⟩ : ∃ T2, T2 = ansD (dropOp i) T := ⟨_, rfl⟩
  rw [← her, ← hT] at cT HE
  have HO : Hid (∀ V, Below w4.heap.size w4 V → Six V ob (.int .i64 T.kind) (.int .i64 T.n) (.string T.name) (.slice ra2 T.r.length rc2) (.slice ka2 T.kids.length kc2) (.slice sa2 T.sys.length sc2)) := fun V q => hO.blw q
  have hob := hO.lt
  have hobX : ob ≠ X + 1 := by have := b13.size; omega
  clear her hT
  go_upto_region 10 with fail
  refine wp_region_held_drew (S := fun V => Below X w V ∧ Six V ob (.int .i64 T.kind) (.int .i64 T.n) (.string T.name) (.slice ra2 T.r.length rc2) (.slice ka2 T.kids.length kc2) (.slice sa2 T.sys.length sc2)) (by kernel_rfl) ⟨(HB.out w4 b14).drew, ⟨hO.blk⟩⟩ (fun hS => ?_)
  obtain ⟨wd, hwd⟩ : ∃ V, V = w4.drew := ⟨_, rfl⟩
  have hbd : Below w4.heap.size w4 wd := by rw [hwd]; exact (Below.refl _ _).drew
  rw [← hwd] at hS ⊢
  clear hwd hO
  refine wpAnyH_take (i := 0) (v := .int .i64 i) rfl (by kernel_rfl) (by kernel_rfl) (by kernel_rfl) (fun _ _ _ h => h) (Or.inl ⟨by rfl, fun w hS => by go_simp⟩) hS ?_
  try simp only [Act.put, List.getElem_toArray, List.getElem_cons_zero, List.getElem_cons_succ, List.setIfInBounds_toArray, List.set_cons_zero, List.set_cons_succ]
  refine wpAnyH_take (i := 2) (v := .agg #[.int .i64 T.kind, .int .i64 T.n, .string T.name, .slice ra2 T.r.length rc2, .slice ka2 T.kids.length kc2, .slice sa2 T.sys.length sc2]) rfl (by kernel_rfl) (by kernel_rfl) (by kernel_rfl) (fun _ _ _ h => h) (Or.inl ⟨by rfl, fun w hS => by obtain ⟨y0, y1, y2, y3, y4, y5, _⟩ := hS.2.cells; go_simp⟩) hS ?_
  try simp only [Act.put, List.getElem_toArray, List.getElem_cons_zero, List.getElem_cons_succ, List.setIfInBounds_toArray, List.set_cons_zero, List.set_cons_succ]
  refine wpAnyH_ready (rs := [1]) (by kernel_rfl) (by simp) ?_
  refine ready_cons rfl (fun KK hKK => ?_) AllReadyH.nil
  refine ⟨?_⟩
  have cc := cP.out wd hbd
  go_simp
  refine cc.mono ?_
  rintro e w5 ⟨fV, cV, rfl, hF, hC, hbq⟩
  have hbd : Below w4.heap.size w4 w5 := hbd.trans (hbq.mono hbd.size)
  clear cc hbq
  refine hKK.out _ _ ⟨HB.out w5 (b14.trans (hbd.mono b14.size)), HO.out w5 hbd⟩ (fun hS => ?_)
  clear hKK KK
  try simp only [Act.put, List.getElem_toArray, List.getElem_cons_zero, List.getElem_cons_succ, List.setIfInBounds_toArray, List.set_cons_zero, List.set_cons_succ]
  refine wpAnyH_ready (rs := [3]) (by kernel_rfl) (by simp) ?_
  refine ready_cons rfl (fun KK hKK => ?_) AllReadyH.nil
  refine ⟨?_⟩
  have cc := cT.out w5 fV cV hbd hF hC
  go_simp
  refine cc.mono ?_
  rintro e w6 ⟨v3, rfl, hv3, hb3⟩
  obtain ⟨ra2b, rc2b, ka2b, kc2b, sa2b, sc2b, rfl, ht2⟩ := hv3.form
  have htv := ht2.value
  have hn3 := hbd.size
  have hn4 := b14.size
  have hbd : Below w4.heap.size w4 w6 := hbd.trans (hb3.mono hbd.size)
  clear cc ht2 hv3
  refine hKK.out _ _ ⟨HB.out w6 (b14.trans (hbd.mono b14.size)), HO.out w6 hbd⟩ (fun hS => ?_)
  clear hKK KK
  try simp only [Act.put, List.getElem_toArray, List.getElem_cons_zero, List.getElem_cons_succ, List.setIfInBounds_toArray, List.set_cons_zero, List.set_cons_succ]
  refine wpAnyH_take (i := 4) (v := .agg #[.int .i64 T2.kind, .int .i64 T2.n, .string T2.name, .slice ra2b T2.r.length rc2b, .slice ka2b T2.kids.length kc2b, .slice sa2b T2.sys.length sc2b]) rfl (by kernel_rfl) (by kernel_rfl) (by kernel_rfl) (fun _ _ _ h => h) (Or.inl ⟨by rfl, fun w hS => by go_simp⟩) hS ?_
  try simp only [Act.put, List.getElem_toArray, List.getElem_cons_zero, List.getElem_cons_succ, List.setIfInBounds_toArray, List.set_cons_zero, List.set_cons_succ]
  refine wpAnyH_take (i := 5) (v := .int .i64 er2) rfl (by kernel_rfl) (by kernel_rfl) (by kernel_rfl) (fun _ _ _ h => h) (Or.inl ⟨by rfl, fun w hS => by go_simp⟩) hS ?_
  try simp only [Act.put, List.getElem_toArray, List.getElem_cons_zero, List.getElem_cons_succ, List.setIfInBounds_toArray, List.set_cons_zero, List.set_cons_succ]
  have zz := HZ.out w6 (b14.trans (hbd.mono b14.size))
  have zz2 := zz.set6 (.int .i64 T2.kind) (.int .i64 T2.n) (.string T2.name) (.slice ra2b T2.r.length rc2b) (.slice ka2b T2.kids.length kc2b) (.slice sa2b T2.sys.length sc2b)
  obtain ⟨o0, o1, o2, o3, o4, o5, ff⟩ := zz.cells
  have f0 := ff 0
  have f1 := ff 1
  have f2 := ff 2
  have f3 := ff 3
  have f4 := ff 4
  have f5 := ff 5
  obtain ⟨w7, hwz⟩ : ∃ W, W = (((((w6.setCell ⟨X + 1, 0, none⟩ (.int .i64 T2.kind)).setCell ⟨X + 1, 1, none⟩ (.int .i64 T2.n)).setCell ⟨X + 1, 2, none⟩ (.string T2.name)).setCell ⟨X + 1, 3, none⟩ (.slice ra2b T2.r.length rc2b)).setCell ⟨X + 1, 4, none⟩ (.slice ka2b T2.kids.length kc2b)).setCell ⟨X + 1, 5, none⟩ (.slice sa2b T2.sys.length sc2b) := ⟨_, rfl⟩
  rw [← hwz] at zz2
  have kz : Kn (fun q => q ≠ X + 1) w6 w7 := by rw [hwz]; exact kn_set6 _ _ _ _ _ _ _ _
  have HTm : Hid (TmIn (OkN X w7) w7 T2 (.agg #[.int .i64 T2.kind, .int .i64 T2.n, .string T2.name, .slice ra2b T2.r.length rc2b, .slice ka2b T2.kids.length kc2b, .slice sa2b T2.sys.length sc2b])) := keepD htv kz (by omega) (by omega)
  have hS5 : Below X w w7 ∧ Six w7 ob (.int .i64 T.kind) (.int .i64 T.n) (.string T.name) (.slice ra2 T.r.length rc2) (.slice ka2 T.kids.length kc2) (.slice sa2 T.sys.length sc2) := ⟨(HB.out w6 (b14.trans (hbd.mono b14.size))).trans (kz.below (fun q hq => by omega) (by have := (HB.out w6 (b14.trans (hbd.mono b14.size))).size; have := HXs.out; omega)), (HO.out w6 hbd).kn kz hobX⟩
  have Hwz : Hid (_ = _) := hwz
  clear hwz ff zz kz htv
  refine wpAnyH_ready (rs := [6]) (by kernel_rfl) (by simp) ?_
  refine ready_cons rfl (fun KK hKK => ?_) AllReadyH.nil
  refine ⟨?_⟩
  go_simp
  rw [← Hwz.out]
  refine hKK.out _ _ hS5 (fun hS => ?_)
  clear hKK KK
  try simp only [Act.put, List.getElem_toArray, List.getElem_cons_zero, List.getElem_cons_succ, List.setIfInBounds_toArray, List.set_cons_zero, List.set_cons_succ]
  refine wpAnyH_take (i := 7) (v := .int .i64 er2) rfl (by kernel_rfl) (by kernel_rfl) (by kernel_rfl) (fun _ _ _ h => h) (Or.inl ⟨by rfl, fun w hS => by go_simp⟩) hS ?_
  try simp only [Act.put, List.getElem_toArray, List.getElem_cons_zero, List.getElem_cons_succ, List.setIfInBounds_toArray, List.set_cons_zero, List.set_cons_succ]
  obtain ⟨h0, h1, h2, h3, h4, h5, _⟩ := zz2.cells
  refine wpAnyH_done (by kernel_rfl) ?_ _
  go_wp2_with fail
  exact bodyPost_ret (v := .tuple #[.agg #[.int .i64 T2.kind, .int .i64 T2.n, .string T2.name, .slice ra2b T2.r.length rc2b, .slice ka2b T2.kids.length kc2b, .slice sa2b T2.sys.length sc2b], .int .i64 (er2)]) (by simp only [results, Tryz.results13]; simp [go_sem, h0, h1, h2, h3, h4, h5]) rfl ⟨_, by rw [HE.out.1], by rw [HE.out.2]; exact HTm.out, hS.1⟩
end Go.Proofs.YtjimednocmdpnaaGreat

namespace Go.Proofs.YtjimednocmdpnaaGreat
open Go.RowKit
set_option linter.unusedVariables false
set_option linter.unusedSimpArgs false

/-! ### rows -/
theorem mt_two {c d e : C} (he : meetC c d = e) (hr : rightC e = true) (hk : okC e = true) : mtR [c] [d] = ([e], 0) := by
  have e2 : calmC (pairsC [c] [d]) = [e] := by simp [pairsC, calmC, he, hk]
  unfold mtR; rw [e2]; exact leastF_one hr
theorem prt_self {c : C} {i : Nat} (hi : i < 24) (hr : rightC c = true) (hk : okC c = true) : prtA c (i : Int) [posB i] ([negB i], 0) = ([c], 0) := by
  have h0 := okC_iff.1 hk i hi
  have hb := fright_bits hr
  have hB1 : hasB c.1.val (i : Int) = c.1.val.testBit i := hasB_nat hi
  have hB2 : hasB c.2.val (i : Int) = c.2.val.testBit i := hasB_nat hi
  unfold prtA
  rw [hB1, hB2]
  have eP : c.1.val.testBit i = true → c.2.val.testBit i = false → meetC (outC c (i : Int)) (posB i) = c := fun h1 h2 => by
    refine c_bits (fun k => ?_) (fun k => ?_)
    · rw [(meet_bits _ _ k).1, (out_bits c i k hi).1, (posB_bits i k hi).1]
      have := (hb k).1
      by_cases hik : i = k
      · subst hik; simp_all
      · simp_all
    · rw [(meet_bits _ _ k).2, (out_bits c i k hi).2, (posB_bits i k hi).2]
      have := (hb k).2
      by_cases hik : i = k
      · subst hik; simp_all
      · simp_all
  have eN : c.1.val.testBit i = false → c.2.val.testBit i = true → meetC (outC c (i : Int)) (negB i) = c := fun h1 h2 => by
    refine c_bits (fun k => ?_) (fun k => ?_)
    · rw [(meet_bits _ _ k).1, (out_bits c i k hi).1, (negB_bits i k hi).1]
      have := (hb k).1
      by_cases hik : i = k
      · subst hik; simp_all
      · simp_all
    · rw [(meet_bits _ _ k).2, (out_bits c i k hi).2, (negB_bits i k hi).2]
      have := (hb k).2
      by_cases hik : i = k
      · subst hik; simp_all
      · simp_all
  have e0 : c.1.val.testBit i = false → c.2.val.testBit i = false → outC c (i : Int) = c := fun h1 h2 => by
    refine c_bits (fun k => ?_) (fun k => ?_)
    · rw [(out_bits c i k hi).1]
      have := (hb k).1
      by_cases hik : i = k
      · subst hik; simp_all
      · simp_all
    · rw [(out_bits c i k hi).2]
      have := (hb k).2
      by_cases hik : i = k
      · subst hik; simp_all
      · simp_all
  cases h1 : c.1.val.testBit i <;> cases h2 : c.2.val.testBit i
  · simp [e0 h1 h2]
  · simp [mt_two (eN h1 h2) hr hk]
  · simp [mt_two (eP h1 h2) hr hk]
  · exact absurd ⟨h1, h2⟩ h0
theorem pts_self {i : Nat} (hi : i < 24) (f : List C) : (∀ c ∈ f, rightC c = true ∧ okC c = true) → f.length ≤ 64 → ptS f (i : Int) [posB i] ([negB i], 0) = leastF f := by
  induction f using snoc_ind with
  | nil => intro _ _; simp only [ptS, List.foldl_nil]; decide
  | snoc f c ih =>
    intro h hl
    have hf : ∀ x ∈ f, rightC x = true ∧ okC x = true := fun x hx => h x (List.mem_append_left _ hx)
    obtain ⟨hr, hk⟩ := h c (by simp)
    have hl2 : f.length ≤ 64 := by simp at hl; omega
    have hA : f.all rightC = true := all_mem (fun x hx => (hf x hx).1)
    have h0 : (leastF f).2 = 0 := least_small hA hl2
    rw [ptS_snoc, ih hf hl2]
    have e := leastF_pair h0
    rw [e, stpA_some, prt_self hi hr hk, if_pos rfl, least_more hA (by simp [hr]) h0]
theorem ofP {i : Nat} (hi : i < 24) : (ofF [posB i]).1 = [posB i] ∧ ofZ [posB i] = ([negB i], 0) ∧ rightF [posB i] = true := by
  have key : ∀ i : Fin 24, (ofF [posB i.val]).1 = [posB i.val] ∧ ofZ [posB i.val] = ([negB i.val], 0) ∧ rightF [posB i.val] = true := by decide +kernel
  exact key ⟨i, hi⟩
theorem ptA_self {f : List C} {i : Nat} (hi : i < 24) (hf : rightA f = true) : ptA f (i : Int) [posB i] = (f, 0) := by
  obtain ⟨e1, e2, e3⟩ := ofP hi
  unfold ptA
  rw [hf, isDimB_nat hi, e3, e1, e2]
  have hall : ∀ c ∈ f, rightC c = true ∧ okC c = true := fun c hc => ⟨List.all_eq_true.1 (rightF_all (rightA_right hf)) c hc, rightA_ok hf c hc⟩
  rw [pts_self hi f hall (rightA_len hf)]
  exact rightF_eq (rightA_right hf)
theorem lift_pos {i bd : Nat} (h : i + bd < 24) : liftFF [posB i] 0 (bd : Int) = ([posB (i + bd)], 0) := by
  have key : ∀ i bd : Fin 24, i.val + bd.val < 24 → liftFF [posB i.val] 0 (bd.val : Int) = ([posB (i.val + bd.val)], 0) := by decide +kernel
  exact key ⟨i, by omega⟩ ⟨bd, by omega⟩ h
theorem row_self {PF : List C → Int → List C → List C × Int} {i : Nat} (l : List C) (bd : Nat) (h : ∀ j : Nat, j < 24 → PF l (j : Int) [posB j] = (l, 0)) : putRow PF (i : Int) [posB i] l bd = (l, 0) := by
  unfold putRow
  cases hh : hasB (dimsN l) ((i : Int) + (bd : Int)) with
  | false => rfl
  | true =>
    have h24 : i + bd < 24 := by
      unfold hasB isDimB at hh
      simp only [Bool.and_eq_true, decide_eq_true_eq] at hh
      omega
    rw [if_pos rfl, lift_pos h24, if_pos rfl]
    have e : ((i : Int) + (bd : Int)) = ((i + bd : Nat) : Int) := by omega
    rw [e]
    exact h _ h24
/-! ### nothing is refused, nothing changes -/
theorem e_zero {o : DOp} (Q : Tm → Nat → Prop) (hQ : ∀ t bd, Q t bd → (ownP o t.kind t.r bd).2 = 0 ∧ (∀ k x, t.kids[k]? = some x → Q x (bd + bdK t.kind k)) ∧ ∀ b ∈ t.sys, (o.fc b.1 bd).2 = 0 ∧ ∀ x ∈ b.2, Q x (bd + moreK t.kind)) : ∀ (n : Nat) (t : Tm) (bd : Nat), blk t ≤ n → Q t bd → eT o t bd = 0
  | 0, t, bd, hn, _ => by have := blk_pos t; omega
  | n + 1, t, bd, hn, h => by
    obtain ⟨h1, h2, h3⟩ := hQ t bd h
    refine e_none h1 (firstE_zero.2 fun x hx => ?_) (firstE_zero.2 fun x hx => ?_)
    · obtain ⟨i, hi⟩ := List.mem_iff_getElem?.1 hx
      obtain ⟨y, hy⟩ := someL (l := t.kids) (k := i) (by rw [← eK_len o t.kind t.kids bd]; exact some_lt hi)
      rw [eK_get hy] at hi
      injection hi with hi
      rw [← hi]
      exact e_zero Q hQ n y _ (by have := blk_kid (List.mem_of_getElem? hy); omega) (h2 _ _ hy)
    · unfold eS at hx
      obtain ⟨b, hb, rfl⟩ := List.mem_map.1 hx
      obtain ⟨hf, hk⟩ := h3 b hb
      cases hst : stayB o bd b.1
      · exact b_gone hf hst
      · refine b_none hf hst (firstE_zero.2 fun x hx => ?_)
        unfold eBk at hx
        obtain ⟨y, hy, rfl⟩ := List.mem_map.1 hx
        exact e_zero Q hQ n y _ (by have := blk_sub hb hy; omega) (hk y hy)
theorem d_id {o : DOp} (Q : Tm → Nat → Prop) (hQ : ∀ t bd, Q t bd → (ownP o t.kind t.r bd).1 = t.r ∧ (∀ k x, t.kids[k]? = some x → Q x (bd + bdK t.kind k)) ∧ ∀ b ∈ t.sys, (o.fc b.1 bd).1 = b.1 ∧ b.1 ≠ [] ∧ ∀ x ∈ b.2, Q x (bd + moreK t.kind)) : ∀ (n : Nat) (t : Tm) (bd : Nat), blk t ≤ n → Q t bd → dT o t bd = t
  | 0, t, bd, hn, _ => by have := blk_pos t; omega
  | n + 1, t, bd, hn, h => by
    obtain ⟨e1, h2, h3⟩ := hQ t bd h
    have e2 : dK o t.kind t.kids bd = t.kids := by
      refine List.ext_getElem? fun i => ?_
      cases hx : t.kids[i]? with
      | none => rw [List.getElem?_eq_none_iff] at hx ⊢; rw [dK_len]; exact hx
      | some x => rw [dK_get hx, d_id Q hQ n x _ (by have := blk_kid (List.mem_of_getElem? hx); omega) (h2 i x hx)]
    have e3 : dS o t.kind t.sys bd = t.sys := by
      unfold dS
      rw [List.filter_eq_self.2 (fun b hb => by
        unfold stayB
        rw [(h3 b hb).1]
        have := (h3 b hb).2.1
        cases hb1 : b.1 with
        | nil => exact absurd hb1 this
        | cons _ _ => rfl)]
      conv => rhs; rw [← List.map_id t.sys]
      refine List.map_congr_left fun b hb => ?_
      unfold dB
      rw [(h3 b hb).1]
      refine Prod.ext rfl ?_
      show (b.2.map fun x => dT o x (bd + moreK t.kind)) = b.2
      conv => rhs; rw [← List.map_id b.2]
      exact List.map_congr_left fun x hx => d_id Q hQ n x _ (by have := blk_sub hb hx; omega) ((h3 b hb).2.2 x hx)
    rw [d_eq, e1, e2, e3]
    cases t; rfl
theorem self_all {i : Nat} {t : Tm} (hw : wrongN true 0 0 t = 0) (hne : neT t) : eT (putOp (i : Int) [posB i]) t 0 = 0 ∧ dT (putOp (i : Int) [posB i]) t 0 = t := by
  have hok : okT true 0 0 t 0 0 = true := by
    unfold wrongN at hw
    split at hw
    · cases hw
    · split at hw
      · assumption
      · cases hw
  have fn : ∀ l bd, rightF l = true → (putOp (i : Int) [posB i]).fn l bd = (l, 0) := fun l bd h => row_self l bd (fun j hj => put_self hj h)
  have fc : ∀ l bd, rightA l = true → (putOp (i : Int) [posB i]).fc l bd = (l, 0) := fun l bd h => row_self l bd (fun j hj => ptA_self hj h)
  have own : ∀ (x : Tm) bv b2 bd, okT true 0 0 x bv b2 = true → ownP (putOp (i : Int) [posB i]) x.kind x.r bd = (x.r, 0) := fun x bv b2 bd h => by
    unfold ownP
    split
    · rename_i h14
      rw [ok_eq, Bool.and_eq_true] at h
      have h1 := h.1
      unfold Tm.node nodeB at h1
      simp only [Bool.and_eq_true] at h1
      have h2 := h1.1.2
      refine fc _ _ ?_
      unfold rowB at h2
      rw [h14] at h2
      first
        | (simp at h2; exact h2.1)
        | (simp at h2; exact h2)
    · exact fn _ _ (ok_row h)
  have sub : ∀ (x : Tm) bv b2, okT true 0 0 x bv b2 = true → (∀ k y, x.kids[k]? = some y → ∃ bv b2, okT true 0 0 y bv b2 = true) ∧ ∀ b ∈ x.sys, rightA b.1 = true ∧ ∀ y ∈ b.2, ∃ bv b2, okT true 0 0 y bv b2 = true := fun x bv b2 h => by
    refine ⟨fun k y hy => ?_, fun b hb => ⟨ok_face h hb, fun y hy => ?_⟩⟩
    · rw [ok_eq, Bool.and_eq_true] at h
      exact ⟨_, _, List.all_eq_true.1 h.2 _ (pts_kid hy)⟩
    · rw [ok_eq, Bool.and_eq_true] at h
      exact ⟨_, _, List.all_eq_true.1 h.2 _ (pts_sys hb hy)⟩
  refine ⟨e_zero (fun t _ => ∃ bv b2, okT true 0 0 t bv b2 = true) (fun t bd ⟨bv, b2, h⟩ => ⟨by rw [own t bv b2 bd h], (sub t bv b2 h).1, fun b hb => ⟨by rw [fc _ _ ((sub t bv b2 h).2 b hb).1], ((sub t bv b2 h).2 b hb).2⟩⟩) _ t 0 (Nat.le_refl _) ⟨0, 0, hok⟩, ?_⟩
  exact d_id (fun t _ => (∃ bv b2, okT true 0 0 t bv b2 = true) ∧ neT t) (fun t bd ⟨⟨bv, b2, h⟩, hn⟩ => ⟨by rw [own t bv b2 bd h], fun k x hx => ⟨(sub t bv b2 h).1 k x hx, ((ne_eq t).1 hn).1 x (List.mem_of_getElem? hx)⟩, fun b hb => ⟨by rw [fc _ _ ((sub t bv b2 h).2 b hb).1], (((ne_eq t).1 hn).2 b hb).1, fun x hx => ⟨((sub t bv b2 h).2 b hb).2 x hx, (((ne_eq t).1 hn).2 b hb).2 x hx⟩⟩⟩) _ t 0 (Nat.le_refl _) ⟨⟨0, 0, hok⟩, hne⟩
/-! ### lifted, and taken out -/
theorem rowP_sd {i : Nat} (hi : i < 24) (bd : Nat) (r : List C) : rowP (sd (i : Int)) bd r = liftFF r ((i + bd : Nat) : Int) 1 := by
  unfold rowP sd
  rw [if_neg (by show ¬ (1 : Int) = 0; decide)]
  have e : min (i : Int) 24 + (bd : Int) = ((i + bd : Nat) : Int) := by omega
  show liftFF r (min (i : Int) 24 + (bd : Int)) 1 = _
  rw [e]
theorem er_parts {s : Sf} {t : Tm} {bv bd : Nat} (h : erT s t bv bd = 0) : (rowP s bd t.r).2 = 0 ∧ (∀ k x, t.kids[k]? = some x → erT s x (bv + bvK t.kind k) (bd + bdK t.kind k) = 0) ∧ ∀ b ∈ t.sys, (rowP s bd b.1).2 = 0 ∧ ∀ x ∈ b.2, erT s x bv (bd + moreK t.kind) = 0 := by
  rw [er_eq] at h
  have hz := firstE_zero.1 h
  refine ⟨hz _ (by simp), fun k x hx => ?_, fun b hb => ?_⟩
  · exact hz _ (by
      refine List.mem_cons_of_mem _ (List.mem_cons_of_mem _ (List.mem_append_left _ ?_))
      exact List.mem_of_getElem? (erK_get hx))
  · have hB := hz (erB s t.kind b bv bd) (List.mem_cons_of_mem _ (List.mem_cons_of_mem _ (List.mem_append_right _ (List.mem_map_of_mem hb))))
    unfold erB at hB
    have hz2 := firstE_zero.1 hB
    exact ⟨hz2 _ (by simp), fun x hx => hz2 _ (List.mem_cons_of_mem _ (List.mem_map_of_mem hx))⟩
theorem ne_li {i : Nat} (hi : i < 24) : ∀ (n : Nat) (t : Tm) (bv bd : Nat), blk t ≤ n → neT t → erT (sd (i : Int)) t bv bd = 0 → neT (liT (sd (i : Int)) t bv bd)
  | 0, t, bv, bd, hn, _, _ => by have := blk_pos t; omega
  | n + 1, t, bv, bd, hn, hne, he => by
    rw [ne_eq] at hne
    obtain ⟨h1, h2, h3⟩ := er_parts he
    rw [li_eq, ne_eq]
    refine ⟨fun x hx => ?_, fun b hb => ?_⟩
    · obtain ⟨k, hk⟩ := List.mem_iff_getElem?.1 (show x ∈ liK (sd (i : Int)) t.kind t.kids bv bd from hx)
      obtain ⟨y, hy⟩ := someL (l := t.kids) (k := k) (by rw [← liK_len (sd (i : Int)) t.kind t.kids bv bd]; exact some_lt hk)
      rw [liK_get hy] at hk
      injection hk with hk
      rw [← hk]
      exact ne_li hi n y _ _ (by have := blk_kid (List.mem_of_getElem? hy); omega) (hne.1 y (List.mem_of_getElem? hy)) (h2 k y hy)
    · obtain ⟨b', hb', rfl⟩ := List.mem_map.1 (show b ∈ t.sys.map fun b => liB (sd (i : Int)) t.kind b bv bd from hb)
      obtain ⟨g1, g2⟩ := h3 b' hb'
      obtain ⟨m1, m2⟩ := hne.2 b' hb'
      refine ⟨?_, fun x hx => ?_⟩
      · show (rowP (sd (i : Int)) bd b'.1).1 ≠ []
        rw [rowP_sd hi] at g1 ⊢
        rw [(lift_row g1).1]
        intro e
        exact m1 (List.map_eq_nil_iff.1 e)
      · obtain ⟨y, hy, rfl⟩ := List.mem_map.1 (show x ∈ b'.2.map fun x => liT (sd (i : Int)) x bv (bd + moreK t.kind) from hx)
        exact ne_li hi n y _ _ (by have := blk_sub hb' hy; omega) (m2 y hy) (g2 y hy)
theorem numV_sd2 (i : Int) (bv : Nat) (k n : Int) : numV (sd i) bv k n = n := by
  unfold numV sd
  split <;> simp
theorem drop_li {i : Nat} (hi : i < 24) : ∀ (n : Nat) (t : Tm) (bv bd : Nat), blk t ≤ n → neT t → erT (sd (i : Int)) t bv bd = 0 → dT (dropOp (i : Int)) (liT (sd (i : Int)) t bv bd) bd = t
  | 0, t, bv, bd, hn, _, _ => by have := blk_pos t; omega
  | n + 1, t, bv, bd, hn, hne, he => by
    rw [ne_eq] at hne
    obtain ⟨h1, h2, h3⟩ := er_parts he
    have row : ∀ r : List C, (rowP (sd (i : Int)) bd r).2 = 0 → dropRow (i : Int) (rowP (sd (i : Int)) bd r).1 bd = (r, 0) := fun r h => by
      rw [rowP_sd hi] at h ⊢
      unfold dropRow
      have e : ((i : Int) + (bd : Int)) = ((i + bd : Nat) : Int) := by omega
      rw [e, drop_row h]
    have e1 : (ownP (dropOp (i : Int)) t.kind (rowP (sd (i : Int)) bd t.r).1 bd).1 = t.r := by
      unfold ownP
      have : ∀ k : Prop, ∀ [Decidable k], (if k then (dropOp (i : Int)).fc (rowP (sd (i : Int)) bd t.r).1 bd else (dropOp (i : Int)).fn (rowP (sd (i : Int)) bd t.r).1 bd) = dropRow (i : Int) (rowP (sd (i : Int)) bd t.r).1 bd := fun k _ => by split <;> rfl
      rw [this, row _ h1]
    have e2 : dK (dropOp (i : Int)) t.kind (liK (sd (i : Int)) t.kind t.kids bv bd) bd = t.kids := by
      refine List.ext_getElem? fun k => ?_
      cases hx : t.kids[k]? with
      | none => rw [List.getElem?_eq_none_iff] at hx ⊢; rw [dK_len, liK_len]; exact hx
      | some x => rw [dK_get (liK_get hx), drop_li hi n x _ _ (by have := blk_kid (List.mem_of_getElem? hx); omega) (hne.1 x (List.mem_of_getElem? hx)) (h2 k x hx)]
    have e3 : dS (dropOp (i : Int)) t.kind (t.sys.map fun b => liB (sd (i : Int)) t.kind b bv bd) bd = t.sys := by
      unfold dS
      have fc : ∀ b ∈ t.sys, (dropOp (i : Int)).fc (liB (sd (i : Int)) t.kind b bv bd).1 bd = (b.1, 0) := fun b hb => row _ (h3 b hb).1
      rw [List.filter_eq_self.2 (fun b hb => by
        obtain ⟨b', hb', rfl⟩ := List.mem_map.1 hb
        unfold stayB
        rw [fc b' hb']
        have := (hne.2 b' hb').1
        cases hb1 : b'.1 with
        | nil => exact absurd hb1 this
        | cons _ _ => rfl), List.map_map]
      conv => rhs; rw [← List.map_id t.sys]
      refine List.map_congr_left fun b hb => ?_
      show dB (dropOp (i : Int)) t.kind (liB (sd (i : Int)) t.kind b bv bd) bd = b
      unfold dB
      rw [fc b hb]
      refine Prod.ext rfl ?_
      show ((b.2.map fun x => liT (sd (i : Int)) x bv (bd + moreK t.kind)).map fun x => dT (dropOp (i : Int)) x (bd + moreK t.kind)) = b.2
      rw [List.map_map]
      conv => rhs; rw [← List.map_id b.2]
      exact List.map_congr_left fun x hx => drop_li hi n x _ _ (by have := blk_sub hb hx; omega) ((hne.2 b hb).2 x hx) ((h3 b hb).2 x hx)
    rw [li_eq, d_eq]
    show Tm.mk t.kind (numV (sd (i : Int)) bv t.kind t.n) t.name (ownP (dropOp (i : Int)) t.kind (rowP (sd (i : Int)) bd t.r).1 bd).1 (dK (dropOp (i : Int)) t.kind (liK (sd (i : Int)) t.kind t.kids bv bd) bd) (dS (dropOp (i : Int)) t.kind (t.sys.map fun b => liB (sd (i : Int)) t.kind b bv bd) bd) = t
    rw [e1, e2, e3, numV_sd2]
    cases t; rfl
theorem e_same {i : Nat} {r : List C} {t : Tm} (h : hsT t i = false) : eT (putOp (i : Int) r) t 0 = 0 := by
  have no : ∀ (l : List C) (bd : Nat), (dimsN l).testBit (i + bd) = false → (i + bd < 24 → inF l (i + bd) = false) := fun l bd h h24 => by
    cases hi : inF l (i + bd)
    · rfl
    · rw [bit_in.2 ⟨h24, hi⟩] at h; cases h
  refine e_zero (fun t bd => hsT t (i + bd) = false) (fun t bd hh => ?_) _ t 0 (Nat.le_refl _) h
  rw [hs_eq, Bool.or_eq_false_iff, Bool.or_eq_false_iff] at hh
  obtain ⟨⟨hr, hs⟩, hp⟩ := hh
  rw [List.any_eq_false] at hs hp
  refine ⟨?_, fun k x hx => ?_, fun b hb => ⟨?_, fun x hx => ?_⟩⟩
  · unfold ownP
    split
    · have := put_no (PF := ptA) (r := r) (no t.r bd hr); exact congrArg Prod.snd this
    · have := put_no (PF := putF) (r := r) (no t.r bd hr); exact congrArg Prod.snd this
  · have := hp _ (pts_kid hx)
    have : hsT x (i + bd + bdK t.kind k) = false := by simpa using this
    rw [← Nat.add_assoc]; exact this
  · have := put_no (PF := ptA) (r := r) (no b.1 bd (by simpa using hs b hb)); exact congrArg Prod.snd this
  · have := hp _ (pts_sys hb hx)
    have : hsT x (i + bd + moreK t.kind) = false := by simpa using this
    rw [← Nat.add_assoc]; exact this
theorem e_drop {i : Int} (t : Tm) : eT (dropOp i) t 0 = 0 := by
  refine e_zero (fun _ _ => True) (fun t bd _ => ⟨?_, fun _ _ _ => trivial, fun _ _ => ⟨rfl, fun _ _ => trivial⟩⟩) _ t 0 (Nat.le_refl _) trivial
  unfold ownP
  split <;> rfl
/-- What was lifted is as it was, when that is taken out, whatever is put there. -/
theorem take_li {i : Nat} (hi : i < 24) {r : List C} {t : Tm} (hw : wrongN true 0 0 t = 0) (hne : neT t) (hg : erT (sd (i : Int)) t 0 0 = 0) (hr : (liftFF r (i : Int) 1).2 = 0) :
    takE (i : Int) r (liT (sd (i : Int)) t 0 0) = 0 ∧ takT (i : Int) r (liT (sd (i : Int)) t 0 0) = t := by
  have hx := formed_li (s := sd (i : Int)) (by show (0 : Int) ≤ 0; decide) (by show (0 : Int) ≤ 1; decide) 0 0 hw
  have hrr : rightF r = true := by
    unfold liftFF at hr
    by_cases h : rightF r = true
    · exact h
    · rw [if_neg h] at hr; cases hr
  have hwr : wrD (i : Int) r (liT (sd (i : Int)) t 0 0) = 0 := by
    unfold wrD
    rw [if_pos hx, if_pos ⟨isDimB_nat hi, hrr⟩]
  have hhs : hsT (liT (sd (i : Int)) t 0 0) i = false := by
    have := hs_sd (p := (i : Int)) (by omega) (by omega) _ t 0 0 (Nat.le_refl _)
    simpa using this
  have hn := ne_li hi _ t 0 0 (Nat.le_refl _) hne hg
  have e1 := e_same (r := (liftFF r (i : Int) 1).1) hhs
  have d1 := d_same (s := ⟨i, (liftFF r (i : Int) 1).1, top0⟩) _ (liT (sd (i : Int)) t 0 0) 0 (Nat.le_refl _) hn (by simpa using hhs)
  have d1 : dT (putOp (i : Int) (liftFF r (i : Int) 1).1) (liT (sd (i : Int)) t 0 0) 0 = liT (sd (i : Int)) t 0 0 := d1
  have a1 : ansD (putOp (i : Int) (liftFF r (i : Int) 1).1) (liT (sd (i : Int)) t 0 0) = liT (sd (i : Int)) t 0 0 := by
    unfold ansD; rw [if_pos e1, d1]
  have d2 := drop_li hi _ t 0 0 (Nat.le_refl _) hne hg
  constructor
  · unfold takE
    rw [if_pos hwr, if_pos hr, if_pos e1, a1]
    exact e_drop _
  · unfold takT
    rw [if_pos hwr, if_pos hr, if_pos e1, a1]
    unfold ansD
    rw [if_pos (e_drop _)]
    exact d2
/-- A dimension's own formula in its place. -/
theorem put_own {i : Nat} (hi : i < 24) {t : Tm} (hw : wrongN true 0 0 t = 0) (hne : neT t) : putE (i : Int) [posB i] t = 0 ∧ putT' (i : Int) [posB i] t = t := by
  obtain ⟨e, d⟩ := self_all (i := i) hw hne
  have hwr : wrD (i : Int) [posB i] t = 0 := by
    unfold wrD
    rw [if_pos hw, if_pos ⟨isDimB_nat hi, (ofP hi).2.2⟩]
  constructor
  · unfold putE; rw [if_pos hwr]; exact e
  · unfold putT'; rw [if_pos hwr]; unfold ansD; rw [if_pos e]; exact d
end Go.Proofs.YtjimednocmdpnaaGreat

namespace Go.Proofs.YtjimednocmdpnaaGreat
open Go.RowKit
set_option linter.unusedVariables false
set_option linter.unusedSimpArgs false

def tV (n : Int) : Tm := .mk 1 n ⟨#[]⟩ [] [] []
def tL (n : Int) : Tm := .mk 5 0 ⟨#[]⟩ [] [tV n] []
def tA : Tm := .mk 6 0 ⟨#[]⟩ [] [tV 1, tL 2] []
theorem tL_pts (n : Int) : (tL n).pts = [(tV n, 1, 0)] := by rfl
theorem tV_pts (n : Int) : (tV n).pts = [] := by rfl
theorem tA_pts : tA.pts = [(tV 1, 0, 0), (tL 2, 0, 0)] := by rfl
theorem w1_right : rightN 0 0 (tL 0) = 0 := by
  have hd : ¬ 200 < depthT (tL 0) := by simp [depthT, tL, tV, Tm.fold, maxL]
  have n1 : (tL 0).node false 0 0 0 0 = true := by kernel_rfl
  have n2 : (tV 0).node false 0 0 1 0 = true := by kernel_rfl
  have ho : okT false 0 0 (tL 0) 0 0 = true := by
    rw [ok_eq, tL_pts, n1]
    simp only [List.all_cons, List.all_nil, Bool.and_true, Bool.true_and, Nat.zero_add]
    rw [ok_eq, tV_pts, n2]; rfl
  simp [rightN, wrongN, hd, ho]
theorem w2_right : rightN 0 0 (tV 0) = 100 := by
  have hd : ¬ 200 < depthT (tV 0) := by simp [depthT, tL, tV, Tm.fold, maxL]
  have n1 : (tV 0).node false 0 0 0 0 = false := by kernel_rfl
  have ho : okT false 0 0 (tV 0) 0 0 = false := by rw [ok_eq, n1]; rfl
  simp [rightN, wrongN, hd, ho]
theorem us_tV (n m : Int) (b : Nat) : usT n (tV m) b = (decide (0 ≤ n) && decide (m = n + b)) := by rw [us_eq, tV_pts, Bool.eq_iff_iff]; simp [tV]; exact fun _ => ⟨of_decide_eq_true, decide_eq_true⟩
theorem us_tL (n m : Int) (b : Nat) : usT n (tL m) b = usT n (tV m) (b + 1) := by rw [us_eq, tL_pts]; simp [tL]
theorem us_tA (n : Int) (b : Nat) : usT n tA b = (usT n (tV 1) b || usT n (tL 2) b) := by rw [us_eq, tA_pts]; simp [tA]
theorem w3_size : sizeT tA = 4 := by simp [sizeT, tA, tL, tV, Tm.fold]
theorem w4_uses : usT 1 tA 0 = true := by rw [us_tA, us_tV]; rfl
theorem w5_uses : usT 0 tA 0 = false := by rw [us_tA, us_tL, us_tV, us_tV]; rfl
theorem blk_tA : blk tA ≤ 20000 := by have e0 : ByteArray.size ⟨#[]⟩ = 0 := rfl; simp [blk, tA, tL, tV, Tm.fold, e0]
theorem blk_tL : blk (tL 0) ≤ 20000 := by have e0 : ByteArray.size ⟨#[]⟩ = 0 := rfl; simp [blk, tA, tL, tV, Tm.fold, e0]
theorem blk_tV : blk (tV 0) ≤ 20000 := by have e0 : ByteArray.size ⟨#[]⟩ = 0 := rfl; simp [blk, tA, tL, tV, Tm.fold, e0]
theorem cl_nil0 (w : World) : ClRow Tt w [] (.slice none 0 0) := ⟨none, 0, rfl, Nat.le_refl _, fun j c h => by simp at h⟩
theorem kd_nil0 (w : World) : KdT Tt w (TmIn Tt w) [] (.slice none 0 0) := ⟨none, 0, rfl, Nat.le_refl _, fun j c h => by simp at h⟩
theorem sy_nil0 (w : World) : SyT Tt w (TmIn Tt w) [] (.slice none 0 0) := ⟨none, 0, rfl, Nat.le_refl _, fun j c h => by simp at h⟩
theorem tV_in (w : World) (n : Int) (hn : I64 n) : TmIn Tt w (tV n) (.agg #[.int .i64 1, .int .i64 n, .string ⟨#[]⟩, .slice none 0 0, .slice none 0 0, .slice none 0 0]) :=
  .mk _ _ _ _ _ _ _ _ _ ⟨by decide, by decide⟩ hn (cl_nil0 w) (kd_nil0 w) (sy_nil0 w)
theorem tL_in (w : World) (n : Int) (hn : I64 n) (g : Nat) (h : w.heap[g]? = some (.cells #[.int .i64 1, .int .i64 n, .string ⟨#[]⟩, .slice none 0 0, .slice none 0 0, .slice none 0 0] 26 (0, 0))) :
    TmIn Tt w (tL n) (.agg #[.int .i64 5, .int .i64 0, .string ⟨#[]⟩, .slice none 0 0, .slice (some ⟨g, 0, none⟩) 1 1, .slice none 0 0]) := by
  refine .mk _ _ _ _ _ _ _ _ _ ⟨by decide, by decide⟩ ⟨by decide, by decide⟩ (cl_nil0 w) ⟨_, _, rfl, Nat.le_refl _, fun j x hx => ?_⟩ (sy_nil0 w)
  have hj : j = 0 := by have := some_lt hx; simp at this; omega
  subst hj
  simp only [List.getElem?_cons_zero, Option.some.injEq] at hx
  subst hx
  refine ⟨g, 0, _, _, _, _, _, _, rfl, trivial, (Array.getElem?_eq_some_iff.1 h).1, tV_in w n hn, ?_, ?_, ?_, ?_, ?_, ?_⟩ <;> (unfold World.cell?; simp [h])
theorem tA_in (w : World) (g g2 : Nat) (h2 : w.heap[g2]? = some (.cells #[.int .i64 1, .int .i64 2, .string ⟨#[]⟩, .slice none 0 0, .slice none 0 0, .slice none 0 0] 26 (0, 0)))
    (h : w.heap[g]? = some (.cells #[.int .i64 1, .int .i64 1, .string ⟨#[]⟩, .slice none 0 0, .slice none 0 0, .slice none 0 0, .int .i64 5, .int .i64 0, .string ⟨#[]⟩, .slice none 0 0, .slice (some ⟨g2, 0, none⟩) 1 1, .slice none 0 0] 26 (0, 0))) :
    TmIn Tt w tA (.agg #[.int .i64 6, .int .i64 0, .string ⟨#[]⟩, .slice none 0 0, .slice (some ⟨g, 0, none⟩) 2 2, .slice none 0 0]) := by
  refine .mk _ _ _ _ _ _ _ _ _ ⟨by decide, by decide⟩ ⟨by decide, by decide⟩ (cl_nil0 w) ⟨_, _, rfl, Nat.le_refl _, fun j x hx => ?_⟩ (sy_nil0 w)
  have hj : j = 0 ∨ j = 1 := by have := some_lt hx; simp at this; omega
  rcases hj with rfl | rfl
  · simp only [List.getElem?_cons_zero, Option.some.injEq] at hx
    subst hx
    refine ⟨g, 0, _, _, _, _, _, _, rfl, trivial, (Array.getElem?_eq_some_iff.1 h).1, tV_in w 1 ⟨by decide, by decide⟩, ?_, ?_, ?_, ?_, ?_, ?_⟩ <;> (unfold World.cell?; simp [h])
  · simp only [List.getElem?_cons_succ, List.getElem?_cons_zero, Option.some.injEq] at hx
    subst hx
    refine ⟨g, 0, _, _, _, _, _, _, rfl, trivial, (Array.getElem?_eq_some_iff.1 h).1, tL_in w 2 ⟨by decide, by decide⟩ g2 h2, ?_, ?_, ?_, ?_, ?_, ?_⟩ <;> (unfold World.cell?; simp [h])
theorem box_works (w : World) : ∃ W, W = ((((w.alloc (.cells #[.int .i64 1, .int .i64 0, .string ⟨#[]⟩, .slice none 0 0, .slice none 0 0, .slice none 0 0] 26)).alloc (.cells #[.int .i64 5, .int .i64 0, .string ⟨#[]⟩, .slice none 0 0, .slice (some ⟨w.heap.size, 0, none⟩) 1 1, .slice none 0 0] 26)).alloc (.cells #[.int .i64 1, .int .i64 2, .string ⟨#[]⟩, .slice none 0 0, .slice none 0 0, .slice none 0 0] 26)).alloc (.cells #[.int .i64 1, .int .i64 1, .string ⟨#[]⟩, .slice none 0 0, .slice none 0 0, .slice none 0 0, .int .i64 5, .int .i64 0, .string ⟨#[]⟩, .slice none 0 0, .slice (some ⟨w.heap.size + 2, 0, none⟩) 1 1, .slice none 0 0] 26)).alloc (.cells #[.int .i64 6, .int .i64 0, .string ⟨#[]⟩, .slice none 0 0, .slice (some ⟨w.heap.size + 3, 0, none⟩) 2 2, .slice none 0 0] 26) ∧ Below w.heap.size w W ∧ W.heap.size = w.heap.size + 5 ∧ Six W (w.heap.size + 1) (.int .i64 5) (.int .i64 0) (.string ⟨#[]⟩) (.slice none 0 0) (.slice (some ⟨w.heap.size, 0, none⟩) 1 1) (.slice none 0 0) ∧ Six W (w.heap.size + 4) (.int .i64 6) (.int .i64 0) (.string ⟨#[]⟩) (.slice none 0 0) (.slice (some ⟨w.heap.size + 3, 0, none⟩) 2 2) (.slice none 0 0) ∧
    TmIn Tt W (tL 0) (.agg #[.int .i64 5, .int .i64 0, .string ⟨#[]⟩, .slice none 0 0, .slice (some ⟨w.heap.size, 0, none⟩) 1 1, .slice none 0 0]) ∧ TmIn Tt W tA (.agg #[.int .i64 6, .int .i64 0, .string ⟨#[]⟩, .slice none 0 0, .slice (some ⟨w.heap.size + 3, 0, none⟩) 2 2, .slice none 0 0]) := by
  obtain ⟨w1, h1⟩ : ∃ w1, w1 = w.alloc (.cells #[.int .i64 1, .int .i64 0, .string ⟨#[]⟩, .slice none 0 0, .slice none 0 0, .slice none 0 0] 26) := ⟨_, rfl⟩
  obtain ⟨w2, h2⟩ : ∃ w2, w2 = w1.alloc (.cells #[.int .i64 5, .int .i64 0, .string ⟨#[]⟩, .slice none 0 0, .slice (some ⟨w.heap.size, 0, none⟩) 1 1, .slice none 0 0] 26) := ⟨_, rfl⟩
  obtain ⟨w3, h3⟩ : ∃ w3, w3 = w2.alloc (.cells #[.int .i64 1, .int .i64 2, .string ⟨#[]⟩, .slice none 0 0, .slice none 0 0, .slice none 0 0] 26) := ⟨_, rfl⟩
  obtain ⟨w4, h4⟩ : ∃ w4, w4 = w3.alloc (.cells #[.int .i64 1, .int .i64 1, .string ⟨#[]⟩, .slice none 0 0, .slice none 0 0, .slice none 0 0, .int .i64 5, .int .i64 0, .string ⟨#[]⟩, .slice none 0 0, .slice (some ⟨w.heap.size + 2, 0, none⟩) 1 1, .slice none 0 0] 26) := ⟨_, rfl⟩
  obtain ⟨w5, h5⟩ : ∃ w5, w5 = w4.alloc (.cells #[.int .i64 6, .int .i64 0, .string ⟨#[]⟩, .slice none 0 0, .slice (some ⟨w.heap.size + 3, 0, none⟩) 2 2, .slice none 0 0] 26) := ⟨_, rfl⟩
  have s1 : w1.heap.size = w.heap.size + 1 := by rw [h1]; simp
  have s2 : w2.heap.size = w.heap.size + 2 := by rw [h2]; simp; omega
  have s3 : w3.heap.size = w.heap.size + 3 := by rw [h3]; simp; omega
  have s4 : w4.heap.size = w.heap.size + 4 := by rw [h4]; simp; omega
  have s5 : w5.heap.size = w.heap.size + 5 := by rw [h5]; simp; omega
  have m0 := heapNew w (.cells #[.int .i64 1, .int .i64 0, .string ⟨#[]⟩, .slice none 0 0, .slice none 0 0, .slice none 0 0] 26)
  have m1 := heapNew w1 (.cells #[.int .i64 5, .int .i64 0, .string ⟨#[]⟩, .slice none 0 0, .slice (some ⟨w.heap.size, 0, none⟩) 1 1, .slice none 0 0] 26)
  have m2 := heapNew w2 (.cells #[.int .i64 1, .int .i64 2, .string ⟨#[]⟩, .slice none 0 0, .slice none 0 0, .slice none 0 0] 26)
  have m3 := heapNew w3 (.cells #[.int .i64 1, .int .i64 1, .string ⟨#[]⟩, .slice none 0 0, .slice none 0 0, .slice none 0 0, .int .i64 5, .int .i64 0, .string ⟨#[]⟩, .slice none 0 0, .slice (some ⟨w.heap.size + 2, 0, none⟩) 1 1, .slice none 0 0] 26)
  have m4 := heapNew w4 (.cells #[.int .i64 6, .int .i64 0, .string ⟨#[]⟩, .slice none 0 0, .slice (some ⟨w.heap.size + 3, 0, none⟩) 2 2, .slice none 0 0] 26)
  have b1 : Below w.heap.size w w1 := by rw [h1]; exact belowA _ _
  have b2 : Below w1.heap.size w1 w2 := by rw [h2]; exact belowA _ _
  have b3 : Below w2.heap.size w2 w3 := by rw [h3]; exact belowA _ _
  have b4 : Below w3.heap.size w3 w4 := by rw [h4]; exact belowA _ _
  have b5 : Below w4.heap.size w4 w5 := by rw [h5]; exact belowA _ _
  rw [← h1] at m0
  rw [← h2, s1] at m1
  rw [← h3, s2] at m2
  rw [← h4, s3] at m3
  rw [← h5, s4] at m4
  have b45 := bchain b4 b5
  have b35 := bchain b3 b45
  have b25 := bchain b2 b35
  have q0 := (b25.block _ (by omega)).trans m0
  have q1 := (b35.block _ (by omega)).trans m1
  have q2 := (b45.block _ (by omega)).trans m2
  have q3 := (b5.block _ (by omega)).trans m3
  refine ⟨w5, by rw [h5, h4, h3, h2, h1], bchain b1 b25, s5, ⟨q1⟩, ⟨m4⟩, tL_in _ 0 ⟨by decide, by decide⟩ _ q0, tA_in _ _ _ q2 q3⟩
def WkS (w : World) (W : World) : Prop := Six W (w.heap.size + 1) (.int .i64 5) (.int .i64 0) (.string ⟨#[]⟩) (.slice none 0 0) (.slice (some ⟨w.heap.size, 0, none⟩) 1 1) (.slice none 0 0) ∧ Six W (w.heap.size + 4) (.int .i64 6) (.int .i64 0) (.string ⟨#[]⟩) (.slice none 0 0) (.slice (some ⟨w.heap.size + 3, 0, none⟩) 2 2) (.slice none 0 0)
end Go.Proofs.YtjimednocmdpnaaGreat

namespace Go.Proofs.YtjimednocmdpnaaGreat
open Go.RowKit
set_option linter.unusedVariables false
set_option linter.unusedSimpArgs false

def BulkR (m B r : Nat) : Prop := (B ≤ m → r = B) ∧ (m < B → m < r) ∧ r ≤ 2 * m + 2 ∧ 1 ≤ r
def BulkC (N : Nat) : Prop := ∀ (m : Nat) (q : Int) (t : Tm) (v : Value) (w : World), q = (m : Nat) → m ≤ 1000000 → blk t ≤ N → TmIn Tt w t v → Calls Tryz.prog 17 #[v, .int .i64 q] w fun e w' => (∃ r : Nat, e = .returned (.int .i64 r) ∧ BulkR m (blk t) r) ∧ Below w.heap.size w w'
/-- A sum as far as it was made: it is right, or it is too great and rightly so. -/
structure Pt (m S P : Nat) : Prop where
  out : S = P ∨ (m < S ∧ m < P)
theorem Pt.step {m S P B r : Nat} (h : Pt m S P) (hS : S ≤ m) (hr : BulkR (m - S) B r) : Pt m (S + r) (P + B) := by
  obtain ⟨r1, r2, r3, r4⟩ := hr
  refine ⟨?_⟩
  rcases h.out with h | h
  · by_cases hz : B ≤ m - S
    · have := r1 hz; left; omega
    · have := r2 (by omega); right; omega
  · omega
theorem Pt.add {m S P : Nat} (h : Pt m S P) (x : Nat) : Pt m (S + x) (P + x) := ⟨by have := h.out; omega⟩
theorem Pt.to {m S P P' : Nat} (h : Pt m S P) (e : P = P') : Pt m S P' := e ▸ h
theorem Pt.bulk {m S P B : Nat} (h : Pt m S P) (hP : P ≤ B) (he : P = B ∨ m < S) (h2 : S ≤ 2 * m + 2) (h1 : 1 ≤ S) : BulkR m B S := by
  have := h.out
  refine ⟨?_, ?_, h2, h1⟩ <;> omega
set_option maxRecDepth 100000 in
set_option maxHeartbeats 16000000 in
theorem bulk_step (N : Nat) (IH : BulkC N) : BulkC (N + 1) := by
  intro m q t v w hq hm hbN h
  subst hq
  obtain ⟨ra, rc, ka, kc, sa, sc, rfl, ht⟩ := h.form
  obtain ⟨w1, hw1⟩ : ∃ w1, w1 = w.alloc (.cells #[.int .i64 t.kind, .int .i64 t.n, .string t.name, .slice ra t.r.length rc, .slice ka t.kids.length kc, .slice sa t.sys.length sc] 26) := ⟨_, rfl⟩
  have b1 : Below w.heap.size w w1 := by rw [hw1]; exact belowA _ _
  have c6 : Cs6 w1 w.heap.size 0 t ra rc ka kc sa sc := by rw [hw1]; exact cs6_new w t ra rc ka kc sa sc
  have HT : Hid (TmTop Tt w1 t ra rc ka kc sa sc) := ht.blw b1
  have HC : Hid (Cs6 w1 w.heap.size 0 t ra rc ka kc sa sc) := c6
  have hbs := blk_eq t
  have HB : Hid (blk t = 1 + t.r.length + t.name.size + blkL t.kids + blkS t.sys) := hbs
  obtain ⟨R, hR⟩ : ∃ R, R = t.r.length := ⟨_, rfl⟩
  obtain ⟨Q, hQ⟩ : ∃ Q, Q = t.name.size := ⟨_, rfl⟩
  have HR : Hid (R = t.r.length ∧ Q = t.name.size) := ⟨hR, hQ⟩
  obtain ⟨_, y0, y1, y2, y3, y4, y5⟩ := c6
  simp only [Nat.zero_add] at y1 y2 y3 y4 y5
  rw [← hR] at y3 hw1
  rw [← hR, ← hQ] at hbs
  have HW : Hid (_ = _) := hw1
  clear hw1 h ht
  rw [← hR]
  have hsz : t.name.size = Q := hQ.symm
  clear hR hQ
  by_cases h1 : m < R
  · have hi : (m : Int) < (R : Int) := by omega
    go_enter Tryz.func17, Tryz.ntmps17
    go_wp2_with fail
    rw [← HW.out]
    go_wp2_with fail
    go_ret
    exact ⟨⟨m + 1, by go_num, by unfold BulkR; omega⟩, b1⟩
  · have hi : ¬ (m : Int) < (R : Int) := by omega
    by_cases h2 : m < Q
    · have hi2 : (m : Int) < (Q : Int) := by omega
      go_enter Tryz.func17, Tryz.ntmps17
      go_wp2_with fail
      rw [← HW.out]
      go_wp2_with fail
      go_ret
      exact ⟨⟨m + 1, by go_num, by unfold BulkR; omega⟩, b1⟩
    · have hi2 : ¬ (m : Int) < (Q : Int) := by omega
      obtain ⟨L, hL⟩ : ∃ L, L = t.kids.length := ⟨_, rfl⟩
      have HL : Hid (L = t.kids.length) := hL
      obtain ⟨M, hM⟩ : ∃ M, M = t.sys.length := ⟨_, rfl⟩
      have HM : Hid (M = t.sys.length) := hM
      have HBs : Hid (blk t = 1 + R + Q + blkL t.kids + blkS t.sys) := hbs
      clear hL hM hbs
      go_enter Tryz.func17, Tryz.ntmps17
      go_wp2_with fail
      rw [← HW.out]
      clear y0 y1 y2 y3 y4 y5
      go_loopw [5, 6] (fun s i wr => ∃ k S : Nat, k ≤ L ∧ i = .int .i64 k ∧ s = .int .i64 S ∧ Pt m S (1 + R + Q + blkL (t.kids.take k)) ∧ S ≤ 2 * m + 2 ∧ k + 1 ≤ S ∧ Below w1.heap.size w1 wr) (fun _ i _ => L - (intOf i).toNat)
      case atStart => exact ⟨0, 1 + R + Q, Nat.zero_le _, rfl, by go_num, ⟨.inl (by simp [blkL])⟩, by omega, by omega, Below.refl _ _⟩
      case round =>
        obtain ⟨wo, hwo⟩ : ∃ wo, wo = wr := ⟨_, rfl⟩
        subst hwo
        obtain ⟨k, S, hk, rfl, rfl, hS, hSm, hkS, hBr⟩ := hrel
        obtain ⟨_, x0, x1, x2, x3, x4, x5⟩ := HC.out.blw hBr
        simp only [Nat.zero_add] at x1 x2 x3 x4 x5
        rw [← HL.out] at x4
        rw [← HM.out] at x5
        by_cases hgo : k < L ∧ S ≤ m
        · obtain ⟨hlt, hSl⟩ := hgo
          have hkI : (k : Int) < (L : Int) := by omega
          have hSI : (S : Int) ≤ (m : Int) := by omega
          obtain ⟨y, hy⟩ := someL (l := t.kids) (k := k) (by rw [← HL.out]; exact hlt)
          obtain ⟨g, off, ra1, rc1, ka1, kc1, sa1, sc1, rfl, hg, q6, qt⟩ := (HT.out.blw hBr).kids.at hy
          have hby : blk y < blk t := blk_kid (List.mem_of_getElem? hy)
          have HY : Hid (_ = _) := blkL_step hy
          have cc := IH (m - S) ((m : Int) - (S : Int)) y _ wo (by omega) (by omega) (by omega) qt.value
          obtain ⟨_, c0, c1, c2, c3, c4, c5⟩ := q6
          clear hy qt
          go_wp2_with fail
          refine cc.mono ?_
          rintro e w6 ⟨⟨r, rfl, hr⟩, hb6⟩
          clear cc
          have hP := (hS.step hSl hr).to (show _ = 1 + R + Q + blkL (t.kids.take (k + 1)) by rw [HY.out]; omega)
          obtain ⟨_, _, r3, r4⟩ := hr
          clear HY hS x0 x1 x2 x3 x4 x5 c0 c1 c2 c3 c4 c5
          go_wp2_with fail
          go_roundw
          case rel => exact ⟨k + 1, S + r, by omega, by go_num, by go_num, hP, by omega, by omega, hBr.trans (hb6.mono hBr.size)⟩
          case measure => simp [intOf]; omega
        · have HP0 : Pt m S (1 + R + Q + blkL (t.kids.take k)) ∧ (blkL (t.kids.take k) = blkL t.kids ∨ m < S) := ⟨hS, by
            by_cases hkL : k < L
            · right; omega
            · left; rw [List.take_of_length_le (by rw [← HL.out]; omega)]⟩
          have HPt : Hid (Pt m S (1 + R + Q + blkL t.kids)) := (by
            have h9 := blkL_take t.kids k
            have := HP0.1.out
            rcases HP0.2 with e | e
            · rw [← e]; exact HP0.1
            · exact ⟨.inr ⟨e, by omega⟩⟩ : Pt m S (1 + R + Q + blkL t.kids))
          clear HP0 hS
          rcases (show L ≤ k ∨ (k < L ∧ m < S) by omega) with hend | ⟨hend, hend2⟩
          · have hkI : ¬ (k : Int) < (L : Int) := by omega
            go_wp2_with fail
            clear x0 x1 x2 x3 x4 x5
            have hS1 : 1 ≤ S := by omega
            go_loopw [5, 7] (fun s i wr => ∃ k S : Nat, k ≤ M ∧ i = .int .i64 k ∧ s = .int .i64 S ∧ Pt m S (1 + R + Q + blkL t.kids + blkS (t.sys.take k)) ∧ S ≤ 2 * m + 2 ∧ k + 1 ≤ S ∧ Below w1.heap.size w1 wr) (fun _ i _ => M - (intOf i).toNat)
            case atStart => exact ⟨0, S, Nat.zero_le _, rfl, rfl, HPt.out.to (by simp [blkS]), hSm, by omega, hBr⟩
            case round =>
              obtain ⟨wp, hwp⟩ : ∃ wp, wp = wr := ⟨_, rfl⟩
              subst hwp
              clear hkI hBr hSm hkS HPt hS1
              obtain ⟨k, S, hk, rfl, rfl, hS, hSm, hkS, hBr⟩ := hrel
              obtain ⟨_, x0, x1, x2, x3, x4, x5⟩ := HC.out.blw hBr
              simp only [Nat.zero_add] at x1 x2 x3 x4 x5
              rw [← HM.out] at x5
              by_cases hgo : k < M ∧ S ≤ m
              · obtain ⟨hlt, hSl⟩ := hgo
                have hkI : (k : Int) < (M : Int) := by omega
                have hSI : (S : Int) ≤ (m : Int) := by omega
                obtain ⟨b, hb⟩ := someL (l := t.sys) (k := k) (by rw [← HM.out]; exact hlt)
                obtain ⟨g, off, fa, fc, ka1, kc1, rfl, hg, q2, qf, qk⟩ := (HT.out.blw hBr).sys.at hb
                have HY : Hid (_ = _) := blkS_step hb
                have HMm : Hid (b ∈ t.sys) := List.mem_of_getElem? hb
                have hle := blkS_take t.sys (k + 1)
                have hle2 := HY.out
                have HQ2 : Hid (Cs2 wp g (off + k * 2) b fa fc ka1 kc1) := q2
                have HK : Hid (KdT Tt wp (TmIn Tt wp) b.2 (.slice ka1 b.2.length kc1)) := qk
                obtain ⟨_, c0, c1⟩ := q2
                obtain ⟨Fl, hFl⟩ : ∃ Fl, Fl = b.1.length := ⟨_, rfl⟩
                have HF : Hid (Fl = b.1.length) := hFl
                obtain ⟨K, hK⟩ : ∃ K, K = b.2.length := ⟨_, rfl⟩
                have HKl : Hid (K = b.2.length) := hK
                rw [← hFl] at c0 hle2
                rw [← hK] at c1
                clear hFl hK hb qf qk
                by_cases hf : m < Fl
                · have hfI : (m : Int) < (Fl : Int) := by omega
                  have HRR : Hid (BulkR m (blk t) (m + 1)) := (by have := HBs.out; unfold BulkR; omega : BulkR m (blk t) (m + 1))
                  clear hle hle2
                  go_wp2_with fail
                  go_ret
                  exact ⟨⟨m + 1, by go_num, HRR.out⟩, bchain b1 hBr⟩
                · have hfI : ¬ (m : Int) < (Fl : Int) := by omega
                  clear hle hle2
                  go_wp2_with fail
                  have HP1 : Hid (Pt m (S + 1 + Fl) (1 + R + Q + blkL t.kids + blkS (t.sys.take k) + 1 + Fl + blkL (b.2.take 0))) := ((hS.add 1).add Fl).to (by simp [blkL])
                  clear hS x0 x1 x2 x3 x4 x5 c0 c1
                  have hS2 : S + 1 + Fl ≤ 2 * m + 2 := by omega
                  go_loopw [5, 8] (fun s i wr => ∃ j S' : Nat, j ≤ K ∧ i = .int .i64 j ∧ s = .int .i64 S' ∧ Pt m S' (1 + R + Q + blkL t.kids + blkS (t.sys.take k) + 1 + Fl + blkL (b.2.take j)) ∧ S' ≤ 2 * m + 2 ∧ k + 2 + j ≤ S' ∧ Below wp.heap.size wp wr) (fun _ i _ => K - (intOf i).toNat)
                  case atStart => exact ⟨0, S + 1 + Fl, Nat.zero_le _, rfl, by go_num, HP1.out, hS2, by omega, Below.refl _ _⟩
                  case round =>
                    obtain ⟨wq, hwq⟩ : ∃ wq, wq = wr := ⟨_, rfl⟩
                    subst hwq
                    obtain ⟨j, S', hj, rfl, rfl, hS', hSm', hjS, hBq⟩ := hrel
                    have hB2 := bchain hBr hBq
                    obtain ⟨_, x0, x1, x2, x3, x4, x5⟩ := HC.out.blw hB2
                    simp only [Nat.zero_add] at x1 x2 x3 x4 x5
                    rw [← HM.out] at x5
                    obtain ⟨_, c0, c1⟩ := HQ2.out.blw hBq
                    rw [← HKl.out] at c1
                    by_cases hgo2 : j < K ∧ S' ≤ m
                    · obtain ⟨hlt2, hSl2⟩ := hgo2
                      have hjI : (j : Int) < (K : Int) := by omega
                      have hSI2 : (S' : Int) ≤ (m : Int) := by omega
                      obtain ⟨y, hy⟩ := someL (l := b.2) (k := j) (by rw [← HKl.out]; exact hlt2)
                      obtain ⟨g2, off2, ra2, rc2, ka2, kc2, sa2, sc2, rfl, hg2, q6, qt⟩ := (HK.out.blw hBq).at hy
                      have hby : blk y < blk t := blk_sub HMm.out (List.mem_of_getElem? hy)
                      have HY2 : Hid (_ = _) := blkL_step hy
                      have cc := IH (m - S') ((m : Int) - (S' : Int)) y _ wq (by omega) (by omega) (by omega) qt.value
                      obtain ⟨_, d0, d1, d2, d3, d4, d5⟩ := q6
                      clear hy qt
                      go_wp2_with fail
                      refine cc.mono ?_
                      rintro e w6 ⟨⟨r, rfl, hr⟩, hb6⟩
                      clear cc
                      have hP := (hS'.step hSl2 hr).to (show _ = 1 + R + Q + blkL t.kids + blkS (t.sys.take k) + 1 + Fl + blkL (b.2.take (j + 1)) by rw [HY2.out]; omega)
                      obtain ⟨_, _, r3, r4⟩ := hr
                      clear HY2 hS' x0 x1 x2 x3 x4 x5 c0 c1 d0 d1 d2 d3 d4 d5
                      go_wp2_with fail
                      go_roundw
                      case rel => exact ⟨j + 1, S' + r, by omega, by go_num, by go_num, hP, by omega, by omega, hBq.trans (hb6.mono hBq.size)⟩
                      case measure => simp [intOf]; omega
                    · have HPn : Hid (Pt m S' (1 + R + Q + blkL t.kids + blkS (t.sys.take (k + 1)))) := (by
                        have e0 := HY.out
                        rw [← HF.out] at e0
                        have h9 := blkL_take b.2 j
                        have h8 := hS'.out
                        by_cases hjK : j < K
                        · exact ⟨.inr ⟨by omega, by omega⟩⟩
                        · have e9 : b.2.take j = b.2 := List.take_of_length_le (by rw [← HKl.out]; omega)
                          rw [e9] at hS'
                          exact hS'.to (by omega) : Pt m S' (1 + R + Q + blkL t.kids + blkS (t.sys.take (k + 1))))
                      clear hS'
                      rcases (show K ≤ j ∨ (j < K ∧ m < S') by omega) with hend | ⟨hend, hend2⟩
                      · have hjI : ¬ (j : Int) < (K : Int) := by omega
                        go_wp2_with fail
                        go_roundw
                        case rel => exact ⟨k + 1, S', by omega, by go_num, rfl, HPn.out, hSm', by omega, hB2⟩
                        case measure => simp [intOf]; omega
                      · have hjI : (j : Int) < (K : Int) := by omega
                        have hSI2 : ¬ (S' : Int) ≤ (m : Int) := by omega
                        go_wp2_with fail
                        go_roundw
                        case rel => exact ⟨k + 1, S', by omega, by go_num, rfl, HPn.out, hSm', by omega, hB2⟩
                        case measure => simp [intOf]; omega
              · have HRR : Hid (BulkR m (blk t) S) := (by
                  have h3 := HBs.out
                  have h9 := blkS_take t.sys k
                  refine hS.bulk (by omega) ?_ hSm (by omega)
                  by_cases hkM : k < M
                  · right; omega
                  · left; rw [List.take_of_length_le (by rw [← HM.out]; omega)]; omega : BulkR m (blk t) S)
                clear hS
                rcases (show M ≤ k ∨ (k < M ∧ m < S) by omega) with hend | ⟨hend, hend2⟩
                · have hkI : ¬ (k : Int) < (M : Int) := by omega
                  go_wp2_with fail
                  go_ret
                  exact ⟨⟨S, rfl, HRR.out⟩, bchain b1 hBr⟩
                · have hkI : (k : Int) < (M : Int) := by omega
                  have hSI : ¬ (S : Int) ≤ (m : Int) := by omega
                  go_wp2_with fail
                  go_ret
                  exact ⟨⟨S, rfl, HRR.out⟩, bchain b1 hBr⟩
          · have hkI : (k : Int) < (L : Int) := by omega
            have hSI : ¬ (S : Int) ≤ (m : Int) := by omega
            go_wp2_with fail
            clear x0 x1 x2 x3 x4 x5
            have hS1 : 1 ≤ S := by omega
            go_loopw [5, 7] (fun s i wr => ∃ k S : Nat, k ≤ M ∧ i = .int .i64 k ∧ s = .int .i64 S ∧ Pt m S (1 + R + Q + blkL t.kids + blkS (t.sys.take k)) ∧ S ≤ 2 * m + 2 ∧ k + 1 ≤ S ∧ Below w1.heap.size w1 wr) (fun _ i _ => M - (intOf i).toNat)
            case atStart => exact ⟨0, S, Nat.zero_le _, rfl, rfl, HPt.out.to (by simp [blkS]), hSm, by omega, hBr⟩
            case round =>
              obtain ⟨wp, hwp⟩ : ∃ wp, wp = wr := ⟨_, rfl⟩
              subst hwp
              clear hkI hBr hSm hkS HPt hS1
              obtain ⟨k, S, hk, rfl, rfl, hS, hSm, hkS, hBr⟩ := hrel
              obtain ⟨_, x0, x1, x2, x3, x4, x5⟩ := HC.out.blw hBr
              simp only [Nat.zero_add] at x1 x2 x3 x4 x5
              rw [← HM.out] at x5
              by_cases hgo : k < M ∧ S ≤ m
              · obtain ⟨hlt, hSl⟩ := hgo
                have hkI : (k : Int) < (M : Int) := by omega
                have hSI : (S : Int) ≤ (m : Int) := by omega
                obtain ⟨b, hb⟩ := someL (l := t.sys) (k := k) (by rw [← HM.out]; exact hlt)
                obtain ⟨g, off, fa, fc, ka1, kc1, rfl, hg, q2, qf, qk⟩ := (HT.out.blw hBr).sys.at hb
                have HY : Hid (_ = _) := blkS_step hb
                have HMm : Hid (b ∈ t.sys) := List.mem_of_getElem? hb
                have hle := blkS_take t.sys (k + 1)
                have hle2 := HY.out
                have HQ2 : Hid (Cs2 wp g (off + k * 2) b fa fc ka1 kc1) := q2
                have HK : Hid (KdT Tt wp (TmIn Tt wp) b.2 (.slice ka1 b.2.length kc1)) := qk
                obtain ⟨_, c0, c1⟩ := q2
                obtain ⟨Fl, hFl⟩ : ∃ Fl, Fl = b.1.length := ⟨_, rfl⟩
                have HF : Hid (Fl = b.1.length) := hFl
                obtain ⟨K, hK⟩ : ∃ K, K = b.2.length := ⟨_, rfl⟩
                have HKl : Hid (K = b.2.length) := hK
                rw [← hFl] at c0 hle2
                rw [← hK] at c1
                clear hFl hK hb qf qk
                by_cases hf : m < Fl
                · have hfI : (m : Int) < (Fl : Int) := by omega
                  have HRR : Hid (BulkR m (blk t) (m + 1)) := (by have := HBs.out; unfold BulkR; omega : BulkR m (blk t) (m + 1))
                  clear hle hle2
                  go_wp2_with fail
                  go_ret
                  exact ⟨⟨m + 1, by go_num, HRR.out⟩, bchain b1 hBr⟩
                · have hfI : ¬ (m : Int) < (Fl : Int) := by omega
                  clear hle hle2
                  go_wp2_with fail
                  have HP1 : Hid (Pt m (S + 1 + Fl) (1 + R + Q + blkL t.kids + blkS (t.sys.take k) + 1 + Fl + blkL (b.2.take 0))) := ((hS.add 1).add Fl).to (by simp [blkL])
                  clear hS x0 x1 x2 x3 x4 x5 c0 c1
                  have hS2 : S + 1 + Fl ≤ 2 * m + 2 := by omega
                  go_loopw [5, 8] (fun s i wr => ∃ j S' : Nat, j ≤ K ∧ i = .int .i64 j ∧ s = .int .i64 S' ∧ Pt m S' (1 + R + Q + blkL t.kids + blkS (t.sys.take k) + 1 + Fl + blkL (b.2.take j)) ∧ S' ≤ 2 * m + 2 ∧ k + 2 + j ≤ S' ∧ Below wp.heap.size wp wr) (fun _ i _ => K - (intOf i).toNat)
                  case atStart => exact ⟨0, S + 1 + Fl, Nat.zero_le _, rfl, by go_num, HP1.out, hS2, by omega, Below.refl _ _⟩
                  case round =>
                    obtain ⟨wq, hwq⟩ : ∃ wq, wq = wr := ⟨_, rfl⟩
                    subst hwq
                    obtain ⟨j, S', hj, rfl, rfl, hS', hSm', hjS, hBq⟩ := hrel
                    have hB2 := bchain hBr hBq
                    obtain ⟨_, x0, x1, x2, x3, x4, x5⟩ := HC.out.blw hB2
                    simp only [Nat.zero_add] at x1 x2 x3 x4 x5
                    rw [← HM.out] at x5
                    obtain ⟨_, c0, c1⟩ := HQ2.out.blw hBq
                    rw [← HKl.out] at c1
                    by_cases hgo2 : j < K ∧ S' ≤ m
                    · obtain ⟨hlt2, hSl2⟩ := hgo2
                      have hjI : (j : Int) < (K : Int) := by omega
                      have hSI2 : (S' : Int) ≤ (m : Int) := by omega
                      obtain ⟨y, hy⟩ := someL (l := b.2) (k := j) (by rw [← HKl.out]; exact hlt2)
                      obtain ⟨g2, off2, ra2, rc2, ka2, kc2, sa2, sc2, rfl, hg2, q6, qt⟩ := (HK.out.blw hBq).at hy
                      have hby : blk y < blk t := blk_sub HMm.out (List.mem_of_getElem? hy)
                      have HY2 : Hid (_ = _) := blkL_step hy
                      have cc := IH (m - S') ((m : Int) - (S' : Int)) y _ wq (by omega) (by omega) (by omega) qt.value
                      obtain ⟨_, d0, d1, d2, d3, d4, d5⟩ := q6
                      clear hy qt
                      go_wp2_with fail
                      refine cc.mono ?_
                      rintro e w6 ⟨⟨r, rfl, hr⟩, hb6⟩
                      clear cc
                      have hP := (hS'.step hSl2 hr).to (show _ = 1 + R + Q + blkL t.kids + blkS (t.sys.take k) + 1 + Fl + blkL (b.2.take (j + 1)) by rw [HY2.out]; omega)
                      obtain ⟨_, _, r3, r4⟩ := hr
                      clear HY2 hS' x0 x1 x2 x3 x4 x5 c0 c1 d0 d1 d2 d3 d4 d5
                      go_wp2_with fail
                      go_roundw
                      case rel => exact ⟨j + 1, S' + r, by omega, by go_num, by go_num, hP, by omega, by omega, hBq.trans (hb6.mono hBq.size)⟩
                      case measure => simp [intOf]; omega
                    · have HPn : Hid (Pt m S' (1 + R + Q + blkL t.kids + blkS (t.sys.take (k + 1)))) := (by
                        have e0 := HY.out
                        rw [← HF.out] at e0
                        have h9 := blkL_take b.2 j
                        have h8 := hS'.out
                        by_cases hjK : j < K
                        · exact ⟨.inr ⟨by omega, by omega⟩⟩
                        · have e9 : b.2.take j = b.2 := List.take_of_length_le (by rw [← HKl.out]; omega)
                          rw [e9] at hS'
                          exact hS'.to (by omega) : Pt m S' (1 + R + Q + blkL t.kids + blkS (t.sys.take (k + 1))))
                      clear hS'
                      rcases (show K ≤ j ∨ (j < K ∧ m < S') by omega) with hend | ⟨hend, hend2⟩
                      · have hjI : ¬ (j : Int) < (K : Int) := by omega
                        go_wp2_with fail
                        go_roundw
                        case rel => exact ⟨k + 1, S', by omega, by go_num, rfl, HPn.out, hSm', by omega, hB2⟩
                        case measure => simp [intOf]; omega
                      · have hjI : (j : Int) < (K : Int) := by omega
                        have hSI2 : ¬ (S' : Int) ≤ (m : Int) := by omega
                        go_wp2_with fail
                        go_roundw
                        case rel => exact ⟨k + 1, S', by omega, by go_num, rfl, HPn.out, hSm', by omega, hB2⟩
                        case measure => simp [intOf]; omega
              · have HRR : Hid (BulkR m (blk t) S) := (by
                  have h3 := HBs.out
                  have h9 := blkS_take t.sys k
                  refine hS.bulk (by omega) ?_ hSm (by omega)
                  by_cases hkM : k < M
                  · right; omega
                  · left; rw [List.take_of_length_le (by rw [← HM.out]; omega)]; omega : BulkR m (blk t) S)
                clear hS
                rcases (show M ≤ k ∨ (k < M ∧ m < S) by omega) with hend | ⟨hend, hend2⟩
                · have hkI : ¬ (k : Int) < (M : Int) := by omega
                  go_wp2_with fail
                  go_ret
                  exact ⟨⟨S, rfl, HRR.out⟩, bchain b1 hBr⟩
                · have hkI : (k : Int) < (M : Int) := by omega
                  have hSI : ¬ (S : Int) ≤ (m : Int) := by omega
                  go_wp2_with fail
                  go_ret
                  exact ⟨⟨S, rfl, HRR.out⟩, bchain b1 hBr⟩
theorem bulk_any (N : Nat) : BulkC N := by
  induction N with
  | zero => intro m q t v w _ _ hb; have := blk_pos t; omega
  | succ N ih => exact bulk_step N ih
end Go.Proofs.YtjimednocmdpnaaGreat

namespace Go.Proofs.YtjimednocmdpnaaGreat
open Go.RowKit
set_option linter.unusedVariables false
set_option linter.unusedSimpArgs false

def cP (n : Fin 4294967296) : C := (n, 0)
def wU : Tm := .mk 3 0 ⟨#[]⟩ [] [] []
def wA : Tm := .mk 21 0 ⟨#[]⟩ [cP 1] [] []
def wA2 : Tm := .mk 21 0 ⟨#[]⟩ [cP 2] [] []
def wB : Tm := .mk 21 0 ⟨#[]⟩ [cP 1, cP 2] [] []
def wH : Tm := .mk 15 0 ⟨#[]⟩ [] [wU, wU] [([cP 1], [wU])]
def wH2 : Tm := .mk 15 0 ⟨#[]⟩ [] [wU, wU] []
theorem wk_pE : putE 0 [cP 2] wA = 0 := by decide +kernel
theorem wk_pT : putT' 0 [cP 2] wA = wA2 := by kernel_rfl
theorem wk_tE : takE 0 [] wB = 0 := by decide +kernel
theorem wk_tT : takT 0 [] wB = wA := by kernel_rfl
theorem wk_u : undA ((0, 1) : C) wH = (wH2, 0) := by kernel_rfl
theorem wk_b1 : blk wA ≤ 20000 := by decide +kernel
theorem wk_b2 : blk wB ≤ 20000 := by decide +kernel
theorem wk_b3 : blk wH ≤ 20000 ∧ capT wH ≤ 40000 ∧ capT wB ≤ 40000 := by decide +kernel
theorem wrow1_in (w : World) (g : Nat) (n : Fin 4294967296) (h : w.heap[g]? = some (.cells #[.int .u32 (n.val : Int), .int .u32 0] 43 (0, 0))) : ClRow Tt w [cP n] (.slice (some ⟨g, 0, none⟩) 1 1) := by
  refine ⟨_, _, rfl, Nat.le_refl _, fun j x hx => ?_⟩
  have hj : j = 0 := by have := some_lt hx; simp at this; omega
  subst hj
  simp only [List.getElem?_cons_zero, Option.some.injEq] at hx
  subst hx
  refine ⟨g, 0, rfl, trivial, (Array.getElem?_eq_some_iff.1 h).1, ?_, ?_⟩ <;> (unfold World.cell?; simp [h, cP])
theorem wrow2_in (w : World) (g : Nat) (h : w.heap[g]? = some (.cells #[.int .u32 1, .int .u32 0, .int .u32 2, .int .u32 0] 43 (0, 0))) : ClRow Tt w [cP 1, cP 2] (.slice (some ⟨g, 0, none⟩) 2 2) := by
  refine ⟨_, _, rfl, Nat.le_refl _, fun j x hx => ?_⟩
  have hj : j = 0 ∨ j = 1 := by have := some_lt hx; simp at this; omega
  rcases hj with rfl | rfl
  · simp only [List.getElem?_cons_zero, Option.some.injEq] at hx
    subst hx
    refine ⟨g, 0, rfl, trivial, (Array.getElem?_eq_some_iff.1 h).1, ?_, ?_⟩ <;> (unfold World.cell?; simp [h, cP])
  · simp only [List.getElem?_cons_succ, List.getElem?_cons_zero, Option.some.injEq] at hx
    subst hx
    refine ⟨g, 0, rfl, trivial, (Array.getElem?_eq_some_iff.1 h).1, ?_, ?_⟩ <;> (unfold World.cell?; simp [h, cP])
theorem wU_in (w : World) : TmIn Tt w wU (.agg #[.int .i64 3, .int .i64 0, .string ⟨#[]⟩, .slice none 0 0, .slice none 0 0, .slice none 0 0]) :=
  .mk _ _ _ _ _ _ _ _ _ ⟨by decide, by decide⟩ ⟨by decide, by decide⟩ (cl_nil0 w) (kd_nil0 w) (sy_nil0 w)
theorem wLoop_in (w : World) (l : List C) (a : Option Addr) (n c : Nat) (h : ClRow Tt w l (.slice a n c)) : TmIn Tt w (.mk 21 0 ⟨#[]⟩ l [] []) (.agg #[.int .i64 21, .int .i64 0, .string ⟨#[]⟩, .slice a n c, .slice none 0 0, .slice none 0 0]) :=
  .mk _ _ _ _ _ _ _ _ _ ⟨by decide, by decide⟩ ⟨by decide, by decide⟩ h (kd_nil0 w) (sy_nil0 w)
theorem wKids1 (w : World) (g : Nat) (h : w.heap[g]? = some (.cells #[.int .i64 3, .int .i64 0, .string ⟨#[]⟩, .slice none 0 0, .slice none 0 0, .slice none 0 0] 26 (0, 0))) : KdT Tt w (TmIn Tt w) [wU] (.slice (some ⟨g, 0, none⟩) 1 1) := by
  refine ⟨_, _, rfl, Nat.le_refl _, fun j x hx => ?_⟩
  have hj : j = 0 := by have := some_lt hx; simp at this; omega
  subst hj
  simp only [List.getElem?_cons_zero, Option.some.injEq] at hx
  subst hx
  refine ⟨g, 0, _, _, _, _, _, _, rfl, trivial, (Array.getElem?_eq_some_iff.1 h).1, wU_in w, ?_, ?_, ?_, ?_, ?_, ?_⟩ <;> (unfold World.cell?; simp [h])
theorem wKids2 (w : World) (g : Nat) (h : w.heap[g]? = some (.cells #[.int .i64 3, .int .i64 0, .string ⟨#[]⟩, .slice none 0 0, .slice none 0 0, .slice none 0 0, .int .i64 3, .int .i64 0, .string ⟨#[]⟩, .slice none 0 0, .slice none 0 0, .slice none 0 0] 26 (0, 0))) : KdT Tt w (TmIn Tt w) [wU, wU] (.slice (some ⟨g, 0, none⟩) 2 2) := by
  refine ⟨_, _, rfl, Nat.le_refl _, fun j x hx => ?_⟩
  have hj : j = 0 ∨ j = 1 := by have := some_lt hx; simp at this; omega
  rcases hj with rfl | rfl
  · simp only [List.getElem?_cons_zero, Option.some.injEq] at hx
    subst hx
    refine ⟨g, 0, _, _, _, _, _, _, rfl, trivial, (Array.getElem?_eq_some_iff.1 h).1, wU_in w, ?_, ?_, ?_, ?_, ?_, ?_⟩ <;> (unfold World.cell?; simp [h])
  · simp only [List.getElem?_cons_succ, List.getElem?_cons_zero, Option.some.injEq] at hx
    subst hx
    refine ⟨g, 0, _, _, _, _, _, _, rfl, trivial, (Array.getElem?_eq_some_iff.1 h).1, wU_in w, ?_, ?_, ?_, ?_, ?_, ?_⟩ <;> (unfold World.cell?; simp [h])
theorem wH_in (w : World) (g1 g2 g3 g4 : Nat) (h1 : w.heap[g1]? = some (.cells #[.int .i64 3, .int .i64 0, .string ⟨#[]⟩, .slice none 0 0, .slice none 0 0, .slice none 0 0, .int .i64 3, .int .i64 0, .string ⟨#[]⟩, .slice none 0 0, .slice none 0 0, .slice none 0 0] 26 (0, 0)))
    (h2 : w.heap[g2]? = some (.cells #[.int .u32 1, .int .u32 0] 43 (0, 0))) (h3 : w.heap[g3]? = some (.cells #[.int .i64 3, .int .i64 0, .string ⟨#[]⟩, .slice none 0 0, .slice none 0 0, .slice none 0 0] 26 (0, 0)))
    (h4 : w.heap[g4]? = some (.cells #[.slice (some ⟨g2, 0, none⟩) 1 1, .slice (some ⟨g3, 0, none⟩) 1 1] 46 (0, 0))) :
    TmIn Tt w wH (.agg #[.int .i64 15, .int .i64 0, .string ⟨#[]⟩, .slice none 0 0, .slice (some ⟨g1, 0, none⟩) 2 2, .slice (some ⟨g4, 0, none⟩) 1 1]) := by
  refine .mk _ _ _ _ _ _ _ _ _ ⟨by decide, by decide⟩ ⟨by decide, by decide⟩ (cl_nil0 w) (wKids2 w g1 h1) ⟨_, _, rfl, Nat.le_refl _, fun j x hx => ?_⟩
  have hj : j = 0 := by have := some_lt hx; simp at this; omega
  subst hj
  simp only [List.getElem?_cons_zero, Option.some.injEq] at hx
  subst hx
  refine ⟨g4, 0, _, _, rfl, trivial, (Array.getElem?_eq_some_iff.1 h4).1, wrow1_in w g2 1 h2, wKids1 w g3 h3, ?_, ?_⟩ <;> (unfold World.cell?; simp [h4])
theorem loop_any (a : Option Addr) (n c : Nat) (w : World) : Calls Tryz.prog 14 #[.slice a n c] w fun e w' => e = .returned (.agg #[.int .i64 21, .int .i64 0, .string ⟨#[]⟩, .slice a n c, .slice none 0 0, .slice none 0 0]) ∧ Below w.heap.size w w' := by
  obtain ⟨w1, hw1⟩ : ∃ W, W = w.alloc (.cells #[.int .i64 21, .int .i64 0, .string ⟨#[]⟩, .slice a n c, .slice none 0 0, .slice none 0 0] 26) := ⟨_, rfl⟩
  have b1 : Below w.heap.size w w1 := by rw [hw1]; exact belowA _ _
  have m1 : Six w1 w.heap.size (.int .i64 21) (.int .i64 0) (.string ⟨#[]⟩) (.slice a n c) (.slice none 0 0) (.slice none 0 0) := ⟨by rw [hw1]; exact heapNew _ _⟩
  obtain ⟨h0, h1, h2, h3, h4, h5, _⟩ := m1.cells
  have H1 : Hid (_ = _) := hw1
  clear hw1 m1
  go_enter Tryz.func14, Tryz.ntmps14
  go_wp2_with fail
  rw [← H1.out]
  exact bodyPost_ret (v := .agg #[.int .i64 21, .int .i64 0, .string ⟨#[]⟩, .slice a n c, .slice none 0 0, .slice none 0 0]) (by simp only [results, Tryz.results14]; simp [go_sem, h0, h1, h2, h3, h4, h5]) rfl ⟨rfl, b1⟩
set_option maxRecDepth 100000 in
set_option maxHeartbeats 8000000 in
theorem works13_any (w : World) : Calls Tryz.prog 4 #[] w fun e w' => e = .returned (.bool true) ∧ Below w.heap.size w w' := by
  -- Put
  obtain ⟨w1, hw1⟩ : ∃ W, W = w.alloc (.cells #[.int .u32 1, .int .u32 0] 43) := ⟨_, rfl⟩
  have b1 : Below w.heap.size w w1 := by rw [hw1]; exact belowA _ _
  have m1 : w1.heap[w.heap.size]? = some (.cells #[.int .u32 1, .int .u32 0] 43 (0, 0)) := by rw [hw1]; exact heapNew _ _
  have c1 := loop_any (some ⟨w.heap.size, 0, none⟩) 1 1 w1
  obtain ⟨X, hX⟩ : ∃ X, X = w.heap.size := ⟨_, rfl⟩
  rw [← hX] at c1 m1
  have H1 : Hid (_ = _) := hw1
  have HX : Hid (X = w.heap.size) := hX
  have B1 : Below X w w1 := by rw [hX]; exact b1
  rw [← hX]
  clear hw1 hX b1
  go_enter Tryz.func4, Tryz.ntmps4
  go_wp2_with fail
  simp only [← HX.out]
  rw [← H1.out]
  refine c1.mono ?_
  rintro e w2 ⟨rfl, b2⟩
  clear c1 H1
  obtain ⟨w3, hw3⟩ : ∃ W, W = w2.alloc (.cells #[.int .u32 2, .int .u32 0] 43) := ⟨_, rfl⟩
  have b3 : Below w2.heap.size w2 w3 := by rw [hw3]; exact belowA _ _
  have m3 : w3.heap[w2.heap.size]? = some (.cells #[.int .u32 2, .int .u32 0] 43 (0, 0)) := by rw [hw3]; exact heapNew _ _
  have b13 := bchain b2 b3
  have r1 := (wrow1_in w1 X 1 m1).blw b13
  have c3 := dput_any wA _ w3 (wLoop_in w3 [cP 1] _ _ _ r1) wk_b1 0 [cP 2] _ (wrow1_in w3 w2.heap.size 2 m3) (by simp)
  rw [wk_pE, wk_pT] at c3
  have B3 : Below X w w3 := B1.trans (b13.mono (by have := B1.size; have := HX.out; omega))
  have H3 : Hid (_ = _) := hw3
  clear hw3 r1 m1 m3
  go_wp2_with fail
  rw [← H3.out]
  refine c3.mono ?_
  rintro e w4 ⟨v4, rfl, hv4, b4⟩
  clear c3 H3
  obtain ⟨ra4, rc4, ka4, kc4, sa4, sc4, rfl, ht4⟩ := hv4.form
  obtain ⟨w5, hw5⟩ : ∃ W, W = w4.alloc (.cells #[.int .i64 21, .int .i64 0, .string ⟨#[]⟩, .slice ra4 1 rc4, .slice ka4 0 kc4, .slice sa4 0 sc4] 26) := ⟨_, rfl⟩
  obtain ⟨A, hA⟩ : ∃ A, A = w4.heap.size := ⟨_, rfl⟩
  have b5 : Below w4.heap.size w4 w5 := by rw [hw5]; exact belowA _ _
  have n5 : Six w5 A (.int .i64 21) (.int .i64 0) (.string ⟨#[]⟩) (.slice ra4 1 rc4) (.slice ka4 0 kc4) (.slice sa4 0 sc4) := ⟨by rw [hw5, hA]; exact heapNew _ _⟩
  have b35 := bchain b4 b5
  have B5 : Below X w w5 := B3.trans (b35.mono (by have := B3.size; have := HX.out; omega))
  have HRa : Hid (ClRow Tt w5 [cP 2] (.slice ra4 1 rc4)) := ((ht4.blw b5).row).keep (Nat.le_refl _) (fun _ _ => trivial) (fun _ _ _ => rfl)
  have H5 : Hid (_ = _) := hw5
  have HA : Hid (A = w4.heap.size) := hA
  clear hw5 hA hv4 ht4 b4 b5 b35
  simp only [wA2, List.length_cons, List.length_nil, Nat.zero_add]
  go_upto_region 2 with fail
  simp only [← HA.out]
  rw [← H5.out]
  clear H5
  -- Take
  obtain ⟨w6, hw6⟩ : ∃ W, W = w5.alloc (.cells #[.int .u32 1, .int .u32 0, .int .u32 2, .int .u32 0] 43) := ⟨_, rfl⟩
  obtain ⟨Y, hY⟩ : ∃ Y, Y = w5.heap.size := ⟨_, rfl⟩
  have b6 : Below w5.heap.size w5 w6 := by rw [hw6]; exact belowA _ _
  have m6 : w6.heap[Y]? = some (.cells #[.int .u32 1, .int .u32 0, .int .u32 2, .int .u32 0] 43 (0, 0)) := by rw [hw6, hY]; exact heapNew _ _
  have c6 := loop_any (some ⟨Y, 0, none⟩) 2 2 w6
  have H6 : Hid (_ = _) := hw6
  have HY : Hid (Y = w5.heap.size) := hY
  clear hw6 hY
  go_wp2_with fail
  simp only [← HY.out]
  rw [← H6.out]
  refine c6.mono ?_
  rintro e w7 ⟨rfl, b7⟩
  clear c6 H6
  have b57 := bchain b6 b7
  have c7 := dtake_any wB _ w7 (wLoop_in w7 [cP 1, cP 2] _ _ _ ((wrow2_in w6 Y m6).blw b7)) wk_b2 0 [] (.slice none 0 0) (cl_nil0 w7) (by simp) (Nat.le_trans (cap_ge _).1 (Nat.le_trans (cap_ans (putOp_len _ _) _) wk_b3.2.2))
  rw [wk_tE, wk_tT] at c7
  go_wp2_with fail
  refine c7.mono ?_
  rintro e w8 ⟨v8, rfl, hv8, b8⟩
  clear c7
  obtain ⟨ra8, rc8, ka8, kc8, sa8, sc8, rfl, ht8⟩ := hv8.form
  obtain ⟨w9, hw9⟩ : ∃ W, W = w8.alloc (.cells #[.int .i64 21, .int .i64 0, .string ⟨#[]⟩, .slice ra8 1 rc8, .slice ka8 0 kc8, .slice sa8 0 sc8] 26) := ⟨_, rfl⟩
  obtain ⟨D, hD⟩ : ∃ A, A = w8.heap.size := ⟨_, rfl⟩
  have b9 : Below w8.heap.size w8 w9 := by rw [hw9]; exact belowA _ _
  have n9 : Six w9 D (.int .i64 21) (.int .i64 0) (.string ⟨#[]⟩) (.slice ra8 1 rc8) (.slice ka8 0 kc8) (.slice sa8 0 sc8) := ⟨by rw [hw9, hD]; exact heapNew _ _⟩
  have b59 := bchain (bchain b57 b8) b9
  have HRb : Hid (ClRow Tt w9 [cP 1] (.slice ra8 1 rc8)) := ((ht8.blw b9).row).keep (Nat.le_refl _) (fun _ _ => trivial) (fun _ _ _ => rfl)
  have H9 : Hid (_ = _) := hw9
  have HD : Hid (D = w8.heap.size) := hD
  clear hw9 hD hv8 ht8 b8 b9 b57 b6 b7 m6
  simp only [wA, List.length_cons, List.length_nil, Nat.zero_add]
  go_upto_region 3 with fail
  simp only [← HD.out]
  rw [← H9.out]
  clear H9
  -- Under
  obtain ⟨U, hU⟩ : ∃ U, U = w9.heap.size := ⟨_, rfl⟩
  obtain ⟨wu, hwu⟩ : ∃ W, W = w9.alloc (.cells #[.int .i64 3, .int .i64 0, .string ⟨#[]⟩, .slice none 0 0, .slice none 0 0, .slice none 0 0] 26) := ⟨_, rfl⟩
  have bu : Below w9.heap.size w9 wu := by rw [hwu]; exact belowA _ _
  have nu : Six wu U (.int .i64 3) (.int .i64 0) (.string ⟨#[]⟩) (.slice none 0 0) (.slice none 0 0) (.slice none 0 0) := ⟨by rw [hwu, hU]; exact heapNew _ _⟩
  have Hu : Hid (_ = _) := hwu
  have HU : Hid (U = w9.heap.size) := hU
  have su : wu.heap.size = U + 1 := by rw [hwu, hU]; simp
  clear hwu hU
  go_upto_region 4 with fail
  simp only [← HU.out]
  rw [← Hu.out]
  clear Hu
  obtain ⟨wv, hwv⟩ : ∃ W, W = (((wu.alloc (.cells #[.int .i64 3, .int .i64 0, .string ⟨#[]⟩, .slice none 0 0, .slice none 0 0, .slice none 0 0, .int .i64 3, .int .i64 0, .string ⟨#[]⟩, .slice none 0 0, .slice none 0 0, .slice none 0 0] 26)).alloc (.cells #[.int .u32 1, .int .u32 0] 43)).alloc (.cells #[.int .i64 3, .int .i64 0, .string ⟨#[]⟩, .slice none 0 0, .slice none 0 0, .slice none 0 0] 26)).alloc (.cells #[.slice (some ⟨U + 2, 0, none⟩) 1 1, .slice (some ⟨U + 3, 0, none⟩) 1 1] 46) := ⟨_, rfl⟩
  have bv : Below wu.heap.size wu wv := by rw [hwv]; exact bchain (bchain (bchain (belowA _ _) (belowA _ _)) (belowA _ _)) (belowA _ _)
  have k1 : wv.heap[U + 1]? = some (.cells #[.int .i64 3, .int .i64 0, .string ⟨#[]⟩, .slice none 0 0, .slice none 0 0, .slice none 0 0, .int .i64 3, .int .i64 0, .string ⟨#[]⟩, .slice none 0 0, .slice none 0 0, .slice none 0 0] 26 (0, 0)) := by
    rw [hwv, ← su]; exact (Below.heap_alloc _ _ _ (by simp; omega)).trans ((Below.heap_alloc _ _ _ (by simp; omega)).trans ((Below.heap_alloc _ _ _ (by simp)).trans (heapNew wu _)))
  have k2 : wv.heap[U + 2]? = some (.cells #[.int .u32 1, .int .u32 0] 43 (0, 0)) := by
    rw [hwv]; refine (Below.heap_alloc _ _ _ (by simp; omega)).trans ((Below.heap_alloc _ _ _ (by simp; omega)).trans ?_)
    have := heapNew (wu.alloc (.cells #[.int .i64 3, .int .i64 0, .string ⟨#[]⟩, .slice none 0 0, .slice none 0 0, .slice none 0 0, .int .i64 3, .int .i64 0, .string ⟨#[]⟩, .slice none 0 0, .slice none 0 0, .slice none 0 0] 26)) (.cells #[.int .u32 1, .int .u32 0] 43); rwa [World.size_alloc, su] at this
  have k3 : wv.heap[U + 3]? = some (.cells #[.int .i64 3, .int .i64 0, .string ⟨#[]⟩, .slice none 0 0, .slice none 0 0, .slice none 0 0] 26 (0, 0)) := by
    rw [hwv]; refine (Below.heap_alloc _ _ _ (by simp; omega)).trans ?_
    have := heapNew ((wu.alloc (.cells #[.int .i64 3, .int .i64 0, .string ⟨#[]⟩, .slice none 0 0, .slice none 0 0, .slice none 0 0, .int .i64 3, .int .i64 0, .string ⟨#[]⟩, .slice none 0 0, .slice none 0 0, .slice none 0 0] 26)).alloc (.cells #[.int .u32 1, .int .u32 0] 43)) (.cells #[.int .i64 3, .int .i64 0, .string ⟨#[]⟩, .slice none 0 0, .slice none 0 0, .slice none 0 0] 26); rwa [World.size_alloc, World.size_alloc, su] at this
  have k4 : wv.heap[U + 4]? = some (.cells #[.slice (some ⟨U + 2, 0, none⟩) 1 1, .slice (some ⟨U + 3, 0, none⟩) 1 1] 46 (0, 0)) := by
    rw [hwv]
    have := heapNew (((wu.alloc (.cells #[.int .i64 3, .int .i64 0, .string ⟨#[]⟩, .slice none 0 0, .slice none 0 0, .slice none 0 0, .int .i64 3, .int .i64 0, .string ⟨#[]⟩, .slice none 0 0, .slice none 0 0, .slice none 0 0] 26)).alloc (.cells #[.int .u32 1, .int .u32 0] 43)).alloc (.cells #[.int .i64 3, .int .i64 0, .string ⟨#[]⟩, .slice none 0 0, .slice none 0 0, .slice none 0 0] 26)) (.cells #[.slice (some ⟨U + 2, 0, none⟩) 1 1, .slice (some ⟨U + 3, 0, none⟩) 1 1] 46); rwa [World.size_alloc, World.size_alloc, World.size_alloc, su] at this
  have cu := under_any wH _ wv (wH_in wv (U + 1) (U + 2) (U + 3) (U + 4) k1 k2 k3 k4) wk_b3.1 wk_b3.2.1 ((0, 1) : C)
  rw [wk_u] at cu
  dsimp only at cu
  obtain ⟨y0, y1, y2, y3, y4, y5, _⟩ := nu.cells
  have nu2 : Six ((wu.alloc (.cells #[.int .i64 3, .int .i64 0, .string ⟨#[]⟩, .slice none 0 0, .slice none 0 0, .slice none 0 0, .int .i64 3, .int .i64 0, .string ⟨#[]⟩, .slice none 0 0, .slice none 0 0, .slice none 0 0] 26)).alloc (.cells #[.int .u32 1, .int .u32 0] 43)) U (.int .i64 3) (.int .i64 0) (.string ⟨#[]⟩) (.slice none 0 0) (.slice none 0 0) (.slice none 0 0) := nu.blw (bchain (belowA _ _) (belowA _ _))
  obtain ⟨z0, z1, z2, z3, z4, z5, _⟩ := nu2.cells
  have Hv : Hid (_ = _) := hwv
  have Hsu : Hid (wu.heap.size = U + 1) := su
  clear hwv k1 k2 k3 k4 su
  go_wp2_with fail
  simp only [Hsu.out, Nat.add_assoc, Nat.reduceAdd]
  rw [← Hv.out]
  refine cu.mono ?_
  rintro e wx ⟨vx, rfl, hvx, bx⟩
  clear cu y0 y1 y2 y3 y4 y5 z0 z1 z2 z3 z4 z5 nu2 Hv
  obtain ⟨rax, rcx, kax, kcx, sax, scx, rfl, htx⟩ := hvx.form
  obtain ⟨wy, hwy⟩ : ∃ W, W = wx.alloc (.cells #[.int .i64 15, .int .i64 0, .string ⟨#[]⟩, .slice rax 0 rcx, .slice kax 2 kcx, .slice sax 0 scx] 26) := ⟨_, rfl⟩
  obtain ⟨E, hE⟩ : ∃ A, A = wx.heap.size := ⟨_, rfl⟩
  have by_ : Below wx.heap.size wx wy := by rw [hwy]; exact belowA _ _
  have ny : Six wy E (.int .i64 15) (.int .i64 0) (.string ⟨#[]⟩) (.slice rax 0 rcx) (.slice kax 2 kcx) (.slice sax 0 scx) := ⟨by rw [hwy, hE]; exact heapNew _ _⟩
  have b9y := bchain (bchain (bchain bu bv) bx) by_
  have b5y := bchain b59 b9y
  have By : Below X w wy := B5.trans (b5y.mono (by have := B5.size; have := HX.out; omega))
  have na := n5.blw b5y
  have nb := n9.blw b9y
  have ra := (HRa.out.blw b5y).row
  have rb := (HRb.out.blw b9y).row
  have Hy : Hid (_ = _) := hwy
  have HEe : Hid (E = wx.heap.size) := hE
  clear hwy hE hvx htx bx by_ b9y b5y bu bv b59 n5 n9 B1 B3 B5 nu
  simp only [wH2, List.length_cons, List.length_nil, Nat.zero_add, Nat.reduceAdd]
  go_upto_region 5 with fail
  simp only [← HEe.out]
  rw [← Hy.out]
  clear Hy
  -- the comparison
  obtain ⟨w10, hw10⟩ : ∃ W, W = wy.alloc (.cells #[.int .u32 2, .int .u32 0] 43) := ⟨_, rfl⟩
  have b10 : Below wy.heap.size wy w10 := by rw [hw10]; exact belowA _ _
  have m10 : w10.heap[wy.heap.size]? = some (.cells #[.int .u32 2, .int .u32 0] 43 (0, 0)) := by rw [hw10]; exact heapNew _ _
  have c10 := same_any [cP 2] [cP 2] _ _ w10 (ra.below b10) (wrow1_in w10 wy.heap.size 2 m10).row (by simp)
  rw [decide_eq_true rfl] at c10
  obtain ⟨a0, a1, a2, a3, a4, a5, _⟩ := na.cells
  have H10 : Hid (_ = _) := hw10
  clear hw10 m10
  go_wp2_with fail
  rw [← H10.out]
  refine c10.mono ?_
  rintro e w11 ⟨rfl, b11⟩
  clear c10 a0 a1 a2 a3 a4 a5 H10
  have by11 := bchain b10 b11
  obtain ⟨w12, hw12⟩ : ∃ W, W = w11.alloc (.cells #[.int .u32 1, .int .u32 0] 43) := ⟨_, rfl⟩
  have b12 : Below w11.heap.size w11 w12 := by rw [hw12]; exact belowA _ _
  have m12 : w12.heap[w11.heap.size]? = some (.cells #[.int .u32 1, .int .u32 0] 43 (0, 0)) := by rw [hw12]; exact heapNew _ _
  have c12 := same_any [cP 1] [cP 1] _ _ w12 ((rb.below by11).below b12) (wrow1_in w12 w11.heap.size 1 m12).row (by simp)
  rw [decide_eq_true rfl] at c12
  obtain ⟨a0, a1, a2, a3, a4, a5, _⟩ := (nb.blw by11).cells
  have H12 : Hid (_ = _) := hw12
  clear hw12 m12
  go_wp2_with fail
  rw [← H12.out]
  refine c12.mono ?_
  rintro e w13 ⟨rfl, b13'⟩
  clear c12 a0 a1 a2 a3 a4 a5 H12
  have by13 := bchain by11 (bchain b12 b13')
  obtain ⟨a0, a1, a2, a3, a4, a5, _⟩ := (ny.blw by13).cells
  have Bf : Below X w w13 := By.trans (by13.mono (by have := By.size; have := HX.out; omega))
  go_wp2_with fail
  go_ret
  exact ⟨rfl, Bf⟩
set_option maxRecDepth 100000 in
set_option maxHeartbeats 4000000 in
theorem great13_any (t : Tm) (v : Value) (w : World) (hv : TmIn Tt w t v) : Calls Tryz.prog 5 #[v, .slice none 0 0] w fun e w' => e = .returned (.bool (decide (200 < blk t))) ∧ Below w.heap.size w w' := by
  obtain ⟨ra, rc, ka, kc, sa, sc, rfl, ht⟩ := hv.form
  obtain ⟨w1, hw1⟩ : ∃ w1, w1 = w.alloc (.cells #[.int .i64 t.kind, .int .i64 t.n, .string t.name, .slice ra t.r.length rc, .slice ka t.kids.length kc, .slice sa t.sys.length sc] 26) := ⟨_, rfl⟩
  have b1 : Below w.heap.size w w1 := by rw [hw1]; exact belowA _ _
  have c6 : Cs6 w1 w.heap.size 0 t ra rc ka kc sa sc := by rw [hw1]; exact cs6_new w t ra rc ka kc sa sc
  have cc := bulk_any (blk t) 200 200 t _ w1 rfl (by omega) (Nat.le_refl _) (ht.blw b1).value
  obtain ⟨_, y0, y1, y2, y3, y4, y5⟩ := c6
  simp only [Nat.zero_add] at y1 y2 y3 y4 y5
  have H1 : Hid (_ = _) := hw1
  clear hw1 hv ht
  go_enter Tryz.func5, Tryz.ntmps5
  go_upto_region 1 with fail
  rw [← H1.out]
  go_wp2_with fail
  refine cc.mono ?_
  rintro e w3 ⟨⟨r, rfl, r1, r2, r3, r4⟩, hb3⟩
  clear cc y0 y1 y2 y3 y4 y5
  by_cases h : 200 < blk t
  · have hq : (200 : Int) < (r : Int) := by have := r2 h; omega
    have HE : Hid (decide (200 < blk t) = true) := (decide_eq_true h : _ = _)
    have hqb : decide ((200 : Int) < (r : Int)) = true := decide_eq_true hq
    clear r1 r2 h
    go_wp2_with fail
    go_ret
    exact ⟨by rw [HE.out]; rfl, bchain b1 hb3⟩
  · have hq : ¬ (200 : Int) < (r : Int) := by have := r1 (by omega); omega
    have HE : Hid (decide (200 < blk t) = false) := (decide_eq_false h : _ = _)
    have hqb : decide ((200 : Int) < (r : Int)) = false := decide_eq_false hq
    clear r1 r2 h
    go_wp2_with fail
    go_ret
    exact ⟨by rw [HE.out]; rfl, bchain b1 hb3⟩
end Go.Proofs.YtjimednocmdpnaaGreat

namespace Go.Proofs.YtjimednocmdpnaaGreat
open Go.RowKit
set_option linter.unusedVariables false
set_option linter.unusedSimpArgs false

set_option maxRecDepth 100000 in
set_option maxHeartbeats 4000000 in
theorem great13r_any (t : Tm) (v : Value) (w : World) (hv : TmIn Tt w t v) (a : Option Addr) (n c : Nat) : Calls Tryz.prog 5 #[v, .slice a n c] w fun e w' => ∃ b, e = .returned (.bool b) ∧ (b = false → blk t ≤ 200 ∧ n ≤ 12) ∧ Below w.heap.size w w' := by
  obtain ⟨ra, rc, ka, kc, sa, sc, rfl, ht⟩ := hv.form
  obtain ⟨w1, hw1⟩ : ∃ w1, w1 = w.alloc (.cells #[.int .i64 t.kind, .int .i64 t.n, .string t.name, .slice ra t.r.length rc, .slice ka t.kids.length kc, .slice sa t.sys.length sc] 26) := ⟨_, rfl⟩
  have b1 : Below w.heap.size w w1 := by rw [hw1]; exact belowA _ _
  have c6 : Cs6 w1 w.heap.size 0 t ra rc ka kc sa sc := by rw [hw1]; exact cs6_new w t ra rc ka kc sa sc
  have cc := bulk_any (blk t) 200 200 t _ w1 rfl (by omega) (Nat.le_refl _) (ht.blw b1).value
  obtain ⟨_, y0, y1, y2, y3, y4, y5⟩ := c6
  simp only [Nat.zero_add] at y1 y2 y3 y4 y5
  have H1 : Hid (_ = _) := hw1
  clear hw1 hv ht
  go_enter Tryz.func5, Tryz.ntmps5
  go_upto_region 1 with fail
  rw [← H1.out]
  go_wp2_with fail
  refine cc.mono ?_
  rintro e w3 ⟨⟨r, rfl, r1, r2, r3, r4⟩, hb3⟩
  clear cc y0 y1 y2 y3 y4 y5
  have bF := bchain b1 hb3
  by_cases h : 200 < blk t
  · have hq : (200 : Int) < (r : Int) := by have := r2 h; omega
    have hqb : decide ((200 : Int) < (r : Int)) = true := decide_eq_true hq
    clear r1 r2 h
    go_wp2_with fail
    go_ret
    exact ⟨true, rfl, (fun h => by cases h), bF⟩
  · have hq : ¬ (200 : Int) < (r : Int) := by have := r1 (by omega); omega
    have hqb : decide ((200 : Int) < (r : Int)) = false := decide_eq_false hq
    have HB : Hid (blk t ≤ 200) := (by omega : blk t ≤ 200)
    clear r1 r2 h
    go_wp2_with fail
    go_ret
    exact ⟨decide ((12 : Int) < (n : Int)), rfl, (fun h => ⟨HB.out, by have := of_decide_eq_false h; omega⟩), bF⟩
/-! ### never -/
def NvC (N : Nat) : Prop := ∀ (t : Tm) (v : Value) (w : World), TmIn Tt w t v → blk t ≤ N → blk t ≤ 100000 → Calls Tryz.prog 7 #[v] w fun e w' => ∃ b, e = .returned (.bool b) ∧ (b = false → neT t) ∧ Below w.heap.size w w'
set_option maxRecDepth 100000 in
set_option maxHeartbeats 8000000 in
theorem nv_step (N : Nat) (IH : NvC N) : NvC (N + 1) := by
  intro t v w hv hN hb
  obtain ⟨hl1, hl2, hl3, hl4⟩ := blk_lens t
  obtain ⟨ra, rc, ka, kc, sa, sc, rfl, ht⟩ := hv.form
  obtain ⟨w1, hw1⟩ : ∃ W, W = w.alloc (.cells #[.int .i64 t.kind, .int .i64 t.n, .string t.name, .slice ra t.r.length rc, .slice ka t.kids.length kc, .slice sa t.sys.length sc] 26) := ⟨_, rfl⟩
  have b1 : Below w.heap.size w w1 := by rw [hw1]; exact belowA _ _
  obtain ⟨X, hX⟩ : ∃ X, X = w.heap.size := ⟨_, rfl⟩
  have x1 : Six w1 X (.int .i64 t.kind) (.int .i64 t.n) (.string t.name) (.slice ra t.r.length rc) (.slice ka t.kids.length kc) (.slice sa t.sys.length sc) := ⟨by rw [hw1, hX]; exact heapNew _ _⟩
  obtain ⟨L, hL⟩ : ∃ L, L = t.kids.length := ⟨_, rfl⟩
  obtain ⟨M, hM⟩ : ∃ L, L = t.sys.length := ⟨_, rfl⟩
  have HC : Hid (∀ W, Below w1.heap.size w1 W → W.cell? ⟨X, 4, none⟩ = some (.slice ka L kc) ∧ W.cell? ⟨X, 5, none⟩ = some (.slice sa M sc)) := fun W q => by
    rw [hL, hM]; exact ⟨(x1.blw q).cells.2.2.2.2.1, (x1.blw q).cells.2.2.2.2.2.1⟩
  have HT : Hid (∀ W, Below w1.heap.size w1 W → TmTop Tt W t ra rc ka kc sa sc) := fun W q => (ht.blw b1).blw q
  have HB : Hid (∀ W, Below w1.heap.size w1 W → Below X w W) := fun W q => by rw [hX]; exact bchain b1 q
  have HI : Hid (NvC N) := IH
  have HN : Hid (blk t ≤ N + 1 ∧ blk t ≤ 100000) := ⟨hN, hb⟩
  have HL : Hid (L = t.kids.length ∧ M = t.sys.length) := ⟨hL, hM⟩
  have HX : Hid (X = w.heap.size) := hX
  have hLb : L ≤ 100000 := by omega
  have hMb : M ≤ 100000 := by omega
  have HW : Hid (_ = _) := hw1
  rw [← hX, ← hL, ← hM]
  have HW2 : Hid (w1 = w.alloc (.cells #[.int .i64 t.kind, .int .i64 t.n, .string t.name, .slice ra t.r.length rc, .slice ka L kc, .slice sa M sc] 26)) := (by rw [hw1, hL, hM] : _ = _)
  obtain ⟨y0, y1⟩ := HC.out w1 (Below.refl _ _)
  clear hw1 hX hL hM x1 hv ht b1 IH hN hb hl1 hl2 hl3 hl4 HW
  go_enter Tryz.func7, Tryz.ntmps7
  go_upto_region 1 with fail
  rw [← HW2.out]
  simp only [← HX.out]
  clear HW2
  go_wp2_with fail
  clear y0 y1
  go_loopw [12] (fun u wr => ∃ k : Nat, k ≤ L ∧ u = .int .i64 k ∧ Below w1.heap.size w1 wr ∧ Hid (∀ (j : Nat) (x : Tm), j < k → t.kids[j]? = some x → neT x)) (fun u _ => L - (intOf u).toNat)
  case atStart => exact ⟨0, Nat.zero_le _, rfl, Below.refl _ _, fun j x hj => absurd hj (Nat.not_lt_zero _)⟩
  case round =>
    obtain ⟨wo, hwo⟩ : ∃ wo, wo = wr := ⟨_, rfl⟩
    subst hwo
    obtain ⟨k, hk, rfl, hSo, HA⟩ := hrel
    by_cases hlt : k < L
    · have hkI : (k : Int) < (L : Int) := by omega
      obtain ⟨x, hx⟩ := someL (l := t.kids) (k := k) (by rw [← HL.out.1]; exact hlt)
      have hbk := blk_kid (List.mem_of_getElem? hx)
      obtain ⟨g1, off1, ra1, rc1, ka1, kc1, sa1, sc1, hka, _, h61, hty⟩ := (HT.out wo hSo).kids.at hx
      subst hka
      obtain ⟨wb, hwb⟩ : ∃ W, W = wo.alloc (.cells #[.int .i64 x.kind, .int .i64 x.n, .string x.name, .slice ra1 x.r.length rc1, .slice ka1 x.kids.length kc1, .slice sa1 x.sys.length sc1] 26) := ⟨_, rfl⟩
      have bb : Below wo.heap.size wo wb := by rw [hwb]; exact belowA _ _
      have nb : Six wb wo.heap.size (.int .i64 x.kind) (.int .i64 x.n) (.string x.name) (.slice ra1 x.r.length rc1) (.slice ka1 x.kids.length kc1) (.slice sa1 x.sys.length sc1) := ⟨by rw [hwb]; exact heapNew _ _⟩
      have hSb : Below w1.heap.size w1 wb := hSo.trans (bb.mono hSo.size)
      have cc := HI.out x _ wb (hty.blw bb).value (by have := HN.out.1; omega) (by have := HN.out.2; omega)
      obtain ⟨_, c0, c1, c2, c3, c4, c5⟩ := h61
      obtain ⟨z0, z1, z2, z3, z4, z5, _⟩ := nb.cells
      have Hwb : Hid (_ = _) := hwb
      have Hx : Hid (t.kids[k]? = some x) := hx
      clear hwb hty hbk nb hx
      go_upto_region 4 with fail
      rw [← Hwb.out]
      clear c0 c1 c2 c3 c4 c5
      go_wp2_with fail
      refine cc.mono ?_
      rintro e w2 ⟨b, rfl, hb, b2⟩
      clear cc z0 z1 z2 z3 z4 z5
      have hS2 : Below w1.heap.size w1 w2 := hSb.trans (b2.mono hSb.size)
      cases b
      · have Hb : Hid (neT x) := hb rfl
        go_wp2_with fail
        go_roundw
        case rel =>
          refine ⟨k + 1, by omega, by go_num, hS2, fun j y hj hy => ?_⟩
          rcases Nat.lt_or_ge j k with h | h
          · exact HA.out j y h hy
          · obtain rfl : j = k := by omega
            rw [Hx.out] at hy
            cases hy
            exact Hb.out
        case measure => simp [intOf]; omega
      · have hF := HB.out w2 hS2
        go_wp2_with fail
        go_ret
        exact ⟨true, rfl, (fun h => by cases h), hF⟩
    · have hkI : ¬ (k : Int) < (L : Int) := by omega
      have HK : Hid (∀ x ∈ t.kids, neT x) := fun x hx => by
        obtain ⟨j, hj⟩ := List.mem_iff_getElem?.1 hx
        exact HA.out j x (by have := some_lt hj; have := HL.out.1; omega) hj
      obtain ⟨y0, y1⟩ := HC.out wo hSo
      clear HA
      go_wp2_with fail
      clear y0 y1
      go_loopw [22] (fun u wr => ∃ k : Nat, k ≤ M ∧ u = .int .i64 k ∧ Below w1.heap.size w1 wr ∧ Hid (∀ (j : Nat) (b : List C × List Tm), j < k → t.sys[j]? = some b → b.1 ≠ [] ∧ ∀ x ∈ b.2, neT x)) (fun u _ => M - (intOf u).toNat)
      case atStart => exact ⟨0, Nat.zero_le _, rfl, hSo, fun j x hj => absurd hj (Nat.not_lt_zero _)⟩
      case round =>
        obtain ⟨wq, hwq⟩ : ∃ wq, wq = wr := ⟨_, rfl⟩
        subst hwq
        clear hkI hSo hlt hk
        obtain ⟨m, hm, rfl, hSq, HA⟩ := hrel
        by_cases hlt : m < M
        · have hkI : (m : Int) < (M : Int) := by omega
          obtain ⟨b, hb⟩ := someL (l := t.sys) (k := m) (by rw [← HL.out.2]; exact hlt)
          have hbr := blk_br (List.mem_of_getElem? hb)
          have hbl := blkL_len b.2
          obtain ⟨gs, offs, fa1, fc1, kb1, kbc1, hsa, _, h21, hF1, hK1⟩ := (HT.out wq hSq).sys.at hb
          subst hsa
          obtain ⟨F, hF⟩ : ∃ F, F = b.1.length := ⟨_, rfl⟩
          obtain ⟨K, hK⟩ : ∃ F, F = b.2.length := ⟨_, rfl⟩
          have HFK : Hid (F = b.1.length ∧ K = b.2.length) := ⟨hF, hK⟩
          have hKb : K ≤ 100000 := by have := HN.out.2; omega
          obtain ⟨wb, hwb⟩ : ∃ W, W = wq.alloc (.cells #[.slice fa1 F fc1, .slice kb1 K kbc1] 46) := ⟨_, rfl⟩
          obtain ⟨Y, hY⟩ : ∃ Y, Y = wq.heap.size := ⟨_, rfl⟩
          have bb : Below wq.heap.size wq wb := by rw [hwb]; exact belowA _ _
          have tb : Two wb Y (.slice fa1 F fc1) (.slice kb1 K kbc1) := ⟨by rw [hwb, hY]; exact heapNew _ _⟩
          have hSb : Below w1.heap.size w1 wb := hSq.trans (bb.mono hSq.size)
          have HTb : Hid (∀ W, Below wb.heap.size wb W → Two W Y (.slice fa1 F fc1) (.slice kb1 K kbc1)) := fun W q => tb.blw q
          have HKd : Hid (∀ W, Below wb.heap.size wb W → KdT Tt W (TmIn Tt W) b.2 (.slice kb1 K kbc1)) := fun W q => by rw [hK]; exact (hK1.blw bb).blw q
          have Hbs : Hid (t.sys[m]? = some b) := hb
          have c0 := h21.c0
          have c1 := h21.c1
          rw [← hF] at c0
          rw [← hK] at c1
          obtain ⟨t0, t1, _⟩ := tb.cells
          have Hwb : Hid (_ = _) := hwb
          have HY : Hid (Y = wq.heap.size) := hY
          clear hwb hY h21 hF1 hK1 hb hF hK tb hbl
          go_upto_region 10 with fail
          rw [← Hwb.out]
          simp only [← HY.out]
          clear c0 c1
          by_cases hz : F = 0
          · subst hz
            have hFin := HB.out wb hSb
            go_wp2_with fail
            go_ret
            exact ⟨true, rfl, (fun h => by cases h), hFin⟩
          · have hz1 : ((F : Int) == 0) = false := by simp; omega
            go_wp2_with fail
            clear t0 t1
            go_loopw [33] (fun u wr => ∃ k : Nat, k ≤ K ∧ u = .int .i64 k ∧ Below wb.heap.size wb wr ∧ Hid (∀ (j : Nat) (x : Tm), j < k → b.2[j]? = some x → neT x)) (fun u _ => K - (intOf u).toNat)
            case atStart => exact ⟨0, Nat.zero_le _, rfl, Below.refl _ _, fun j x hj => absurd hj (Nat.not_lt_zero _)⟩
            case round =>
              obtain ⟨wo, hwo⟩ : ∃ wo, wo = wr := ⟨_, rfl⟩
              subst hwo
              obtain ⟨k, hk, rfl, hSo, HA2⟩ := hrel
              by_cases hlk : k < K
              · have hkI2 : (k : Int) < (K : Int) := by omega
                obtain ⟨x, hx⟩ := someL (l := b.2) (k := k) (by rw [← HFK.out.2]; exact hlk)
                have hbk := blk_sub (List.mem_of_getElem? Hbs.out) (List.mem_of_getElem? hx)
                obtain ⟨g1, off1, ra1, rc1, ka1, kc1, sa1, sc1, hka, _, h61, hty⟩ := (HKd.out wo hSo).at hx
                subst hka
                obtain ⟨wc, hwc⟩ : ∃ W, W = wo.alloc (.cells #[.int .i64 x.kind, .int .i64 x.n, .string x.name, .slice ra1 x.r.length rc1, .slice ka1 x.kids.length kc1, .slice sa1 x.sys.length sc1] 26) := ⟨_, rfl⟩
                have bc : Below wo.heap.size wo wc := by rw [hwc]; exact belowA _ _
                have nc : Six wc wo.heap.size (.int .i64 x.kind) (.int .i64 x.n) (.string x.name) (.slice ra1 x.r.length rc1) (.slice ka1 x.kids.length kc1) (.slice sa1 x.sys.length sc1) := ⟨by rw [hwc]; exact heapNew _ _⟩
                have hSc : Below wb.heap.size wb wc := hSo.trans (bc.mono hSo.size)
                have cc := HI.out x _ wc (hty.blw bc).value (by have := HN.out.1; omega) (by have := HN.out.2; omega)
                obtain ⟨_, c0, c1, c2, c3, c4, c5⟩ := h61
                obtain ⟨z0, z1, z2, z3, z4, z5, _⟩ := nc.cells
                have Hwc : Hid (_ = _) := hwc
                have Hx : Hid (b.2[k]? = some x) := hx
                clear hwc hty hbk nc hx
                go_upto_region 15 with fail
                rw [← Hwc.out]
                clear c0 c1 c2 c3 c4 c5
                go_wp2_with fail
                refine cc.mono ?_
                rintro e w2 ⟨bo, rfl, hbo, b2⟩
                clear cc z0 z1 z2 z3 z4 z5
                have hS2 : Below wb.heap.size wb w2 := hSc.trans (b2.mono hSc.size)
                cases bo
                · have Hb : Hid (neT x) := hbo rfl
                  go_wp2_with fail
                  go_roundw
                  case rel =>
                    refine ⟨k + 1, by omega, by go_num, hS2, fun j y hj hy => ?_⟩
                    rcases Nat.lt_or_ge j k with h | h
                    · exact HA2.out j y h hy
                    · obtain rfl : j = k := by omega
                      rw [Hx.out] at hy
                      cases hy
                      exact Hb.out
                  case measure => simp [intOf]; omega
                · have hFin := HB.out w2 (hSb.trans (hS2.mono hSb.size))
                  go_wp2_with fail
                  go_ret
                  exact ⟨true, rfl, (fun h => by cases h), hFin⟩
              · have hkI2 : ¬ (k : Int) < (K : Int) := by omega
                have hS2 : Below w1.heap.size w1 wo := hSb.trans (hSo.mono hSb.size)
                have HK2 : Hid (b.1 ≠ [] ∧ ∀ x ∈ b.2, neT x) := ⟨fun e => hz (by rw [HFK.out.1, e]; rfl), fun x hx => by
                  obtain ⟨j, hj⟩ := List.mem_iff_getElem?.1 hx
                  exact HA2.out j x (by have := some_lt hj; have := HFK.out.2; omega) hj⟩
                go_wp2_with fail
                go_roundw
                case rel =>
                  refine ⟨m + 1, by omega, by go_num, hS2, fun j y hj hy => ?_⟩
                  rcases Nat.lt_or_ge j m with h | h
                  · exact HA.out j y h hy
                  · obtain rfl : j = m := by omega
                    rw [Hbs.out] at hy
                    cases hy
                    exact HK2.out
                case measure => simp [intOf]; omega
        · have hkI : ¬ (m : Int) < (M : Int) := by omega
          have HE : Hid (neT t) := (ne_eq t).2 ⟨HK.out, fun b hb => by
            obtain ⟨j, hj⟩ := List.mem_iff_getElem?.1 hb
            exact HA.out j b (by have := some_lt hj; have := HL.out.2; omega) hj⟩
          have hFin := HB.out wq hSq
          go_wp2_with fail
          go_ret
          first | exact ⟨false, rfl, (fun _ => HE.out), hFin⟩ | exact .inl ⟨rfl, HE.out, hFin⟩
theorem never_any : ∀ N : Nat, NvC N
  | 0 => fun t v w _ hN => by have := blk_pos t; omega
  | N + 1 => nv_step N (never_any N)
end Go.Proofs.YtjimednocmdpnaaGreat

namespace Go.Proofs.YtjimednocmdpnaaGreat
open Go.RowKit
set_option linter.unusedVariables false
set_option linter.unusedSimpArgs false

def RSmC (N : Nat) : Prop := ∀ (t u : Tm) (b : Bool) (v v' : Value) (w : World), TmIn Tt w t v → TmIn Tt w u v' → blk t ≤ N → blk t ≤ 40000 → (b = true ↔ t = u) →
  Calls Tryz.prog 10 #[v, v'] w fun e w' => e = .returned (.bool b) ∧ Below w.heap.size w w'
def RLsC (N : Nat) : Prop := ∀ (l m : List Tm) (b : Bool) (v v' : Value) (w : World), KdT Tt w (TmIn Tt w) l v → KdT Tt w (TmIn Tt w) m v' → blkL l ≤ N → blkL l ≤ 40000 → (b = true ↔ l = m) →
  Calls Tryz.prog 24 #[v, v'] w fun e w' => e = .returned (.bool b) ∧ Below w.heap.size w w'
set_option maxRecDepth 100000 in
set_option maxHeartbeats 4000000 in
theorem rlists_of (N : Nat) (IH : RSmC N) : RLsC N := by
  intro l m b v v' w h1 h2 hN hbb hb
  obtain ⟨la, lc, rfl, _⟩ := id h1
  obtain ⟨ma, mc, rfl, _⟩ := id h2
  have HF : Hid (¬ l = m → b = false) := fun h => Bool.eq_false_iff.2 fun h2 => h (hb.1 h2)
  have HTr : Hid (l = m → b = true) := fun h => hb.2 h
  have H1 : Hid (KdT Tt w (TmIn Tt w) l (.slice la l.length lc)) := h1
  have H2 : Hid (KdT Tt w (TmIn Tt w) m (.slice ma m.length mc)) := h2
  have hll := blkL_len l
  obtain ⟨L, hL⟩ : ∃ L, L = l.length := ⟨_, rfl⟩
  have HL : Hid (L = l.length) := hL
  obtain ⟨M, hM⟩ : ∃ L, L = m.length := ⟨_, rfl⟩
  have HM : Hid (M = m.length) := hM
  rw [← hL, ← hM]
  rw [← hL] at hll
  clear hb h1 h2 hL hM
  by_cases hLM : L = M
  · subst hLM
    go_enter Tryz.func24, Tryz.ntmps24
    go_wp2_with fail
    go_loopw [5] (fun i wr => ∃ k : Nat, k ≤ L ∧ i = .int .i64 k ∧ Hid (∀ j, j < k → l[j]? = m[j]?) ∧ Below w.heap.size w wr) (fun i _ => L - (intOf i).toNat)
    case atStart => exact ⟨0, Nat.zero_le _, rfl, fun j hj => by omega, Below.refl _ _⟩
    case round =>
      obtain ⟨wo, hwo⟩ : ∃ wo, wo = wr := ⟨_, rfl⟩
      subst hwo
      obtain ⟨k, hk, rfl, HS, hBr⟩ := hrel
      by_cases hlt : k < L
      · have hkI : (k : Int) < (L : Int) := by omega
        obtain ⟨x, hx⟩ := someL (l := l) (k := k) (by rw [← HL.out]; exact hlt)
        obtain ⟨y, hy⟩ := someL (l := m) (k := k) (by rw [← HM.out]; exact hlt)
        have hbx : blk x ≤ blkL l := sumN_mem (List.mem_map_of_mem (List.mem_of_getElem? hx))
        have HX : Hid (l[k]? = some x ∧ m[k]? = some y) := ⟨hx, hy⟩
        obtain ⟨g, off, ra1, rc1, ka1, kc1, sa1, sc1, rfl, hg, q6, qt⟩ := (H1.out.blw hBr).at hx
        obtain ⟨g2, off2, ra2, rc2, ka2, kc2, sa2, sc2, rfl, hg2, p6, pt⟩ := (H2.out.blw hBr).at hy
        have HQ : Hid (Cs6 wo g (off + k * 6) x ra1 rc1 ka1 kc1 sa1 sc1) := q6
        have HP : Hid (Cs6 wo g2 (off2 + k * 6) y ra2 rc2 ka2 kc2 sa2 sc2) := p6
        obtain ⟨eb, heb⟩ := bool_of (x = y)
        have HEb : Hid (eb = true ↔ x = y) := heb
        have rC : Hid (∀ z : Cw wo, Calls Tryz.prog 10 #[.agg #[.int .i64 x.kind, .int .i64 x.n, .string x.name, .slice ra1 x.r.length rc1, .slice ka1 x.kids.length kc1, .slice sa1 x.sys.length sc1], .agg #[.int .i64 y.kind, .int .i64 y.n, .string y.name, .slice ra2 y.r.length rc2, .slice ka2 y.kids.length kc2, .slice sa2 y.sys.length sc2]] z.1 fun e w' => e = .returned (.bool eb) ∧ ∃ z' : Cw wo, w' = z'.1) := fun z => cw_call z (IH x y eb _ _ z.1 (qt.blw z.2).value (pt.blw z.2).value (by omega) (by omega) heb)
        clear hx hy q6 p6 heb
        have c0 : ∀ z : Cw wo, z.1.cell? ⟨g, off + k * 6, none⟩ = some (.int .i64 x.kind) := fun z => (HQ.out.blw z.2).c0
        have c1 : ∀ z : Cw wo, z.1.cell? ⟨g, off + k * 6 + 1, none⟩ = some (.int .i64 x.n) := fun z => (HQ.out.blw z.2).c1
        have c2 : ∀ z : Cw wo, z.1.cell? ⟨g, off + k * 6 + 2, none⟩ = some (.string x.name) := fun z => (HQ.out.blw z.2).c2
        have c3 : ∀ z : Cw wo, z.1.cell? ⟨g, off + k * 6 + 3, none⟩ = some (.slice ra1 x.r.length rc1) := fun z => (HQ.out.blw z.2).c3
        have c4 : ∀ z : Cw wo, z.1.cell? ⟨g, off + k * 6 + 4, none⟩ = some (.slice ka1 x.kids.length kc1) := fun z => (HQ.out.blw z.2).c4
        have c5 : ∀ z : Cw wo, z.1.cell? ⟨g, off + k * 6 + 5, none⟩ = some (.slice sa1 x.sys.length sc1) := fun z => (HQ.out.blw z.2).c5
        have d0 : ∀ z : Cw wo, z.1.cell? ⟨g2, off2 + k * 6, none⟩ = some (.int .i64 y.kind) := fun z => (HP.out.blw z.2).c0
        have d1 : ∀ z : Cw wo, z.1.cell? ⟨g2, off2 + k * 6 + 1, none⟩ = some (.int .i64 y.n) := fun z => (HP.out.blw z.2).c1
        have d2 : ∀ z : Cw wo, z.1.cell? ⟨g2, off2 + k * 6 + 2, none⟩ = some (.string y.name) := fun z => (HP.out.blw z.2).c2
        have d3 : ∀ z : Cw wo, z.1.cell? ⟨g2, off2 + k * 6 + 3, none⟩ = some (.slice ra2 y.r.length rc2) := fun z => (HP.out.blw z.2).c3
        have d4 : ∀ z : Cw wo, z.1.cell? ⟨g2, off2 + k * 6 + 4, none⟩ = some (.slice ka2 y.kids.length kc2) := fun z => (HP.out.blw z.2).c4
        have d5 : ∀ z : Cw wo, z.1.cell? ⟨g2, off2 + k * 6 + 5, none⟩ = some (.slice sa2 y.sys.length sc2) := fun z => (HP.out.blw z.2).c5
        clear qt pt
        have hne := cw_any wo
        go_upto_region 6 with fail
        cases eb with
        | false =>
          refine wp_region_cw (by kernel_rfl) (by kernel_rfl) ?_
          repeat (first | go_big_quiet_step (fail) | quiet_step (fail))
          first | go_big_quiet_step (exact rC.out _) | quiet_step (exact rC.out _)
          repeat (first | go_big_quiet_step (fail) | quiet_step (fail))
          refine wpQuiet_nil ?_
          rintro _ ⟨z, rfl⟩
          obtain ⟨w6, b6⟩ := z
          dsimp only
          clear rC hne c0 c1 c2 c3 c4 c5 d0 d1 d2 d3 d4 d5
          have HB : Hid (b = false) := HF.out (fun h => by
            have e := HX.out.1
            rw [h, HX.out.2] at e
            cases e
            have := HEb.out.2 rfl
            cases this)
          go_wp2_with fail
          go_ret
          exact ⟨ret_bool HB.out.symm, bchain hBr b6⟩
        | true =>
          refine wp_region_cw (by kernel_rfl) (by kernel_rfl) ?_
          repeat (first | go_big_quiet_step (fail) | quiet_step (fail))
          first | go_big_quiet_step (exact rC.out _) | quiet_step (exact rC.out _)
          repeat (first | go_big_quiet_step (fail) | quiet_step (fail))
          refine wpQuiet_nil ?_
          rintro _ ⟨z, rfl⟩
          obtain ⟨w6, b6⟩ := z
          dsimp only
          clear rC hne c0 c1 c2 c3 c4 c5 d0 d1 d2 d3 d4 d5
          have HS' : Hid (∀ j, j < k + 1 → l[j]? = m[j]?) := fun j hj => by
            rcases Nat.lt_or_ge j k with h | h
            · exact HS.out j h
            · have ej : j = k := by omega
              rw [ej, HX.out.1, HX.out.2, HEb.out.1 (by first | rfl | trivial)]
          clear HS HX HEb
          go_wp2_with fail
          go_roundw
          case rel => exact ⟨k + 1, by omega, by go_num, HS', bchain hBr b6⟩
          case measure => simp [intOf]; omega
      · have hkI : ¬ (k : Int) < (L : Int) := by omega
        have HB : Hid (b = true) := HTr.out (by
          apply List.ext_getElem?
          intro j
          rcases Nat.lt_or_ge j k with h | h
          · exact HS.out j h
          · rw [List.getElem?_eq_none (by rw [← HL.out]; omega), List.getElem?_eq_none (by rw [← HM.out]; omega)])
        clear HS
        go_wp2_with fail
        go_ret
        exact ⟨ret_bool HB.out.symm, hBr⟩
  · have HB : Hid (b = false) := HF.out (fun h => hLM (by rw [HL.out, HM.out, h]))
    have q1 : ¬ (L : Int) = (M : Int) := by omega
    have q2 : ((L : Int) == (M : Int)) = false := by simp; omega
    have q3 : ¬ L = M := hLM
    go_enter Tryz.func24, Tryz.ntmps24
    go_wp2_with fail
    go_ret
    exact ⟨ret_bool HB.out.symm, Below.refl _ _⟩
end Go.Proofs.YtjimednocmdpnaaGreat

namespace Go.Proofs.YtjimednocmdpnaaGreat
open Go.RowKit
set_option linter.unusedVariables false
set_option linter.unusedSimpArgs false

set_option maxRecDepth 100000 in
set_option maxHeartbeats 8000000 in
theorem rsame_step (N : Nat) (IH : RLsC N) : RSmC (N + 1) := by
  intro t u b v v' w hv hv' hN hbb hb
  rw [Tm.eq_iff] at hb
  have hbs := blk_eq t
  have hlen := blk_lens t
  obtain ⟨ra, rc, ka, kc, sa, sc, rfl, ht⟩ := hv.form
  obtain ⟨ra', rc', ka', kc', sa', sc', rfl, ht'⟩ := hv'.form
  obtain ⟨W, hW, bW, c6, c6'⟩ := boxT2 w t u ra rc ka kc sa sc ra' rc' ka' kc' sa' sc'
  have HT : Hid (TmTop Tt W t ra rc ka kc sa sc) := ht.blw bW
  have HU : Hid (TmTop Tt W u ra' rc' ka' kc' sa' sc') := ht'.blw bW
  have HC : Hid (Cs6 W w.heap.size 0 t ra rc ka kc sa sc) := c6
  have HC' : Hid (Cs6 W (w.heap.size + 1) 0 u ra' rc' ka' kc' sa' sc') := c6'
  have HLk : Hid (blkL t.kids ≤ N ∧ blkL t.kids ≤ 40000 ∧ t.r.length ≤ 40000) := ⟨by omega, by omega, by omega⟩
  have HLs : Hid (∀ c ∈ t.sys, blkL c.2 ≤ N ∧ blkL c.2 ≤ 40000 ∧ c.1.length ≤ 40000) := fun c hc => by have := blk_br hc; omega
  obtain ⟨c1, hc1⟩ := bool_of (t.kind = u.kind ∧ t.n = u.n ∧ t.name = u.name ∧ t.r = u.r ∧ t.kids = u.kids ∧ t.sys.length = u.sys.length)
  have HF1 : Hid (c1 = false → b = false) := fun h => Bool.eq_false_iff.2 fun h2 => by
    obtain ⟨e1, e2, e3, e4, e5, e6⟩ := hb.1 h2
    have := hc1.2 ⟨e1, e2, e3, e4, e5, by rw [e6]⟩
    rw [h] at this; cases this
  have HF2 : Hid (¬ t.sys = u.sys → b = false) := fun h => Bool.eq_false_iff.2 fun h2 => h (hb.1 h2).2.2.2.2.2
  have HTr : Hid (c1 = true → t.sys = u.sys → b = true) := fun h h2 => hb.2 ⟨(hc1.1 h).1, (hc1.1 h).2.1, (hc1.1 h).2.2.1, (hc1.1 h).2.2.2.1, (hc1.1 h).2.2.2.2.1, h2⟩
  have HML : Hid (c1 = true → t.sys.length = u.sys.length) := fun h => (hc1.1 h).2.2.2.2.2
  have H1 : Hid (_ = _) := hW
  have HK : Hid (∀ b2 : Bool, (b2 = true ↔ t.kids = u.kids) → ∀ w2, Below W.heap.size W w2 → Calls Tryz.prog 24 #[.slice ka t.kids.length kc, .slice ka' u.kids.length kc'] w2 fun e w' => e = .returned (.bool b2) ∧ Below w2.heap.size w2 w') := fun b2 h2 w2 q => IH _ _ b2 _ _ w2 (HT.out.blw q).kids (HU.out.blw q).kids HLk.out.1 HLk.out.2.1 h2
  have HRr : Hid (∀ w2, Below W.heap.size W w2 → Calls Tryz.prog 16 #[.slice ra t.r.length rc, .slice ra' u.r.length rc'] w2 fun e w' => e = .returned (.bool (decide (t.r = u.r))) ∧ Below w2.heap.size w2 w') := fun w2 q => same_any t.r u.r _ _ w2 (HT.out.blw q).row.row (HU.out.blw q).row.row (by have := HLk.out.2.2; omega)
  obtain ⟨_, y0, y1, y2, y3, y4, y5⟩ := c6
  obtain ⟨_, z0, z1, z2, z3, z4, z5⟩ := c6'
  simp only [Nat.zero_add] at y1 y2 y3 y4 y5 z1 z2 z3 z4 z5
  obtain ⟨a0, ha0⟩ : ∃ a, a = t.kind := ⟨_, rfl⟩
  obtain ⟨b0, hb0⟩ : ∃ a, a = u.kind := ⟨_, rfl⟩
  obtain ⟨a1, ha1⟩ : ∃ a, a = t.n := ⟨_, rfl⟩
  obtain ⟨b1, hb1⟩ : ∃ a, a = u.n := ⟨_, rfl⟩
  obtain ⟨a2, ha2⟩ : ∃ a, a = t.name := ⟨_, rfl⟩
  obtain ⟨b2, hb2⟩ : ∃ a, a = u.name := ⟨_, rfl⟩
  obtain ⟨M, hM⟩ : ∃ a, a = t.sys.length := ⟨_, rfl⟩
  obtain ⟨M', hM'⟩ : ∃ a, a = u.sys.length := ⟨_, rfl⟩
  have HM : Hid (M = t.sys.length) := hM
  have HM' : Hid (M' = u.sys.length) := hM'
  obtain ⟨rb, hrb⟩ : ∃ r, r = decide (t.r = u.r) := ⟨_, rfl⟩
  obtain ⟨kb, hkb⟩ := bool_of (t.kids = u.kids)
  have cR0 := HRr.out
  have cK0 := HK.out kb hkb
  rw [← hrb] at cR0
  have HcR : Hid (_) := cR0
  have HcK : Hid (_) := cK0
  rw [← ha0, ← hb0, ← ha1, ← hb1, ← ha2, ← hb2, ← hM, ← hM'] at hc1
  have hr2 : (rb = true ↔ t.r = u.r) := by rw [hrb]; simp
  rw [← hr2, ← hkb] at hc1
  rw [← ha0] at y0
  rw [← hb0] at z0
  rw [← ha1] at y1
  rw [← hb1] at z1
  rw [← ha2] at y2
  rw [← hb2] at z2
  rw [← hM] at y5
  rw [← hM'] at z5
  rw [← hM] at hlen
  clear hW hv hv' ht ht' ha0 hb0 ha1 hb1 ha2 hb2 hM hM' hrb hkb cR0 cK0 hr2 hb hbs
  have hMb : M ≤ 100000 := by omega
  clear hlen
  go_enter Tryz.func10, Tryz.ntmps10
  go_upto_region 1 with fail
  rw [← H1.out]
  clear H1
  go_cut [49] (fun s wx => s = .bool (!c1) ∧ Below W.heap.size W wx)
  case first => as_aux_lemma =>
    by_cases q0 : a0 = b0
    · subst q0
      by_cases q1 : a1 = b1
      · subst q1
        by_cases q2 : a2 = b2
        · subst q2
          have cR := HcR.out W (Below.refl _ _)
          cases rb with
          | false =>
            have e : c1 = false := by rw [Bool.eq_false_iff]; intro h; have := (hc1.1 h).2.2.2.1; cases this
            clear hc1
            go_wp2_with fail
            refine cR.mono ?_
            rintro e9 w2 ⟨rfl, b2⟩
            clear cR y0 y1 y2 y3 y4 y5 z0 z1 z2 z3 z4 z5
            go_wp2_with fail
            go_meet
            exact ⟨by rw [e]; rfl, b2⟩
          | true =>
            cases kb with
            | false =>
              have e : c1 = false := by rw [Bool.eq_false_iff]; intro h; have := (hc1.1 h).2.2.2.2.1; cases this
              clear hc1
              go_wp2_with fail
              refine cR.mono ?_
              rintro e9 w2 ⟨rfl, b2⟩
              clear cR
              clear y0 y1 y2 y3 y4 y5 z0 z1 z2 z3 z4 z5
              obtain ⟨_, y0, y1, y2, y3, y4, y5⟩ := HC.out.blw (b2)
              obtain ⟨_, z0, z1, z2, z3, z4, z5⟩ := HC'.out.blw (b2)
              simp only [Nat.zero_add] at y1 y2 y3 y4 y5 z1 z2 z3 z4 z5
              rw [← HM.out] at y5
              rw [← HM'.out] at z5
              have cK := HcK.out w2 b2
              go_wp2_with fail
              refine cK.mono ?_
              rintro e9 w3 ⟨rfl, b3⟩
              clear cK y0 y1 y2 y3 y4 y5 z0 z1 z2 z3 z4 z5
              go_wp2_with fail
              go_meet
              exact ⟨by rw [e]; rfl, bchain b2 b3⟩
            | true =>
              by_cases q5 : M = M'
              · have e : c1 = true := hc1.2 ⟨rfl, rfl, rfl, rfl, rfl, q5⟩
                clear hc1
                go_wp2_with fail
                refine cR.mono ?_
                rintro e9 w2 ⟨rfl, b2⟩
                clear cR
                clear y0 y1 y2 y3 y4 y5 z0 z1 z2 z3 z4 z5
                obtain ⟨_, y0, y1, y2, y3, y4, y5⟩ := HC.out.blw (b2)
                obtain ⟨_, z0, z1, z2, z3, z4, z5⟩ := HC'.out.blw (b2)
                simp only [Nat.zero_add] at y1 y2 y3 y4 y5 z1 z2 z3 z4 z5
                rw [← HM.out] at y5
                rw [← HM'.out] at z5
                have cK := HcK.out w2 b2
                go_wp2_with fail
                refine cK.mono ?_
                rintro e9 w3 ⟨rfl, b3⟩
                clear cK
                clear y0 y1 y2 y3 y4 y5 z0 z1 z2 z3 z4 z5
                obtain ⟨_, y0, y1, y2, y3, y4, y5⟩ := HC.out.blw (bchain b2 b3)
                obtain ⟨_, z0, z1, z2, z3, z4, z5⟩ := HC'.out.blw (bchain b2 b3)
                simp only [Nat.zero_add] at y1 y2 y3 y4 y5 z1 z2 z3 z4 z5
                rw [← HM.out] at y5
                rw [← HM'.out] at z5
                subst q5
                go_wp2_with fail
                go_meet
                exact ⟨by rw [e]; rfl, bchain b2 b3⟩
              · have e : c1 = false := by rw [Bool.eq_false_iff]; intro h; exact q5 (hc1.1 h).2.2.2.2.2
                have p1 : ((M : Int) == (M' : Int)) = false := by simp; omega
                have p2 : ¬ (M : Int) = (M' : Int) := by omega
                have p3 : ((M : Int) != (M' : Int)) = true := by simp; omega
                clear hc1
                go_wp2_with fail
                refine cR.mono ?_
                rintro e9 w2 ⟨rfl, b2⟩
                clear cR
                clear y0 y1 y2 y3 y4 y5 z0 z1 z2 z3 z4 z5
                obtain ⟨_, y0, y1, y2, y3, y4, y5⟩ := HC.out.blw (b2)
                obtain ⟨_, z0, z1, z2, z3, z4, z5⟩ := HC'.out.blw (b2)
                simp only [Nat.zero_add] at y1 y2 y3 y4 y5 z1 z2 z3 z4 z5
                rw [← HM.out] at y5
                rw [← HM'.out] at z5
                have cK := HcK.out w2 b2
                go_wp2_with fail
                refine cK.mono ?_
                rintro e9 w3 ⟨rfl, b3⟩
                clear cK
                clear y0 y1 y2 y3 y4 y5 z0 z1 z2 z3 z4 z5
                obtain ⟨_, y0, y1, y2, y3, y4, y5⟩ := HC.out.blw (bchain b2 b3)
                obtain ⟨_, z0, z1, z2, z3, z4, z5⟩ := HC'.out.blw (bchain b2 b3)
                simp only [Nat.zero_add] at y1 y2 y3 y4 y5 z1 z2 z3 z4 z5
                rw [← HM.out] at y5
                rw [← HM'.out] at z5
                go_wp2_with fail
                go_meet
                exact ⟨by rw [e]; rfl, bchain b2 b3⟩
        · have e : c1 = false := by rw [Bool.eq_false_iff]; intro h; exact q2 ((hc1.1 h).2.2.1)
          have p1 := strNe q2
          clear hc1
          go_wp2_with fail
          go_meet
          exact ⟨by rw [e]; rfl, Below.refl _ _⟩
      · have e : c1 = false := by rw [Bool.eq_false_iff]; intro h; exact q1 ((hc1.1 h).2.1)
        have p1 : (a1 == b1) = false := by simpa using q1
        have p2 : (a1 != b1) = true := by simpa using q1
        clear hc1
        go_wp2_with fail
        go_meet
        exact ⟨by rw [e]; rfl, Below.refl _ _⟩
    · have e : c1 = false := by rw [Bool.eq_false_iff]; intro h; exact q0 ((hc1.1 h).1)
      have p1 : (a0 == b0) = false := by simpa using q0
      have p2 : (a0 != b0) = true := by simpa using q0
      clear hc1
      go_wp2_with fail
      go_meet
      exact ⟨by rw [e]; rfl, Below.refl _ _⟩
  case rest =>
  obtain ⟨rfl, hB2⟩ := hcut
  clear hc1 y0 y1 y2 y3 y4 y5 z0 z1 z2 z3 z4 z5
  obtain ⟨w2, hw2e⟩ : ∃ w2, w2 = wc := ⟨_, rfl⟩
  subst hw2e
  cases c1 with
  | false =>
    have HB : Hid (b = false) := HF1.out rfl
    go_wp2_with fail
    go_ret
    exact ⟨ret_bool HB.out.symm, bchain bW hB2⟩
  | true =>
    have hMM : M = M' := by rw [HM.out, HM'.out]; exact HML.out rfl
    subst hMM
    go_wp2_with fail
    go_loopw [5] (fun i wr => ∃ k : Nat, k ≤ M ∧ i = .int .i64 k ∧ Hid (∀ j, j < k → t.sys[j]? = u.sys[j]?) ∧ Below W.heap.size W wr) (fun i _ => M - (intOf i).toNat)
    case atStart => exact ⟨0, Nat.zero_le _, rfl, fun j hj => by omega, hB2⟩
    case round =>
      obtain ⟨wo, hwo⟩ : ∃ wo, wo = wr := ⟨_, rfl⟩
      subst hwo
      obtain ⟨k, hk, rfl, HS, hBr⟩ := hrel
      obtain ⟨_, y0, y1, y2, y3, y4, y5⟩ := HC.out.blw hBr
      simp only [Nat.zero_add] at y1 y2 y3 y4 y5
      rw [← HM.out] at y5
      by_cases hlt : k < M
      · have hkI : (k : Int) < (M : Int) := by omega
        obtain ⟨c, hc⟩ := someL (l := t.sys) (k := k) (by rw [← HM.out]; exact hlt)
        obtain ⟨d, hd⟩ := someL (l := u.sys) (k := k) (by rw [← HM'.out]; exact hlt)
        have hcl := HLs.out c (List.mem_of_getElem? hc)
        have HX : Hid (t.sys[k]? = some c ∧ u.sys[k]? = some d) := ⟨hc, hd⟩
        obtain ⟨g, off, fa, fc, ka1, kc1, rfl, hg, q2, qf, qk⟩ := (HT.out.blw hBr).sys.at hc
        obtain ⟨g2, off2, fa2, fc2, ka2, kc2, rfl, hg2, p2, pf, pk⟩ := (HU.out.blw hBr).sys.at hd
        have HQ : Hid (Cs2 wo g (off + k * 2) c fa fc ka1 kc1) := q2
        have HP : Hid (Cs2 wo g2 (off2 + k * 2) d fa2 fc2 ka2 kc2) := p2
        obtain ⟨fb, hfb⟩ : ∃ x, x = decide (c.1 = d.1) := ⟨_, rfl⟩
        obtain ⟨gb, hgb⟩ := bool_of (c.2 = d.2)
        have HG : Hid ((fb = true ↔ c.1 = d.1) ∧ (gb = true ↔ c.2 = d.2)) := ⟨by rw [hfb]; simp, hgb⟩
        have rF : Hid (∀ z : Cw wo, Calls Tryz.prog 16 #[.slice fa c.1.length fc, .slice fa2 d.1.length fc2] z.1 fun e w' => e = .returned (.bool fb) ∧ ∃ z' : Cw wo, w' = z'.1) := fun z => cw_call z (by rw [hfb]; exact same_any c.1 d.1 _ _ z.1 (qf.blw z.2).row (pf.blw z.2).row (by omega))
        have rK : Hid (∀ z : Cw wo, Calls Tryz.prog 24 #[.slice ka1 c.2.length kc1, .slice ka2 d.2.length kc2] z.1 fun e w' => e = .returned (.bool gb) ∧ ∃ z' : Cw wo, w' = z'.1) := fun z => cw_call z (IH c.2 d.2 gb _ _ z.1 (qk.blw z.2) (pk.blw z.2) hcl.1 hcl.2.1 hgb)
        have e0 : ∀ z : Cw wo, z.1.cell? ⟨g, off + k * 2, none⟩ = some (.slice fa c.1.length fc) := fun z => (HQ.out.blw z.2).c0
        have e1 : ∀ z : Cw wo, z.1.cell? ⟨g, off + k * 2 + 1, none⟩ = some (.slice ka1 c.2.length kc1) := fun z => (HQ.out.blw z.2).c1
        have f0 : ∀ z : Cw wo, z.1.cell? ⟨g2, off2 + k * 2, none⟩ = some (.slice fa2 d.1.length fc2) := fun z => (HP.out.blw z.2).c0
        have f1 : ∀ z : Cw wo, z.1.cell? ⟨g2, off2 + k * 2 + 1, none⟩ = some (.slice ka2 d.2.length kc2) := fun z => (HP.out.blw z.2).c1
        have y5a : ∀ z : Cw wo, z.1.cell? ⟨w.heap.size, 5, none⟩ = some (.slice (some ⟨g, off, none⟩) M sc) := fun z => by have := (HC.out.blw (bchain hBr z.2)).c5; rw [← HM.out] at this; simpa only [Nat.zero_add] using this
        have z5a : ∀ z : Cw wo, z.1.cell? ⟨w.heap.size + 1, 5, none⟩ = some (.slice (some ⟨g2, off2, none⟩) M sc') := fun z => by have := (HC'.out.blw (bchain hBr z.2)).c5; rw [← HM'.out] at this; simpa only [Nat.zero_add] using this
        clear hc hd q2 p2 qf qk pf pk hfb hgb hcl
        have hne := cw_any wo
        go_upto_region 6 with fail
        clear y0 y1 y2 y3 y4 y5
        cases fb with
        | false =>
          refine wp_region_cw (by kernel_rfl) (by kernel_rfl) ?_
          repeat (first | go_big_quiet_step (fail) | quiet_step (fail))
          first | go_big_quiet_step (exact rF.out _) | quiet_step (exact rF.out _)
          repeat (first | go_big_quiet_step (fail) | quiet_step (fail))
          refine wpQuiet_nil ?_
          rintro _ ⟨z, rfl⟩
          obtain ⟨w6, b6⟩ := z
          dsimp only
          clear rF rK hne e0 e1 f0 f1 y5a z5a
          have HB : Hid (b = false) := HF2.out (fun h => by
            have e := HX.out.1
            rw [h, HX.out.2] at e
            cases e
            have := HG.out.1.2 rfl
            cases this)
          go_wp2_with fail
          go_ret
          exact ⟨ret_bool HB.out.symm, bchain bW (bchain hBr b6)⟩
        | true =>
          cases gb with
          | false =>
            refine wp_region_cw (by kernel_rfl) (by kernel_rfl) ?_
            repeat (first | go_big_quiet_step (fail) | quiet_step (fail))
            first | go_big_quiet_step (exact rF.out _) | quiet_step (exact rF.out _)
            repeat (first | go_big_quiet_step (fail) | quiet_step (fail))
            first | go_big_quiet_step (exact rK.out _) | quiet_step (exact rK.out _)
            repeat (first | go_big_quiet_step (fail) | quiet_step (fail))
            refine wpQuiet_nil ?_
            rintro _ ⟨z, rfl⟩
            obtain ⟨w6, b6⟩ := z
            dsimp only
            clear rF rK hne e0 e1 f0 f1 y5a z5a
            have HB : Hid (b = false) := HF2.out (fun h => by
              have e := HX.out.1
              rw [h, HX.out.2] at e
              cases e
              have := HG.out.2.2 rfl
              cases this)
            go_wp2_with fail
            go_ret
            exact ⟨ret_bool HB.out.symm, bchain bW (bchain hBr b6)⟩
          | true =>
            refine wp_region_cw (by kernel_rfl) (by kernel_rfl) ?_
            repeat (first | go_big_quiet_step (fail) | quiet_step (fail))
            first | go_big_quiet_step (exact rF.out _) | quiet_step (exact rF.out _)
            repeat (first | go_big_quiet_step (fail) | quiet_step (fail))
            first | go_big_quiet_step (exact rK.out _) | quiet_step (exact rK.out _)
            repeat (first | go_big_quiet_step (fail) | quiet_step (fail))
            refine wpQuiet_nil ?_
            rintro _ ⟨z, rfl⟩
            obtain ⟨w6, b6⟩ := z
            dsimp only
            clear rF rK hne e0 e1 f0 f1 y5a z5a
            have HS' : Hid (∀ j, j < k + 1 → t.sys[j]? = u.sys[j]?) := fun j hj => by
              rcases Nat.lt_or_ge j k with h | h
              · exact HS.out j h
              · have ej : j = k := by omega
                rw [ej, HX.out.1, HX.out.2]
                exact congrArg some (Prod.ext (HG.out.1.1 (by first | rfl | trivial)) (HG.out.2.1 (by first | rfl | trivial)))
            clear HS HX HG
            go_wp2_with fail
            go_roundw
            case rel => exact ⟨k + 1, by omega, by go_num, HS', bchain hBr b6⟩
            case measure => simp [intOf]; omega
      · have hkI : ¬ (k : Int) < (M : Int) := by omega
        have HB : Hid (b = true) := HTr.out (by first | rfl | trivial) (by
          apply List.ext_getElem?
          intro j
          rcases Nat.lt_or_ge j k with h | h
          · exact HS.out j h
          · rw [List.getElem?_eq_none (by rw [← HM.out]; omega), List.getElem?_eq_none (by rw [← HM'.out]; omega)])
        clear HS
        go_wp2_with fail
        go_ret
        exact ⟨ret_bool HB.out.symm, bchain bW hBr⟩
theorem rsame_any (N : Nat) : RSmC N := by
  induction N with
  | zero => intro t u b v v' w _ _ hb; have := blk_pos t; omega
  | succ N ih => exact rsame_step N (rlists_of N ih)
end Go.Proofs.YtjimednocmdpnaaGreat

namespace Go.Proofs.YtjimednocmdpnaaGreat
open Go.ChangeShapes Go.WideShapes Go.ChangeAt Go.RowKit
set_option linter.unusedVariables false
set_option linter.unusedSimpArgs false

section
variable {H : Type} {enc : TypeId × Value → H}
theorem wf_I64 {n : Int} (h : (Lit.int .i64 n).wf = true) : I64 n := by
  simp [Lit.wf, IntKind.min, IntKind.max, IntKind.bits, IntKind.signed] at h
  exact ⟨by omega, by omega⟩
set_option maxRecDepth 100000 in
theorem cells_term : Tryz.prog.cellsOf 26 = 6 := by kernel_rfl
set_option maxRecDepth 100000 in
theorem cells_branch : Tryz.prog.cellsOf 46 = 2 := by kernel_rfl
set_option maxRecDepth 100000 in
theorem cells_terms : Tryz.prog.cellsOf 23 = 1 := by kernel_rfl
set_option maxRecDepth 100000 in
theorem cells_branches : Tryz.prog.cellsOf 24 = 1 := by kernel_rfl
set_option maxRecDepth 100000 in
theorem cells_cls : Tryz.prog.cellsOf 22 = 1 := by kernel_rfl
set_option maxRecDepth 100000 in
theorem ycells_int : Tryz.prog.cellsOf 3 = 1 := by kernel_rfl
set_option maxRecDepth 100000 in
theorem ycells_str : Tryz.prog.cellsOf 9 = 1 := by kernel_rfl
/-- A slice that came in, element by element. -/
theorem open_any {W : World} {fuel : Nat} {cs : List Value} {x : DataW H × List MemPlace} {ts te : TypeId} {k : Nat} (hu : Tryz.prog.underlying ts = some (.slice te)) (hk : Tryz.prog.cellsOf te = k) (hk0 : 0 < k) {T : Type} [Inhabited T] (p : T → List Value → Prop)
    (ih : ∀ m, m < fuel → ∀ cs x, DataW.trod enc Tryz.prog W 0 (fun _ => true) true m te cs = some x → ∃ t, p t cs) (h : DataW.trod enc Tryz.prog W 0 (fun _ => true) true fuel ts cs = some x) :
    ∃ (l : List T) (a : Option Addr) (cap : Nat), cs = [.slice a l.length cap] ∧ l.length ≤ cap ∧ ∀ j t, l[j]? = some t → ∃ g off cs', a = some ⟨g, off, none⟩ ∧ g < W.heap.size ∧ p t cs' ∧ ∀ i, i < k → W.cell? ⟨g, off + j * k + i, none⟩ = cs'[i]? := by
  rcases DataW.trod_slice hu h with ⟨rfl, _⟩ | ⟨a, len, cap, elems, rest, m, rfl, rfl, _, hba, hlc, hcm, hel, hcell, _, _⟩
  · exact ⟨[], none, 0, rfl, Nat.le_refl _, fun j t ht => by simp at ht⟩
  · have each : ∀ i, i < len → ∃ (t : T), ∃ cs', p t cs' ∧ cs'.length = k ∧ ∀ j, j < k → W.cell? (a.add (i * k + j)) = cs'[j]? := fun i hi => by
      have h1 := hcell i hi
      rw [List.getElem?_eq_getElem (by omega), hk] at h1
      obtain ⟨cs', h2, h3⟩ := Option.bind_eq_some_iff.1 h1
      obtain ⟨t, hp⟩ := ih m (by omega) _ _ h3
      obtain ⟨h5, h6, h4⟩ := World.cells?_some h2
      refine ⟨t, cs', hp, by first | exact h5 | exact h6 | omega, fun j hj => ?_⟩
      have := h4 j hj
      rw [Go.Deep.add_add] at this
      exact this
    obtain ⟨f, hf⟩ := Go.Deep.choose_lt (p := fun i t => ∃ cs', p t cs' ∧ cs'.length = k ∧ ∀ j, j < k → W.cell? (a.add (i * k + j)) = cs'[j]?) each
    refine ⟨(List.range len).map f, some a, cap, by simp, by simpa using hlc, fun j x hx => ?_⟩
    have hj : j < len := by
      rcases Nat.lt_or_ge j len with h1 | h1
      · exact h1
      · rw [List.getElem?_eq_none (by simpa using h1)] at hx; cases hx
    rw [List.getElem?_map, List.getElem?_range hj] at hx
    simp at hx
    subst hx
    obtain ⟨cs', hs, hl', hc⟩ := hf j hj
    obtain ⟨cs0, _, hl0, hc0⟩ := hf 0 (by omega)
    obtain ⟨b, off, spot⟩ := a
    have h0 : W.cell? ⟨b, off, spot⟩ = some (cs0[0]'(by omega)) := by
      have := hc0 0 hk0
      rw [List.getElem?_eq_getElem (by omega)] at this
      simpa [Addr.add] using this
    have hspot : spot = none := World.cell?_spot h0
    subst hspot
    have hb : b < W.heap.size := World.block_lt_of_cell? _ _ h0
    have e : ∀ j', Addr.add ⟨b, off, none⟩ (j * k + j') = ⟨b, off + j * k + j', none⟩ := fun j' => by
      unfold Addr.add
      split
      · next h9 =>
        have h1 : j * k = 0 := by omega
        have h2 : j' = 0 := by omega
        rw [h1, h2]; rfl
      · rw [Nat.add_assoc]
    exact ⟨b, off, cs', rfl, hb, hs, fun i hi => by have := hc i hi; rw [e] at this; exact this⟩
set_option maxRecDepth 100000 in
theorem open_clause1 {W : World} (m : Nat) (cs : List Value) (x : DataW H × List MemPlace) (h : DataW.trod enc Tryz.prog W 0 (fun _ => true) true m 43 cs = some x) : ∃ c : C, cs = [.int .u32 (c.1.val : Int), .int .u32 (c.2.val : Int)] := by
  obtain ⟨xs, n, rfl, _, hl, hlen, hf⟩ := DataW.trod_struct Tryz.underlying43 h
  rw [Tryz.cellsC] at hl
  match cs, hl with
  | [u0, u1], _ =>
    match xs, hlen with
    | [y0, y1], _ =>
      have e0 : DataW.trod enc Tryz.prog W 0 (fun _ => true) true n 41 (([u0, u1].drop 0).take (Tryz.prog.cellsOf 41)) = some y0 := hf 0 _ rfl
      have e1 : DataW.trod enc Tryz.prog W 0 (fun _ => true) true n 41 (([u0, u1].drop 1).take (Tryz.prog.cellsOf 41)) = some y1 := hf 1 _ rfl
      rw [Tryz.cellsU] at e0 e1
      obtain ⟨a, i0, _, w0⟩ := DataW.trod_int Tryz.underlying41 e0
      obtain ⟨b, i1, _, w1⟩ := DataW.trod_int Tryz.underlying41 e1
      obtain ⟨a, rfl⟩ := bounds_wf w0
      obtain ⟨b, rfl⟩ := bounds_wf w1
      simp at i0 i1
      subst i0 i1
      exact ⟨(a, b), rfl⟩
theorem open_cls {W : World} {fuel : Nat} {cs : List Value} {x : DataW H × List MemPlace} (h : DataW.trod enc Tryz.prog W 0 (fun _ => true) true fuel 22 cs = some x) : ∃ (l : List C) (v : Value), cs = [v] ∧ ClRow Tt W l v := by
  haveI : Inhabited C := ⟨(0, 0)⟩
  obtain ⟨l, a, cap, rfl, hl, hx⟩ := open_any Tryz.underlying22 Tryz.cellsC (by omega) (fun (c : C) cs => cs = [.int .u32 (c.1.val : Int), .int .u32 (c.2.val : Int)]) (fun m _ => open_clause1 m) h
  refine ⟨l, _, rfl, a, cap, rfl, hl, fun j c hj => ?_⟩
  obtain ⟨g, off, cs', ha, hg, rfl, hc⟩ := hx j c hj
  exact ⟨g, off, ha, trivial, hg, hc 0 (by omega), hc 1 (by omega)⟩
def TmOf (W : World) (t : Tm) (cs : List Value) : Prop := ∃ u0 u1 u2 u3 u4 u5, cs = [u0, u1, u2, u3, u4, u5] ∧ TmIn Tt W t (.agg #[u0, u1, u2, u3, u4, u5])
instance : Inhabited Tm := ⟨.mk 0 0 ByteArray.empty [] [] []⟩
theorem open_kidsT {W : World} {fuel : Nat} {cs : List Value} {x : DataW H × List MemPlace} (ih : ∀ m, m < fuel → ∀ cs x, DataW.trod enc Tryz.prog W 0 (fun _ => true) true m 26 cs = some x → ∃ t, TmOf W t cs) (h : DataW.trod enc Tryz.prog W 0 (fun _ => true) true fuel 23 cs = some x) :
    ∃ (l : List Tm) (v : Value), cs = [v] ∧ KdT Tt W (TmIn Tt W) l v := by
  obtain ⟨l, a, cap, rfl, hl, hx⟩ := open_any Tryz.underlying23 cells_term (by omega) (TmOf W) ih h
  refine ⟨l, _, rfl, a, cap, rfl, hl, fun j c hj => ?_⟩
  obtain ⟨g, off, cs', ha, hg, ⟨u0, u1, u2, u3, u4, u5, rfl, ht⟩, hc⟩ := hx j c hj
  exact ⟨g, off, u0, u1, u2, u3, u4, u5, ha, trivial, hg, ht, hc 0 (by omega), hc 1 (by omega), hc 2 (by omega), hc 3 (by omega), hc 4 (by omega), hc 5 (by omega)⟩
def BrOf (W : World) (b : List C × List Tm) (cs : List Value) : Prop := ∃ vf vk, cs = [vf, vk] ∧ ClRow Tt W b.1 vf ∧ KdT Tt W (TmIn Tt W) b.2 vk
set_option maxRecDepth 100000 in
theorem open_branch {W : World} {fuel : Nat} (ih : ∀ m, m < fuel → ∀ cs x, DataW.trod enc Tryz.prog W 0 (fun _ => true) true m 26 cs = some x → ∃ t, TmOf W t cs) (cs : List Value) (x : DataW H × List MemPlace) (h : DataW.trod enc Tryz.prog W 0 (fun _ => true) true fuel 46 cs = some x) : ∃ b, BrOf W b cs := by
  obtain ⟨xs, n, rfl, _, hl, hlen, hf⟩ := DataW.trod_struct Tryz.underlying46 h
  rw [cells_branch] at hl
  match cs, hl with
  | [u0, u1], _ =>
    match xs, hlen with
    | [y0, y1], _ =>
      have e0 : DataW.trod enc Tryz.prog W 0 (fun _ => true) true n 22 (([u0, u1].drop 0).take (Tryz.prog.cellsOf 22)) = some y0 := hf 0 _ rfl
      have e1 : DataW.trod enc Tryz.prog W 0 (fun _ => true) true n 23 (([u0, u1].drop 1).take (Tryz.prog.cellsOf 23)) = some y1 := hf 1 _ rfl
      rw [cells_cls] at e0
      rw [cells_terms] at e1
      obtain ⟨r, vr, i0, hr⟩ := open_cls e0
      obtain ⟨l, vl, i1, hK⟩ := open_kidsT (fun m hm => ih m (by omega)) e1
      simp at i0 i1
      subst i0 i1
      exact ⟨(r, l), _, _, rfl, hr, hK⟩
theorem open_sysT {W : World} {fuel : Nat} {cs : List Value} {x : DataW H × List MemPlace} (ih : ∀ m, m < fuel → ∀ cs x, DataW.trod enc Tryz.prog W 0 (fun _ => true) true m 26 cs = some x → ∃ t, TmOf W t cs) (h : DataW.trod enc Tryz.prog W 0 (fun _ => true) true fuel 24 cs = some x) :
    ∃ (l : List (List C × List Tm)) (v : Value), cs = [v] ∧ SyT Tt W (TmIn Tt W) l v := by
  haveI : Inhabited (List C × List Tm) := ⟨([], [])⟩
  obtain ⟨l, a, cap, rfl, hl, hx⟩ := open_any Tryz.underlying24 cells_branch (by omega) (BrOf W) (fun m hm => open_branch fun m' hm' => ih m' (by omega)) h
  refine ⟨l, _, rfl, a, cap, rfl, hl, fun j c hj => ?_⟩
  obtain ⟨g, off, cs', ha, hg, ⟨vf, vk, rfl, hf, hk⟩, hc⟩ := hx j c hj
  exact ⟨g, off, vf, vk, ha, trivial, hg, hf, hk, hc 0 (by omega), hc 1 (by omega)⟩
set_option maxRecDepth 100000 in
theorem open_tm {W : World} : ∀ (fuel : Nat) (cs : List Value) (x : DataW H × List MemPlace), DataW.trod enc Tryz.prog W 0 (fun _ => true) true fuel 26 cs = some x → ∃ t, TmOf W t cs := by
  intro fuel
  induction fuel using Nat.strongRecOn with
  | _ fuel ih =>
    intro cs x h
    obtain ⟨xs, n, rfl, _, hl, hlen, hf⟩ := DataW.trod_struct Tryz.underlying26 h
    rw [cells_term] at hl
    match cs, hl with
    | [u0, u1, u2, u3, u4, u5], _ =>
      match xs, hlen with
      | [y0, y1, y2, y3, y4, y5], _ =>
        have e0 : DataW.trod enc Tryz.prog W 0 (fun _ => true) true n 3 (([u0, u1, u2, u3, u4, u5].drop 0).take (Tryz.prog.cellsOf 3)) = some y0 := hf 0 _ rfl
        have e1 : DataW.trod enc Tryz.prog W 0 (fun _ => true) true n 3 (([u0, u1, u2, u3, u4, u5].drop 1).take (Tryz.prog.cellsOf 3)) = some y1 := hf 1 _ rfl
        have e2 : DataW.trod enc Tryz.prog W 0 (fun _ => true) true n 9 (([u0, u1, u2, u3, u4, u5].drop 2).take (Tryz.prog.cellsOf 9)) = some y2 := hf 2 _ rfl
        have e3 : DataW.trod enc Tryz.prog W 0 (fun _ => true) true n 22 (([u0, u1, u2, u3, u4, u5].drop 3).take (Tryz.prog.cellsOf 22)) = some y3 := hf 3 _ rfl
        have e4 : DataW.trod enc Tryz.prog W 0 (fun _ => true) true n 23 (([u0, u1, u2, u3, u4, u5].drop 4).take (Tryz.prog.cellsOf 23)) = some y4 := hf 4 _ rfl
        have e5 : DataW.trod enc Tryz.prog W 0 (fun _ => true) true n 24 (([u0, u1, u2, u3, u4, u5].drop 5).take (Tryz.prog.cellsOf 24)) = some y5 := hf 5 _ rfl
        rw [ycells_int] at e0 e1
        rw [ycells_str] at e2
        rw [cells_cls] at e3
        rw [cells_terms] at e4
        rw [cells_branches] at e5
        obtain ⟨k, i0, _, w0⟩ := DataW.trod_int Tryz.underlying3 e0
        obtain ⟨nn, i1, _, w1⟩ := DataW.trod_int Tryz.underlying3 e1
        obtain ⟨s, i2, _, _⟩ := DataW.trod_string Tryz.underlying9 e2
        obtain ⟨r, vr, i3, hr⟩ := open_cls e3
        obtain ⟨l, vl, i4, hK⟩ := open_kidsT (fun m hm => ih m (by omega)) e4
        obtain ⟨sy, vs, i5, hS⟩ := open_sysT (fun m hm => ih m (by omega)) e5
        simp at i0 i1 i2 i3 i4 i5
        subst i0 i1 i2 i3 i4 i5
        exact ⟨.mk k nn s r l sy, _, _, _, _, _, _, rfl, .mk _ _ _ _ _ _ _ _ _ (wf_I64 w0) (wf_I64 w1) hr hK hS⟩
set_option maxRecDepth 100000 in
theorem open_term1 {W : World} {base : Nat} {v : Value} {d : DataW H} {p : List MemPlace} (hv : Value.okWide Tryz.prog W .any base 26 v) (h : DataW.Trod enc Tryz.prog W 0 (fun _ => true) true 26 v d p) : ∃ t : Tm, TmIn Tt W t v := by
  obtain ⟨cs, rfl, hsz⟩ := okWide_struct Tryz.underlying26 hv
  obtain ⟨fuel, hf⟩ := h
  obtain ⟨t, u0, u1, u2, u3, u4, u5, e, hs⟩ := open_tm _ _ _ hf
  have ec : cs = #[u0, u1, u2, u3, u4, u5] := by
    simp [Value.cells] at e
    rw [← e]
  rw [ec]
  exact ⟨t, hs⟩
end
end Go.Proofs.YtjimednocmdpnaaGreat

namespace Go.Proofs.YtjimednocmdpnaaGreat
open Go.RowKit
set_option linter.unusedVariables false
set_option linter.unusedSimpArgs false

theorem lAll : LAll := fun s hs N => lf_any hs N
section
open Go.ChangeShapes Go.WideShapes Go.ChangeAt
variable {H : Type} {enc : TypeId × Value → H}
set_option maxRecDepth 100000 in
theorem open_row {W : World} {base : Nat} {v : Value} {d : DataW H} {p : List MemPlace} (hv : Value.okWide Tryz.prog W .any base 22 v) (h : DataW.Trod enc Tryz.prog W 0 (fun _ => true) true 22 v d p) : ∃ l : List C, ClRow Tt W l v := by
  obtain ⟨a0, len, cap, rfl⟩ := okWide_slice Tryz.underlying22 hv
  obtain ⟨fuel, hf⟩ := h
  obtain ⟨l, v', e, hs⟩ := open_cls hf
  have ec : Value.slice a0 len cap = v' := by
    simp [Value.cells] at e
    first | exact e | exact e.symm
  rw [ec]
  exact ⟨l, hs⟩
end
theorem dimsE_self {i : Nat} {t : Tm} (h : dimsE (i : Int) 1 t = 0) : erT (sd (i : Int)) t 0 0 = 0 ∧ dimsT (i : Int) 1 t = liT (sd (i : Int)) t 0 0 := by
  unfold dimsE apE at h
  unfold dimsT apT
  by_cases hw : wrL (i : Int) 1 t = 0
  · rw [if_pos hw] at h
    refine ⟨h, ?_⟩
    rw [if_pos hw]
    unfold ansL
    rw [if_pos h]
    rfl
  · rw [if_neg hw] at h
    exact absurd h hw
set_option maxRecDepth 100000 in
set_option maxHeartbeats 16000000 in
theorem walk_DimsSelf (t : Tm) (v0 : Value) (i : Int) (hwi : (Lit.int .i64 i).wf = true) (r : List C) (v2 : Value) (w : World) (hv0 : TmIn Tt w t v0) (hr : ClRow Tt w r v2) :
    Calls Tryz.prog 3 #[v0, .int .i64 i, v2] w fun e w' => e = .returned (.bool true) ∧ Below w.heap.size w w' := by
  have hiI := wf_I64 hwi
  obtain ⟨ar, cr, e2, _⟩ := id hr
  subst e2
  obtain ⟨LR, hLR⟩ : ∃ L, L = r.length := ⟨_, rfl⟩
  obtain ⟨ra, rc, ka, kc, sa, sc, rfl, ht⟩ := hv0.form
  obtain ⟨w1, hw1⟩ : ∃ W, W = w.alloc (.cells #[.int .i64 t.kind, .int .i64 t.n, .string t.name, .slice ra t.r.length rc, .slice ka t.kids.length kc, .slice sa t.sys.length sc] 26) := ⟨_, rfl⟩
  have b1 : Below w.heap.size w w1 := by rw [hw1]; exact belowA _ _
  obtain ⟨X, hX⟩ : ∃ X, X = w.heap.size := ⟨_, rfl⟩
  have n0 : Six w1 X (.int .i64 t.kind) (.int .i64 t.n) (.string t.name) (.slice ra t.r.length rc) (.slice ka t.kids.length kc) (.slice sa t.sys.length sc) := ⟨by rw [hw1, hX]; exact heapNew _ _⟩
  have HC : Hid (∀ W, Below w1.heap.size w1 W → Six W X (.int .i64 t.kind) (.int .i64 t.n) (.string t.name) (.slice ra t.r.length rc) (.slice ka t.kids.length kc) (.slice sa t.sys.length sc)) := fun W q => n0.blw q
  have HT : Hid (∀ W, Below w1.heap.size w1 W → TmIn Tt W t (.agg #[.int .i64 t.kind, .int .i64 t.n, .string t.name, .slice ra t.r.length rc, .slice ka t.kids.length kc, .slice sa t.sys.length sc])) := fun W q => ((ht.blw b1).blw q).value
  have HR : Hid (∀ W, Below w1.heap.size w1 W → ClRow Tt W r (.slice ar LR cr)) := fun W q => by rw [hLR]; exact (hr.blw b1).blw q
  have HB : Hid (∀ W, Below w1.heap.size w1 W → Below X w W) := fun W q => by rw [hX]; exact bchain b1 q
  have HXx : Hid (X = w.heap.size) := hX
  have HLR : Hid (LR = r.length) := hLR
  have HW : Hid (_ = _) := hw1
  have HiI : Hid (I64 i) := hiI
  rw [← hX, ← hLR]
  clear hw1 hX n0 ht hv0 b1 hr hLR hwi hiI
  go_enter Tryz.func3, Tryz.ntmps3
  go_upto_region 1 with fail
  rw [← HW.out]
  simp only [← HXx.out]
  clear HW
  have cw := works13_any w1
  go_wp2_with fail
  refine cw.mono ?_
  rintro e w2 ⟨rfl, b2⟩
  clear cw
  have cg := great13r_any t _ w2 (HT.out w2 b2) ar LR cr
  obtain ⟨y0, y1, y2, y3, y4, y5, _⟩ := (HC.out w2 b2).cells
  go_wp2_with fail
  refine cg.mono ?_
  rintro e w3 ⟨bg, rfl, hbg, b3⟩
  clear cg y0 y1 y2 y3 y4 y5
  have b13 : Below w1.heap.size w1 w3 := b2.trans (b3.mono b2.size)
  clear b2 b3
  cases bg
  rotate_left
  · have hF := HB.out w3 b13
    go_wp2_with fail
    go_ret
    exact ⟨rfl, hF⟩
  have HG : Hid (blk t ≤ 200 ∧ LR ≤ 12) := hbg rfl
  have cf := formed_any t _ w3 (HT.out w3 b13) (by have := HG.out.1; omega)
  obtain ⟨y0, y1, y2, y3, y4, y5, _⟩ := (HC.out w3 b13).cells
  obtain ⟨f, hf⟩ : ∃ f, f = wrongN true 0 0 t := ⟨_, rfl⟩
  have Hf : Hid (f = wrongN true 0 0 t) := hf
  rw [← hf] at cf
  clear hf hbg
  go_wp2_with fail
  refine cf.mono ?_
  rintro e w4 ⟨rfl, b4⟩
  clear cf y0 y1 y2 y3 y4 y5
  have b14 : Below w1.heap.size w1 w4 := b13.trans (b4.mono b13.size)
  clear b4 b13
  by_cases hz : f = 0
  rotate_left
  · have hz1 : ((f : Int) == 0) = false := by simp; omega
    have hF := HB.out w4 b14
    go_wp2_with fail
    go_ret
    exact ⟨rfl, hF⟩
  subst hz
  have cn := never_any _ t _ w4 (HT.out w4 b14) (Nat.le_refl _) (by have := HG.out.1; omega)
  obtain ⟨y0, y1, y2, y3, y4, y5, _⟩ := (HC.out w4 b14).cells
  go_wp2_with fail
  refine cn.mono ?_
  rintro e w5 ⟨bn, rfl, hbn, b5⟩
  clear cn y0 y1 y2 y3 y4 y5
  have b15 : Below w1.heap.size w1 w5 := b14.trans (b5.mono b14.size)
  clear b5 b14
  cases bn
  rotate_left
  · have hF := HB.out w5 b15
    go_wp2_with fail
    go_ret
    exact ⟨rfl, hF⟩
  have HN : Hid (neT t) := hbn rfl
  clear hbn
  -- Dim
  have cd := dim_any i w5
  by_cases hi : isDimB i = true
  rotate_left
  · have e1 : dimF i = ([], 2) := by unfold dimF; rw [if_neg hi]
    rw [e1] at cd
    dsimp only at cd
    go_wp2_with fail
    refine cd.mono ?_
    rintro e w6 ⟨v6, rfl, hO6, b6⟩
    clear cd
    obtain ⟨a6, c6, hv6⟩ := OwnsC.len hO6
    subst hv6
    have hF := HB.out w6 (b15.trans (b6.mono b15.size))
    go_wp2_with fail
    go_ret
    exact ⟨rfl, hF⟩
  obtain ⟨j, hj, rfl⟩ : ∃ j : Nat, j < 24 ∧ i = (j : Int) := by
    unfold isDimB at hi
    simp only [Bool.and_eq_true, decide_eq_true_eq] at hi
    exact ⟨i.toNat, by omega, by omega⟩
  have e1 : dimF (j : Int) = ([posB j], 0) := by unfold dimF; rw [if_pos hi]; simp
  rw [e1] at cd
  dsimp only at cd
  clear e1 hi
  go_wp2_with fail
  refine cd.mono ?_
  rintro e w6 ⟨v6, rfl, hO6, b6⟩
  clear cd
  have b16 : Below w1.heap.size w1 w6 := b15.trans (b6.mono b15.size)
  have hR6 : ClRow Tt w6 [posB j] v6 := (OwnsC.okn hO6).keep (Nat.le_refl _) (fun _ _ => trivial) (fun _ _ _ => rfl)
  obtain ⟨a6, c6, hv6⟩ := OwnsC.len hO6
  subst hv6
  have cp := dput_any t _ w6 (HT.out w6 b16) (by have := HG.out.1; omega) (j : Int) [posB j] _ hR6 (by simp)
  obtain ⟨o1, o2⟩ := put_own hj Hf.out.symm HN.out
  rw [o1, o2] at cp
  simp only [List.length_cons, List.length_nil, Nat.zero_add] at cp ⊢
  obtain ⟨y0, y1, y2, y3, y4, y5, _⟩ := (HC.out w6 b16).cells
  clear hO6 b6 b15 hR6 o1 o2
  go_wp2_with fail
  refine cp.mono ?_
  rintro e w7 ⟨v7, rfl, hv7, b7⟩
  clear cp y0 y1 y2 y3 y4 y5
  have b17 : Below w1.heap.size w1 w7 := b16.trans (b7.mono b16.size)
  obtain ⟨ra7, rc7, ka7, kc7, sa7, sc7, rfl, ht7⟩ := hv7.form
  obtain ⟨w8, hw8⟩ : ∃ W, W = w7.alloc (.cells #[.int .i64 t.kind, .int .i64 t.n, .string t.name, .slice ra7 t.r.length rc7, .slice ka7 t.kids.length kc7, .slice sa7 t.sys.length sc7] 26) := ⟨_, rfl⟩
  obtain ⟨B7, hB7⟩ : ∃ V, V = w7.heap.size := ⟨_, rfl⟩
  have bw8 : Below w7.heap.size w7 w8 := by rw [hw8]; exact belowA _ _
  have nw8 : Six w8 B7 (.int .i64 t.kind) (.int .i64 t.n) (.string t.name) (.slice ra7 t.r.length rc7) (.slice ka7 t.kids.length kc7) (.slice sa7 t.sys.length sc7) := ⟨by rw [hw8, hB7]; exact heapNew _ _⟩
  have b1w8 : Below w1.heap.size w1 w8 := b17.trans (bw8.mono b17.size)
  have HA7 : Hid (∀ W, Below w8.heap.size w8 W → Six W B7 (.int .i64 t.kind) (.int .i64 t.n) (.string t.name) (.slice ra7 t.r.length rc7) (.slice ka7 t.kids.length kc7) (.slice sa7 t.sys.length sc7) ∧ TmIn Tt W t (.agg #[.int .i64 t.kind, .int .i64 t.n, .string t.name, .slice ra7 t.r.length rc7, .slice ka7 t.kids.length kc7, .slice sa7 t.sys.length sc7])) := fun W q => ⟨nw8.blw q, (((ht7.blw bw8).blw q).value.up fun _ _ => trivial)⟩
  have Hw8 : Hid (_ = _) := hw8
  have HBB7 : Hid (B7 = w7.heap.size) := hB7
  clear hw8 hB7 nw8 ht7 hv7
  go_upto_region 9 with fail
  simp only [← HBB7.out]
  rw [← Hw8.out]
  clear Hw8
  have cs := rsame_any _ t t true _ _ w8 (HA7.out w8 (Below.refl _ _)).2 (HT.out w8 b1w8) (Nat.le_refl _) (by have := HG.out.1; omega) (by simp)
  obtain ⟨y0, y1, y2, y3, y4, y5, _⟩ := (HA7.out w8 (Below.refl _ _)).1.cells
  obtain ⟨x0, x1, x2, x3, x4, x5, _⟩ := (HC.out w8 b1w8).cells
  go_wp2_with fail
  refine cs.mono ?_
  rintro e w9 ⟨rfl, b9⟩
  clear cs y0 y1 y2 y3 y4 y5 x0 x1 x2 x3 x4 x5
  have b19 : Below w1.heap.size w1 w9 := b1w8.trans (b9.mono b1w8.size)
  clear b17 b1w8 b9 bw8 HA7
  -- Dims
  have cl := ldims_any lAll t _ w9 (HT.out w9 b19) (by have := HG.out.1; omega) (j : Int) 1 HiI.out
  have HDs : Hid (dimsE (j : Int) 1 t = 0 → erT (sd (j : Int)) t 0 0 = 0 ∧ dimsT (j : Int) 1 t = liT (sd (j : Int)) t 0 0) := dimsE_self
  obtain ⟨g, hg⟩ : ∃ g, g = dimsE (j : Int) 1 t := ⟨_, rfl⟩
  obtain ⟨Xt, hXt⟩ : ∃ g, g = dimsT (j : Int) 1 t := ⟨_, rfl⟩
  rw [← hg, ← hXt] at cl HDs
  obtain ⟨y0, y1, y2, y3, y4, y5, _⟩ := (HC.out w9 b19).cells
  clear hg hXt
  go_wp2_with fail
  refine cl.mono ?_
  rintro e w10 ⟨v10, rfl, hv10, b10⟩
  clear cl y0 y1 y2 y3 y4 y5
  have b110 : Below w1.heap.size w1 w10 := b19.trans (b10.mono b19.size)
  obtain ⟨rax, rcx, kax, kcx, sax, scx, rfl, htx⟩ := hv10.form
  obtain ⟨w11, hw11⟩ : ∃ W, W = w10.alloc (.cells #[.int .i64 Xt.kind, .int .i64 Xt.n, .string Xt.name, .slice rax Xt.r.length rcx, .slice kax Xt.kids.length kcx, .slice sax Xt.sys.length scx] 26) := ⟨_, rfl⟩
  obtain ⟨Bx, hBx⟩ : ∃ V, V = w10.heap.size := ⟨_, rfl⟩
  have bw11 : Below w10.heap.size w10 w11 := by rw [hw11]; exact belowA _ _
  have nw11 : Six w11 Bx (.int .i64 Xt.kind) (.int .i64 Xt.n) (.string Xt.name) (.slice rax Xt.r.length rcx) (.slice kax Xt.kids.length kcx) (.slice sax Xt.sys.length scx) := ⟨by rw [hw11, hBx]; exact heapNew _ _⟩
  have b1w11 : Below w1.heap.size w1 w11 := b110.trans (bw11.mono b110.size)
  have HAx : Hid (∀ W, Below w11.heap.size w11 W → Six W Bx (.int .i64 Xt.kind) (.int .i64 Xt.n) (.string Xt.name) (.slice rax Xt.r.length rcx) (.slice kax Xt.kids.length kcx) (.slice sax Xt.sys.length scx) ∧ TmIn Tt W Xt (.agg #[.int .i64 Xt.kind, .int .i64 Xt.n, .string Xt.name, .slice rax Xt.r.length rcx, .slice kax Xt.kids.length kcx, .slice sax Xt.sys.length scx])) := fun W q => ⟨nw11.blw q, (((htx.blw bw11).blw q).value.up fun _ _ => trivial)⟩
  have Hw11 : Hid (_ = _) := hw11
  have HBBx : Hid (Bx = w10.heap.size) := hBx
  clear hw11 hBx nw11 htx hv10
  go_upto_region 12 with fail
  simp only [← HBBx.out]
  rw [← Hw11.out]
  clear Hw11
  have cL := Lift_any r (j : Int) 1 _ w11 (HR.out w11 b1w11).frow (by have := HG.out.2; have := HLR.out; omega)
  have HLf : Hid ((liftFF r (j : Int) 1).2 = 0 → g = 0 → takE (j : Int) r Xt = 0 ∧ takT (j : Int) r Xt = t ∧ blk Xt ≤ 200) := fun h1 h2 => by
    obtain ⟨q1, q2⟩ := HDs.out h2
    rw [q2]
    obtain ⟨q3, q4⟩ := take_li hj Hf.out.symm HN.out q1 h1
    exact ⟨q3, q4, by have := blk_li (s := sd (j : Int)) _ t 0 0 (Nat.le_refl _); have := HG.out.1; omega⟩
  obtain ⟨lf, hlf⟩ : ∃ l, l = liftFF r (j : Int) 1 := ⟨_, rfl⟩
  rw [← hlf] at cL HLf
  obtain ⟨Rl, el⟩ := lf
  dsimp only at cL HLf
  clear hlf HDs
  go_wp2_with fail
  refine cL.mono ?_
  rintro e w12 ⟨v12, rfl, hO12, b12⟩
  clear cL
  have b112 : Below w1.heap.size w1 w12 := b1w11.trans (b12.mono b1w11.size)
  obtain ⟨a12, c12, hv12⟩ := OwnsC.len hO12
  subst hv12
  clear hO12
  by_cases hz : g = 0
  rotate_left
  · have hz1 : (g == 0) = false := by simpa using hz
    have hF := HB.out w12 b112
    go_wp2_with fail
    go_ret
    exact ⟨rfl, hF⟩
  subst hz
  by_cases hz : el = 0
  rotate_left
  · have hz1 : (el == 0) = false := by simpa using hz
    have hF := HB.out w12 b112
    go_wp2_with fail
    go_ret
    exact ⟨rfl, hF⟩
  subst hz
  obtain ⟨q1, q2, q3⟩ := HLf.out rfl rfl
  have ct := dtake_any Xt _ w12 (HAx.out w12 b12).2 (by omega) (j : Int) r _ (HR.out w12 b112) (by have := HG.out.2; have := HLR.out; omega) (by
    have h1 := (cap_ge (ansD (putOp (j : Int) (liftFF r (j : Int) 1).1) Xt)).1
    have h2 := cap_ans (putOp_len (j : Int) (liftFF r (j : Int) 1).1) Xt
    have h3 := (cap_ge Xt).2
    omega)
  rw [q1, q2] at ct
  obtain ⟨y0, y1, y2, y3, y4, y5, _⟩ := (HAx.out w12 b12).1.cells
  clear HLf q1 q2 q3
  go_wp2_with fail
  refine ct.mono ?_
  rintro e w13 ⟨v13, rfl, hv13, b13⟩
  clear ct y0 y1 y2 y3 y4 y5
  have b113 : Below w1.heap.size w1 w13 := b112.trans (b13.mono b112.size)
  obtain ⟨raz, rcz, kaz, kcz, saz, scz, rfl, htz⟩ := hv13.form
  obtain ⟨w14, hw14⟩ : ∃ W, W = w13.alloc (.cells #[.int .i64 t.kind, .int .i64 t.n, .string t.name, .slice raz t.r.length rcz, .slice kaz t.kids.length kcz, .slice saz t.sys.length scz] 26) := ⟨_, rfl⟩
  obtain ⟨Bz, hBz⟩ : ∃ V, V = w13.heap.size := ⟨_, rfl⟩
  have bw14 : Below w13.heap.size w13 w14 := by rw [hw14]; exact belowA _ _
  have nw14 : Six w14 Bz (.int .i64 t.kind) (.int .i64 t.n) (.string t.name) (.slice raz t.r.length rcz) (.slice kaz t.kids.length kcz) (.slice saz t.sys.length scz) := ⟨by rw [hw14, hBz]; exact heapNew _ _⟩
  have b1w14 : Below w1.heap.size w1 w14 := b113.trans (bw14.mono b113.size)
  have HAz : Hid (∀ W, Below w14.heap.size w14 W → Six W Bz (.int .i64 t.kind) (.int .i64 t.n) (.string t.name) (.slice raz t.r.length rcz) (.slice kaz t.kids.length kcz) (.slice saz t.sys.length scz) ∧ TmIn Tt W t (.agg #[.int .i64 t.kind, .int .i64 t.n, .string t.name, .slice raz t.r.length rcz, .slice kaz t.kids.length kcz, .slice saz t.sys.length scz])) := fun W q => ⟨nw14.blw q, (((htz.blw bw14).blw q).value.up fun _ _ => trivial)⟩
  have Hw14 : Hid (_ = _) := hw14
  have HBBz : Hid (Bz = w13.heap.size) := hBz
  clear hw14 hBz nw14 htz hv13
  go_upto_region 16 with fail
  simp only [← HBBz.out]
  rw [← Hw14.out]
  clear Hw14
  have cs := rsame_any _ t t true _ _ w14 (HAz.out w14 (Below.refl _ _)).2 (HT.out w14 b1w14) (Nat.le_refl _) (by have := HG.out.1; omega) (by simp)
  obtain ⟨y0, y1, y2, y3, y4, y5, _⟩ := (HAz.out w14 (Below.refl _ _)).1.cells
  obtain ⟨x0, x1, x2, x3, x4, x5, _⟩ := (HC.out w14 b1w14).cells
  go_wp2_with fail
  refine cs.mono ?_
  rintro e w15 ⟨rfl, b15⟩
  clear cs y0 y1 y2 y3 y4 y5 x0 x1 x2 x3 x4 x5
  have hF := HB.out w15 (b1w14.trans (b15.mono b1w14.size))
  go_wp2_with fail
  go_ret
  exact ⟨rfl, hF⟩
end Go.Proofs.YtjimednocmdpnaaGreat

