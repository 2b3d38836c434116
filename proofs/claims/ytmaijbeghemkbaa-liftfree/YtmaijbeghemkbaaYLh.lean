/- What was lifted from a place on by 1: mathematics; binders. -/
import Derived.Test.YtmaijbeghemkbaaYLgF
import Derived.Deep.DeepCutAuto
import Derived.Lib.MinMax
import Derived.Test.YtmaijbeghemkbaaYKinds
import Derived.Test.YtmaijbeghemkbaaYLgL
import Derived.Test.YtmaijbeghemkbaaYMoreM
import Derived.Test.YtmaijbeghemkbaaYDims
namespace Go.Proofs.Ytmaijbeghemkbaa
open Go.RowKit
set_option linter.unusedVariables false
set_option linter.unusedSimpArgs false

/-! ### YLhM -/
/-- From a place on by 1: variables; dimensions. -/
def sv (p : Int) : Sf := ⟨p, 1, 0, 0⟩
def sd (p : Int) : Sf := ⟨0, 0, p, 1⟩
theorem numV_sv (p : Int) (bv : Nat) (k n : Int) : numV (sv p) bv k n = if k = 1 ∧ p ≤ n - (bv : Int) then n + 1 else n := by
  have e : farB (sv p) bv k n ↔ (k = 1 ∧ p ≤ n - (bv : Int)) := Iff.rfl
  unfold numV
  by_cases h : farB (sv p) bv k n
  · rw [if_pos h, if_pos (e.1 h)]; rfl
  · rw [if_neg h, if_neg (fun g => h (e.2 g))]
theorem numE_sv (p : Int) (bv : Nat) (k n : Int) : numE (sv p) bv k n = if (k = 1 ∧ p ≤ n - (bv : Int)) ∧ 999999999 < n then 100 else 0 := by
  have e : (farB (sv p) bv k n ∧ 1000000000 - (sv p).vb < n) ↔ ((k = 1 ∧ p ≤ n - (bv : Int)) ∧ 999999999 < n) := by
    show (farB (sv p) bv k n ∧ (1000000000 : Int) - 1 < n) ↔ _
    unfold farB
    exact Iff.rfl
  unfold numE
  by_cases h : farB (sv p) bv k n ∧ 1000000000 - (sv p).vb < n
  · rw [if_pos h, if_pos (e.1 h)]
  · rw [if_neg h, if_neg (fun g => h (e.2 g))]
theorem numV_sd (p : Int) (bv : Nat) (k n : Int) : numV (sd p) bv k n = n := by
  unfold numV
  split
  · show n + 0 = n; omega
  · rfl
theorem ok_num {o : Bool} {V : Int} {D : Nat} {t : Tm} {bv bd : Nat} (h : okT o V D t bv bd = true) : numB o V bv t.kind t.n = true := by
  rw [ok_eq, Bool.and_eq_true] at h
  have h1 := h.1
  unfold Tm.node nodeB at h1
  simp only [Bool.and_eq_true] at h1
  exact h1.1.1.1.2
theorem ok_low {V : Int} {D : Nat} {t : Tm} {bv bd : Nat} (h : okT false V D t bv bd = true) (hV : V ≤ 1000) (hk : t.kind = 1) : t.n < 1000 + bv := by
  have := ok_num h
  unfold numB at this
  rw [if_pos hk] at this
  simp at this
  omega
theorem ok_kid {o : Bool} {V : Int} {D : Nat} {t : Tm} {bv bd i : Nat} {x : Tm} (h : okT o V D t bv bd = true) (hx : t.kids[i]? = some x) : okT o V D x (bv + bvK t.kind i) (bd + bdK t.kind i) = true := by
  rw [ok_eq, Bool.and_eq_true, List.all_eq_true] at h
  exact h.2 _ (pts_kid hx)
theorem ok_sub {o : Bool} {V : Int} {D : Nat} {t : Tm} {bv bd : Nat} {b : List C × List Tm} {x : Tm} (h : okT o V D t bv bd = true) (hb : b ∈ t.sys) (hx : x ∈ b.2) : okT o V D x bv (bd + moreK t.kind) = true := by
  rw [ok_eq, Bool.and_eq_true, List.all_eq_true] at h
  exact h.2 _ (pts_sys hb hx)
theorem er_sv {p V : Int} {D : Nat} (hV : V ≤ 1000) : ∀ (n : Nat) (t : Tm) (bv bd : Nat), blk t ≤ n → bv + blk t ≤ 1000000 → okT false V D t bv bd = true → erT (sv p) t bv bd = 0
  | 0, t, bv, bd, hn, _, h => by have := blk_pos t; omega
  | n + 1, t, bv, bd, hn, hb, h => by
    rw [er_eq, firstE_zero]
    intro e he
    simp only [List.mem_cons, List.mem_append] at he
    rcases he with rfl | rfl | he | he
    · rw [numE_sv, if_neg (fun g => by have := ok_low h hV g.1.1; omega)]
    · rw [rowP_zero (s := sv p) rfl]
    · obtain ⟨q, hq, rfl⟩ := List.mem_map.1 he
      have hx := List.mem_zipIdx_iff_getElem?.1 hq
      have := blk_kid (zip_mem hq)
      have := bvK_le t.kind q.2
      exact er_sv hV n q.1 _ _ (by omega) (by omega) (ok_kid h hx)
    · obtain ⟨b, hbm, rfl⟩ := List.mem_map.1 he
      unfold erB
      rw [firstE_zero]
      intro e he
      rcases List.mem_cons.1 he with rfl | he
      · rw [rowP_zero (s := sv p) rfl]
      · obtain ⟨x, hx, rfl⟩ := List.mem_map.1 he
        have := blk_sub hbm hx
        exact er_sv hV n x _ _ (by omega) (by omega) (ok_sub h hbm hx)
/-- The parts of what was lifted. -/
theorem pts_li {s : Sf} {t : Tm} {bv bd : Nat} {q : Tm × Nat × Nat} (h : q ∈ (liT s t bv bd).pts) : (∃ i x, t.kids[i]? = some x ∧ q = (liT s x (bv + bvK t.kind i) (bd + bdK t.kind i), bvK t.kind i, bdK t.kind i)) ∨ ∃ b ∈ t.sys, ∃ x ∈ b.2, q = (liT s x bv (bd + moreK t.kind), 0, moreK t.kind) := by
  have hc := li_eq s t bv bd
  rcases mem_pts h with ⟨i, hi, e⟩ | ⟨b, hb, hx, e⟩
  · rw [hc] at hi e
    dsimp only at hi e
    obtain ⟨x, hx⟩ := someL (l := t.kids) (k := i) (by have := some_lt hi; rwa [liK_len] at this)
    rw [liK_get hx] at hi
    injection hi with hi
    exact .inl ⟨i, x, hx, by rw [hi, ← e]⟩
  · rw [hc] at hb e
    dsimp only at hb e
    obtain ⟨c, hcm, rfl⟩ := List.mem_map.1 hb
    obtain ⟨x, hxm, e2⟩ := List.mem_map.1 hx
    exact .inr ⟨c, hcm, x, hxm, by rw [e2, ← e]⟩
theorem us_sv {p : Int} : ∀ (n : Nat) (t : Tm) (bv bd : Nat), blk t ≤ n → usT p (liT (sv p) t bv bd) bv = false
  | 0, t, bv, bd, hn => by have := blk_pos t; omega
  | n + 1, t, bv, bd, hn => by
    rw [us_eq, Bool.or_eq_false_iff]
    refine ⟨?_, ?_⟩
    · rw [li_eq]; dsimp only
      rw [numV_sv]
      by_cases hk : t.kind = 1
      · have : ¬ ((if t.kind = 1 ∧ p ≤ t.n - (bv : Int) then t.n + 1 else t.n) = p + (bv : Int)) := by split <;> omega
        simp [this]
      · simp [hk]
    · rw [Bool.eq_false_iff, ne_eq, List.any_eq_true]
      rintro ⟨q, hq, hu⟩
      rcases pts_li hq with ⟨i, x, hx, rfl⟩ | ⟨b, hb, x, hx, rfl⟩
      · dsimp only at hu
        rw [us_sv n x _ _ (by have := blk_kid (List.mem_of_getElem? hx); omega)] at hu
        cases hu
      · dsimp only [Nat.add_zero] at hu
        rw [us_sv n x _ _ (by have := blk_sub hb hx; omega)] at hu
        cases hu
theorem size_li {s : Sf} : ∀ (n : Nat) (t : Tm) (bv bd : Nat), blk t ≤ n → sizeT (liT s t bv bd) = sizeT t
  | 0, t, bv, bd, hn => by have := blk_pos t; omega
  | n + 1, t, bv, bd, hn => by
    have e := size_eq (liT s t bv bd)
    rw [li_eq] at e
    rw [li_eq, e, size_eq t]
    dsimp only
    have h2 : szL (liK s t.kind t.kids bv bd) = szL t.kids := by
      unfold szL liK
      rw [List.map_map]
      have : t.kids.zipIdx.map (sizeT ∘ fun p => liT s p.1 (bv + bvK t.kind p.2) (bd + bdK t.kind p.2)) = t.kids.zipIdx.map (fun p => sizeT p.1) := map_congr_mem fun p hp => size_li n p.1 _ _ (by have := blk_kid (zip_mem hp); omega)
      rw [this]
      congr 1
      refine List.ext_getElem? fun i => ?_
      simp only [List.getElem?_map, List.getElem?_zipIdx]
      cases t.kids[i]? <;> simp
    have h3 : szS (t.sys.map fun b => liB s t.kind b bv bd) = szS t.sys := by
      unfold szS
      rw [List.map_map]
      congr 1
      refine map_congr_mem fun b hb => ?_
      show szL (b.2.map fun x => liT s x bv (bd + moreK t.kind)) = szL b.2
      unfold szL
      rw [List.map_map]
      congr 1
      exact map_congr_mem fun x hx => size_li n x _ _ (by have := blk_sub hb hx; omega)
    rw [h2, h3]
/-- One variable more. -/
theorem ok_sv {p V : Int} {D : Nat} (hp : 0 ≤ p) : ∀ (n : Nat) (t : Tm) (bv bd : Nat), blk t ≤ n → okT false V D t bv bd = true → okT false (V + 1) D (liT (sv p) t bv bd) bv bd = true
  | 0, t, bv, bd, hn, h => by have := blk_pos t; omega
  | n + 1, t, bv, bd, hn, h => by
    have hc := li_eq (sv p) t bv bd
    have h' := h
    rw [ok_eq, Bool.and_eq_true, List.all_eq_true] at h ⊢
    obtain ⟨h1, h2⟩ := h
    unfold Tm.node nodeB at h1 ⊢
    simp only [Bool.and_eq_true] at h1 ⊢
    obtain ⟨⟨⟨⟨⟨a1, a2⟩, a3⟩, a4⟩, a5⟩, a6⟩ := h1
    refine ⟨⟨⟨⟨⟨⟨a1, ?_⟩, ?_⟩, ?_⟩, ?_⟩, ?_⟩, ?_⟩
    · rw [hc]; dsimp only; rw [liK_len]; exact a2
    · rw [hc]; dsimp only
      unfold numB at a3 ⊢
      rw [numV_sv]
      by_cases hk : t.kind = 1
      · rw [if_pos hk] at a3 ⊢
        simp at a3 ⊢
        split <;> omega
      · rw [if_neg hk] at a3 ⊢
        rw [if_neg (fun g => hk g.1)]
        exact a3
    · rw [hc]; exact a4
    · rw [hc]; dsimp only; rw [rowP_zero (s := sv p) rfl]; exact a5
    · rw [hc]; dsimp only
      have : ((t.sys.map fun b => liB (sv p) t.kind b bv bd).map fun b => (b.1, b.2.length)) = t.sys.map fun b => (b.1, b.2.length) := by
        rw [List.map_map]
        exact map_congr_mem fun b hb => by
          show ((rowP (sv p) bd b.1).1, (b.2.map fun x => liT (sv p) x bv (bd + moreK t.kind)).length) = _
          rw [rowP_zero (s := sv p) rfl, List.length_map]
      rw [this]; exact a6
    · intro q hq
      rcases pts_li hq with ⟨i, x, hx, rfl⟩ | ⟨b, hb, x, hx, rfl⟩
      · exact ok_sv hp n x _ _ (by have := blk_kid (List.mem_of_getElem? hx); omega) (ok_kid h' hx)
      · exact ok_sv hp n x _ _ (by have := blk_sub hb hx; omega) (ok_sub h' hb hx)
/-! ### YLhD -/
theorem rightC_lift (c : C) (fr by_ : Int) : rightC (liftC c fr by_) = true := by
  unfold liftC
  split
  · have h1 := liftN_lt c.1.val fr by_
    have h2 := liftN_lt c.2.val fr by_
    exact rightC_iff.2 ⟨h1, h2⟩
  · decide
theorem liftE_cases {s : Nat} {fr by_ : Int} (h1 : 0 ≤ fr) (h2 : 0 ≤ by_) : liftE s fr by_ = 0 ∨ liftE s fr by_ = 10 := by
  have ha : argB fr by_ = false := by unfold argB; simp; omega
  unfold liftE
  rw [ha]
  simp only [Bool.false_eq_true, if_false]
  split
  · exact .inr rfl
  · exact .inl rfl
theorem liftCE_cases {c : C} {fr by_ : Int} (h : rightC c = true) (h1 : 0 ≤ fr) (h2 : 0 ≤ by_) : liftCE c fr by_ = 0 ∨ liftCE c fr by_ = 10 := by
  unfold liftCE
  rw [if_pos h]
  split
  · exact liftE_cases h1 h2
  · rename_i hne
    exact .inr ((liftE_cases h1 h2).resolve_left hne)
theorem liftS_err {fr by_ : Int} (h1 : 0 ≤ fr) (h2 : 0 ≤ by_) : ∀ l : List C, (∀ c ∈ l, rightC c = true) → (liftS l fr by_).2 = 0 ∨ (liftS l fr by_).2 = 10 := by
  intro l
  induction l using snoc_ind with
  | nil => intro _; exact .inl rfl
  | snoc l d ih =>
    intro h
    rw [liftS_snoc]
    unfold stepL
    split
    · split
      · exact .inl rfl
      · rename_i hne; exact .inr ((liftCE_cases (h d (by simp)) h1 h2).resolve_left hne)
    · exact ih fun c hc => h c (by simp [hc])
theorem fr_ge (p : Int) (bd : Nat) (hp : 0 ≤ p) : 0 ≤ min p 24 + (bd : Int) := by omega
theorem row_err {p : Int} (hp : 0 ≤ p) (bd : Nat) {r : List C} (h : rightF r = true) : (rowP (sd p) bd r).2 = 0 ∨ (rowP (sd p) bd r).2 = 10 := by
  have e : rowP (sd p) bd r = liftFF r (min p 24 + bd) 1 := by unfold rowP; rw [if_neg (show ¬ (sd p).db = 0 from (by decide : ¬ (1 : Int) = 0))]; rfl
  rw [e]
  unfold liftFF
  rw [if_pos h]
  have ha : ∀ c ∈ r, rightC c = true := fun c hc => List.all_eq_true.1 (rightF_all h) c hc
  split
  · left
    rw [leastF_small (List.all_eq_true.2 fun c hc => by obtain ⟨d, _, rfl⟩ := liftS_mem r c hc; exact rightC_lift _ _ _) (Nat.le_trans (liftS_len r _ _) (rightF_len h))]
  · rename_i hne
    exact .inr ((liftS_err (fr_ge p bd hp) (by decide) r ha).resolve_left hne)
/-- The dimensions of a row that was lifted. -/
theorem row_in {p : Int} (bd : Nat) {r : List C} {k : Nat} (hk : inF (rowP (sd p) bd r).1 k = true) : ∃ j, j < 24 ∧ inF r j = true ∧ k = upK (min p 24 + bd) 1 j := by
  have e : rowP (sd p) bd r = liftFF r (min p 24 + bd) 1 := by unfold rowP; rw [if_neg (show ¬ (sd p).db = 0 from (by decide : ¬ (1 : Int) = 0))]; rfl
  rw [e] at hk
  unfold inF at hk
  obtain ⟨c, hc, hb⟩ := List.any_eq_true.1 hk
  have hm : ∃ d ∈ r, c = liftC d (min p 24 + bd) 1 := by
    unfold liftFF at hc
    by_cases h1 : rightF r = true
    · rw [if_pos h1] at hc
      by_cases h2 : (liftS r (min p 24 + ↑bd) 1).2 = 0
      · rw [if_pos h2] at hc
        exact liftS_mem r c (leastF_sub c hc)
      · rw [if_neg h2] at hc; simp at hc
    · rw [if_neg h1] at hc; simp at hc
  obtain ⟨d, hd, rfl⟩ := hm
  unfold liftC at hb
  by_cases hr : rightC d = true ∧ liftE d.1.val (min p 24 + bd) 1 = 0 ∧ liftE d.2.val (min p 24 + bd) 1 = 0
  · rw [if_pos hr] at hb
    rw [Bool.or_eq_true] at hb
    rcases hb with hb | hb
    · obtain ⟨j, hj, e⟩ := liftN_bit hr.2.1 k hb
      rw [mem_dimsOf] at hj
      exact ⟨j, hj.1, List.any_eq_true.2 ⟨d, hd, by rw [hj.2]; rfl⟩, e.symm⟩
    · obtain ⟨j, hj, e⟩ := liftN_bit hr.2.2 k hb
      rw [mem_dimsOf] at hj
      exact ⟨j, hj.1, List.any_eq_true.2 ⟨d, hd, by rw [hj.2]; simp⟩, e.symm⟩
  · rw [if_neg hr] at hb
    simp [cl00] at hb
theorem row_free {p : Int} (hp : 0 ≤ p) (hp2 : p < 24) (bd : Nat) (r : List C) : (dimsN (rowP (sd p) bd r).1).testBit (p.toNat + bd) = false := by
  rw [dimsN_bit, Bool.eq_false_iff]
  intro h
  rw [Bool.and_eq_true] at h
  obtain ⟨j, _, _, e⟩ := row_in bd h.2
  unfold upK at e
  split at e <;> omega
theorem row_reach {p : Int} {e bd : Nat} {r : List C} (h : reachB false e r = true) : reachB false (e + 1) (rowP (sd p) bd r).1 = true := by
  unfold reachB at h ⊢
  simp only [Bool.false_or, decide_eq_true_eq] at h ⊢
  have hlt : dimsN r < 2 ^ e := by
    rcases Nat.lt_or_ge (dimsN r) (2 ^ e) with h1 | h1
    · exact h1
    · have := Nat.div_pos h1 (Nat.two_pow_pos e); omega
  refine Nat.div_eq_of_lt (Nat.lt_pow_two_of_testBit _ fun i hi => ?_)
  rw [dimsN_bit, Bool.eq_false_iff]
  intro hb
  rw [Bool.and_eq_true] at hb
  obtain ⟨j, hj, hin, e1⟩ := row_in bd hb.2
  have : (dimsN r).testBit j = true := by rw [dimsN_bit, hin]; simp [hj]
  have hje : j < e := by
    rcases Nat.lt_or_ge j e with h1 | h1
    · exact h1
    · rw [Nat.testBit_lt_two_pow (Nat.lt_of_lt_of_le hlt (Nat.pow_le_pow_right (by omega) h1))] at this; cases this
  have hu : upK (min p 24 + bd) 1 j ≤ j + 1 := by unfold upK; split <;> simp
  omega
theorem ok_row {o : Bool} {V : Int} {D : Nat} {t : Tm} {bv bd : Nat} (h : okT o V D t bv bd = true) : rightF t.r = true := by
  rw [ok_eq, Bool.and_eq_true] at h
  have h1 := h.1
  unfold Tm.node nodeB at h1
  simp only [Bool.and_eq_true] at h1
  have h2 := h1.1.2
  unfold rowB at h2
  split at h2
  · simp only [Bool.and_eq_true] at h2; exact h2.1
  · split at h2
    · simp only [Bool.and_eq_true] at h2; exact rightA_right h2.1
    · have h3 : t.r = [] := List.length_eq_zero_iff.1 (by simpa using h2)
      rw [h3]; exact rightF_nil
theorem ok_face {o : Bool} {V : Int} {D : Nat} {t : Tm} {bv bd : Nat} {b : List C × List Tm} (h : okT o V D t bv bd = true) (hb : b ∈ t.sys) : rightA b.1 = true := by
  rw [ok_eq, Bool.and_eq_true] at h
  have h1 := h.1
  unfold Tm.node nodeB at h1
  simp only [Bool.and_eq_true] at h1
  have h2 := List.all_eq_true.1 h1.2 (b.1, b.2.length) (List.mem_map.2 ⟨b, hb, rfl⟩)
  unfold brB at h2
  simp only [Bool.and_eq_true] at h2
  exact h2.1.2
theorem er_sd {p V : Int} {D : Nat} (hp : 0 ≤ p) (hV : V ≤ 1000) : ∀ (n : Nat) (t : Tm) (bv bd : Nat), blk t ≤ n → bv + blk t ≤ 1000000 → okT false V D t bv bd = true → erT (sd p) t bv bd = 0 ∨ erT (sd p) t bv bd = 10
  | 0, t, bv, bd, hn, _, h => by have := blk_pos t; omega
  | n + 1, t, bv, bd, hn, hb, h => by
    by_cases h0 : erT (sd p) t bv bd = 0
    · exact .inl h0
    · rw [er_eq] at h0 ⊢
      have hm := firstE_mem h0
      simp only [List.mem_cons, List.mem_append] at hm
      rcases hm with e | e | hm | hm
      · exfalso
        rw [e] at h0
        apply h0
        have e2 : sd p = ⟨0, 0, p, 1⟩ := rfl
        unfold numE
        rw [if_neg (fun g => by have := ok_low h hV g.1.1; have g2 : (1000000000 : Int) - 0 < t.n := g.2; omega)]
      · rw [e] at h0 ⊢; exact row_err hp bd (ok_row h)
      · obtain ⟨q, hq, e⟩ := List.mem_map.1 hm
        rw [← e]
        have hx := List.mem_zipIdx_iff_getElem?.1 hq
        have := blk_kid (zip_mem hq)
        have := bvK_le t.kind q.2
        exact er_sd hp hV n q.1 _ _ (by omega) (by omega) (ok_kid h hx)
      · obtain ⟨b, hbm, e⟩ := List.mem_map.1 hm
        rw [← e] at h0 ⊢
        unfold erB at h0 ⊢
        have hm2 := firstE_mem h0
        rcases List.mem_cons.1 hm2 with e2 | hm2
        · rw [e2]; exact row_err hp bd (rightA_right (ok_face h hbm))
        · obtain ⟨x, hx, e2⟩ := List.mem_map.1 hm2
          rw [← e2]
          have := blk_sub hbm hx
          exact er_sd hp hV n x _ _ (by omega) (by omega) (ok_sub h hbm hx)
theorem hs_sd {p : Int} (hp : 0 ≤ p) (hp2 : p < 24) : ∀ (n : Nat) (t : Tm) (bv bd : Nat), blk t ≤ n → hsT (liT (sd p) t bv bd) (p.toNat + bd) = false
  | 0, t, bv, bd, hn => by have := blk_pos t; omega
  | n + 1, t, bv, bd, hn => by
    have hc := li_eq (sd p) t bv bd
    rw [hs_eq, Bool.or_eq_false_iff, Bool.or_eq_false_iff]
    refine ⟨⟨?_, ?_⟩, ?_⟩
    · rw [hc]; exact row_free hp hp2 bd t.r
    · rw [hc]; dsimp only
      rw [Bool.eq_false_iff, ne_eq, List.any_eq_true]
      rintro ⟨b, hb, hu⟩
      obtain ⟨c, hcm, rfl⟩ := List.mem_map.1 hb
      have : (dimsN (rowP (sd p) bd c.1).1).testBit (p.toNat + bd) = true := hu
      rw [row_free hp hp2] at this
      cases this
    · rw [Bool.eq_false_iff, ne_eq, List.any_eq_true]
      rintro ⟨q, hq, hu⟩
      rcases pts_li hq with ⟨i, x, hx, rfl⟩ | ⟨b, hb, x, hx, rfl⟩
      · dsimp only at hu
        rw [Nat.add_assoc, hs_sd hp hp2 n x _ _ (by have := blk_kid (List.mem_of_getElem? hx); omega)] at hu
        cases hu
      · dsimp only at hu
        rw [Nat.add_assoc, hs_sd hp hp2 n x _ _ (by have := blk_sub hb hx; omega)] at hu
        cases hu
/-- How many binders of dimensions stand one in the other. -/
def bnT : Tm → Nat := Tm.fold fun k _ _ _ ks sys => max (maxL (ks.zipIdx.map fun p => bdK k p.2 + p.1)) (maxL (sys.map fun b => maxL (b.2.map (1 + ·))))
theorem bn_eq (t : Tm) : bnT t = max (maxL (t.kids.zipIdx.map fun p => bdK t.kind p.2 + bnT p.1)) (maxL (t.sys.map fun b => maxL (b.2.map fun x => 1 + bnT x))) := by
  unfold bnT
  rw [fold_mk]
  simp only [List.zipIdx_map, List.map_map, Function.comp_def, Prod.map]
  rfl
theorem bn_kid {t : Tm} {i : Nat} {x : Tm} (h : t.kids[i]? = some x) : bdK t.kind i + bnT x ≤ bnT t := by
  rw [bn_eq t]
  have := maxL_mem (List.mem_map.2 ⟨(x, i), List.mem_zipIdx_iff_getElem?.2 h, rfl⟩ : bdK t.kind i + bnT x ∈ t.kids.zipIdx.map fun p => bdK t.kind p.2 + bnT p.1)
  omega
theorem bn_sub {t : Tm} {b : List C × List Tm} {x : Tm} (hb : b ∈ t.sys) (hx : x ∈ b.2) : 1 + bnT x ≤ bnT t := by
  rw [bn_eq t]
  have h1 := maxL_mem (List.mem_map.2 ⟨x, hx, rfl⟩ : 1 + bnT x ∈ b.2.map fun x => 1 + bnT x)
  have h2 := maxL_mem (List.mem_map.2 ⟨b, hb, rfl⟩ : maxL (b.2.map fun x => 1 + bnT x) ∈ t.sys.map fun b => maxL (b.2.map fun x => 1 + bnT x))
  omega
/-- One dimension more. -/
theorem ok_sd {p V : Int} {D : Nat} (hp : 0 ≤ p) : ∀ (n : Nat) (t : Tm) (bv bd : Nat), blk t ≤ n → D + bd + bnT t + 1 ≤ 24 → okT false V D t bv bd = true → okT false V (D + 1) (liT (sd p) t bv bd) bv bd = true
  | 0, t, bv, bd, hn, _, h => by have := blk_pos t; omega
  | n + 1, t, bv, bd, hn, hD, h => by
    have hc := li_eq (sd p) t bv bd
    have h' := h
    rw [ok_eq, Bool.and_eq_true, List.all_eq_true] at h ⊢
    obtain ⟨h1, h2⟩ := h
    unfold Tm.node nodeB at h1 ⊢
    simp only [Bool.and_eq_true] at h1 ⊢
    obtain ⟨⟨⟨⟨⟨a1, a2⟩, a3⟩, a4⟩, a5⟩, a6⟩ := h1
    have eD : D + 1 + bd = D + bd + 1 := by omega
    refine ⟨⟨⟨⟨⟨⟨?_, ?_⟩, ?_⟩, ?_⟩, ?_⟩, ?_⟩, ?_⟩
    · simp; omega
    · rw [hc]; dsimp only; rw [liK_len]; exact a2
    · rw [hc]; dsimp only; rw [numV_sd]; exact a3
    · rw [hc]; exact a4
    · rw [hc]; dsimp only
      rw [eD]
      unfold rowB at a5 ⊢
      split
      · rename_i hk
        rw [if_pos hk] at a5
        simp only [Bool.and_eq_true] at a5 ⊢
        exact ⟨rowP_right _ bd a5.1, row_reach a5.2⟩
      · rename_i hk
        rw [if_neg hk] at a5
        split
        · rename_i hk2
          rw [if_pos hk2] at a5
          simp only [Bool.and_eq_true] at a5 ⊢
          exact ⟨rowP_rightA (show 0 ≤ (sd p).db from (by decide : (0 : Int) ≤ 1)) bd a5.1, row_reach a5.2⟩
        · rename_i hk2
          rw [if_neg hk2] at a5
          simp only [decide_eq_true_eq] at a5 ⊢
          rw [List.length_eq_zero_iff.1 a5, rowP_nil1]; rfl
    · rw [hc]; dsimp only
      rw [List.all_eq_true] at a6 ⊢
      intro q hq
      rw [List.map_map] at hq
      obtain ⟨b, hb, rfl⟩ := List.mem_map.1 hq
      have := a6 (b.1, b.2.length) (List.mem_map.2 ⟨b, hb, rfl⟩)
      unfold brB at this ⊢
      simp only [Bool.and_eq_true] at this ⊢
      obtain ⟨⟨⟨c1, c2⟩, c3⟩, c4⟩ := this
      refine ⟨⟨⟨c1, ?_⟩, rowP_rightA (show 0 ≤ (sd p).db from (by decide : (0 : Int) ≤ 1)) bd c3⟩, ?_⟩
      · show decide (((b.2.map fun x => liT (sd p) x bv (bd + moreK t.kind)).length : Int) = partsK t.kind) = true
        rw [List.length_map]; exact c2
      · rw [eD]; exact row_reach c4
    · intro q hq
      rcases pts_li hq with ⟨i, x, hx, rfl⟩ | ⟨b, hb, x, hx, rfl⟩
      · have := bn_kid hx
        exact ok_sd hp n x _ _ (by have := blk_kid (List.mem_of_getElem? hx); omega) (by omega) (ok_kid h' hx)
      · have := bn_sub hb hx
        have := moreK_le t.kind
        exact ok_sd hp n x _ _ (by have := blk_sub hb hx; omega) (by omega) (ok_sub h' hb hx)
/-! ### YLhB -/
def bnK (k : Int) (l : List Tm) (m : Nat) : Nat := maxL ((l.zipIdx.take m).map fun p => bdK k p.2 + bnT p.1)
def bnS (l : List (List C × List Tm)) (m : Nat) : Nat := maxL ((l.take m).map fun b => maxL (b.2.map fun x => 1 + bnT x))
def bnB (l : List Tm) (m : Nat) : Nat := maxL ((l.take m).map fun x => 1 + bnT x)
theorem wrap_small (x : Int) (h1 : 0 ≤ x) (h2 : x ≤ 1000000) : wrap64 x = x := by simp [wrap64]; omega
theorem max_cast (a b : Nat) : max (a : Int) (b : Int) = ((max a b : Nat) : Int) := by omega
theorem maxL_one (a : Nat) : maxL [a] = a := by simp [maxL]
theorem bnK_step {k : Int} {l : List Tm} {m : Nat} {x : Tm} (h : l[m]? = some x) : bnK k l (m + 1) = max (bnK k l m) (bdK k m + bnT x) := by
  unfold bnK
  rw [List.take_add_one, List.getElem?_zipIdx, h]
  simp only [Option.map_some, Option.toList_some, List.map_append, List.map_cons, List.map_nil, maxL_append, maxL_one, Nat.zero_add]
theorem bnS_step {l : List (List C × List Tm)} {m : Nat} {b : List C × List Tm} (h : l[m]? = some b) : bnS l (m + 1) = max (bnS l m) (bnB b.2 b.2.length) := by
  unfold bnS bnB
  rw [List.take_add_one, h]
  simp only [Option.toList_some, List.map_append, List.map_cons, List.map_nil, maxL_append, maxL_one, List.take_length]
theorem bnB_step {l : List Tm} {m : Nat} {x : Tm} (h : l[m]? = some x) : bnB l (m + 1) = max (bnB l m) (1 + bnT x) := by
  unfold bnB
  rw [List.take_add_one, h]
  simp only [Option.toList_some, List.map_append, List.map_cons, List.map_nil, maxL_append, maxL_one]
theorem bn_all (t : Tm) : bnT t = max (bnK t.kind t.kids t.kids.length) (bnS t.sys t.sys.length) := by
  rw [bn_eq]
  unfold bnK bnS
  rw [List.take_of_length_le (by simp), List.take_of_length_le (Nat.le_refl _)]
theorem bn_blk : ∀ (n : Nat) (t : Tm), blk t ≤ n → bnT t ≤ blk t
  | 0, t, h => by have := blk_pos t; omega
  | n + 1, t, h => by
    rw [bn_eq]
    refine Nat.max_le.2 ⟨maxL_le fun x hx => ?_, maxL_le fun x hx => ?_⟩
    · obtain ⟨p, hp, rfl⟩ := List.mem_map.1 hx
      have h1 := blk_kid (zip_mem hp)
      have h2 := bn_blk n p.1 (by omega)
      have h3 := bdK_le t.kind p.2
      omega
    · obtain ⟨b, hb, rfl⟩ := List.mem_map.1 hx
      refine maxL_le fun y hy => ?_
      obtain ⟨z, hz, rfl⟩ := List.mem_map.1 hy
      have h1 := blk_sub hb hz
      have h2 := bn_blk n z (by omega)
      omega
def BnC (N : Nat) : Prop := ∀ (t : Tm) (v : Value) (w : World), blk t ≤ N → blk t ≤ 100000 → TmIn Tt w t v → Calls Try.prog 27 #[v] w fun e w' => e = .returned (.int .i64 ((bnT t : Nat) : Int)) ∧ Below w.heap.size w w'
set_option maxRecDepth 100000 in
set_option maxHeartbeats 8000000 in
theorem binders_step (N : Nat) (IH : BnC N) : BnC (N + 1) := by
  intro t v w hbN hbb h
  obtain ⟨ra, rc, ka, kc, sa, sc, rfl, ht⟩ := h.form
  obtain ⟨w1, hw1⟩ : ∃ w1, w1 = w.alloc (.cells #[.int .i64 t.kind, .int .i64 t.n, .string t.name, .slice ra t.r.length rc, .slice ka t.kids.length kc, .slice sa t.sys.length sc] 26) := ⟨_, rfl⟩
  have b1 : Below w.heap.size w w1 := by rw [hw1]; exact belowA _ _
  have HC : Hid (Cs6 w1 w.heap.size 0 t ra rc ka kc sa sc) := by rw [hw1]; exact cs6_new w t ra rc ka kc sa sc
  have HT : Hid (TmTop Tt w1 t ra rc ka kc sa sc) := ht.blw b1
  obtain ⟨L, hL⟩ : ∃ L, L = t.kids.length := ⟨_, rfl⟩
  have HL : Hid (L = t.kids.length) := hL
  obtain ⟨M, hM⟩ : ∃ M, M = t.sys.length := ⟨_, rfl⟩
  have HM : Hid (M = t.sys.length) := hM
  have hLb : L ≤ 100000 := by have := (blk_lens t).2.2.1; omega
  have hMb : M ≤ 100000 := by have := (blk_lens t).2.2.2; omega
  have HE : Hid (_ = _) := bn_all t
  have HW : Hid (_ = _) := hw1
  obtain ⟨_, x0, x1, x2, x3, x4, x5⟩ := HC.out.blw (Below.refl _ _)
  simp only [Nat.zero_add] at x1 x2 x3 x4 x5
  rw [← HL.out] at x4
  rw [← HM.out] at x5
  clear hw1 h ht hL hM
  go_enter Try.func27, Try.ntmps27
  go_upto_region 1 with fail
  rw [← HW.out]
  clear HW
  go_wp2_with fail
  clear x0 x1 x2 x3 x4 x5
  go_loopw [3, 15] (fun s i wr => ∃ k S : Nat, k ≤ L ∧ i = .int .i64 k ∧ s = .int .i64 S ∧ Hid (S = bnK t.kind t.kids k) ∧ S ≤ 100001 ∧ Below w1.heap.size w1 wr) (fun _ i _ => L - (intOf i).toNat)
  case atStart => exact ⟨0, 0, Nat.zero_le _, rfl, rfl, (by simp [bnK, maxL] : 0 = bnK t.kind t.kids 0), by omega, Below.refl _ _⟩
  case round =>
    obtain ⟨wo, hwo⟩ : ∃ wo, wo = wr := ⟨_, rfl⟩
    subst hwo
    obtain ⟨k, S, hk, rfl, rfl, HS, hSb, hBr⟩ := hrel
    obtain ⟨_, x0, x1, x2, x3, x4, x5⟩ := HC.out.blw (hBr)
    simp only [Nat.zero_add] at x1 x2 x3 x4 x5
    rw [← HL.out] at x4
    rw [← HM.out] at x5
    by_cases hlt : k < L
    · have hkI : (k : Int) < (L : Int) := by omega
      obtain ⟨y, hy⟩ := someL (l := t.kids) (k := k) (by rw [← HL.out]; exact hlt)
      obtain ⟨g, off, ra1, rc1, ka1, kc1, sa1, sc1, rfl, hg, q6, qt⟩ := (HT.out.blw hBr).kids.at hy
      have hby : blk y < blk t := blk_kid (List.mem_of_getElem? hy)
      have hbn := bn_blk _ y (Nat.le_refl _)
      have HY : Hid (_ = _) := bnK_step (k := t.kind) hy
      obtain ⟨w2, hw2⟩ : ∃ W, W = wo.alloc (.cells #[.int .i64 y.kind, .int .i64 y.n, .string y.name, .slice ra1 y.r.length rc1, .slice ka1 y.kids.length kc1, .slice sa1 y.sys.length sc1] 26) := ⟨_, rfl⟩
      have b2 : Below wo.heap.size wo w2 := by rw [hw2]; exact belowA _ _
      have cc := IH y _ w2 (by omega) (by omega) (qt.blw b2).value
      have cB := bindsC_any t.kind (k : Int) w2
      rw [bvI_nat, bdI_nat] at cB
      have hd1 := bdK_le t.kind k
      obtain ⟨D, hD⟩ : ∃ D, D = bdK t.kind k := ⟨_, rfl⟩
      obtain ⟨V, hV⟩ : ∃ D, D = bvK t.kind k := ⟨_, rfl⟩
      rw [← hD] at cB HY hd1
      rw [← hV] at cB
      obtain ⟨_, z0, z1, z2, z3, z4, z5⟩ : Cs6 w2 wo.heap.size 0 y ra1 rc1 ka1 kc1 sa1 sc1 := by rw [hw2]; exact cs6_new wo y ra1 rc1 ka1 kc1 sa1 sc1
      simp only [Nat.zero_add] at z1 z2 z3 z4 z5
      have xk : w2.cell? ⟨w.heap.size, 0, none⟩ = some (.int .i64 t.kind) := (HC.out.blw (bchain hBr b2)).c0
      obtain ⟨r, hr⟩ : ∃ r, r = bnT y := ⟨_, rfl⟩
      rw [← hr] at cc HY hbn
      have hrb : r ≤ 100000 := by omega
      obtain ⟨_, c0, c1, c2, c3, c4, c5⟩ := q6
      have H2 : Hid (_ = _) := hw2
      clear hy qt hr hw2 hD hV
      go_upto_region 5 with fail
      rw [← H2.out]
      clear H2 c0 c1 c2 c3 c4 c5 x0 x1 x2 x3 x4 x5
      go_wp2_with fail
      refine cB.mono ?_
      rintro e w9 ⟨rfl, hw9⟩
      replace hw9 := hw9.symm
      subst hw9
      clear cB
      go_wp2_with fail
      refine cc.mono ?_
      rintro e w6 ⟨rfl, hb6⟩
      clear cc z0 z1 z2 z3 z4 z5 xk
      have hB6 := bchain hBr (bchain b2 hb6)
      obtain ⟨B, hB⟩ : ∃ B, B = D + r := ⟨_, rfl⟩
      have HS' : Hid (max S B = bnK t.kind t.kids (k + 1)) := (by rw [HY.out, ← HS.out, hB] : max S B = bnK t.kind t.kids (k + 1))
      have hBb : B ≤ 100001 := by rw [hB]; exact Nat.le_trans (Nat.add_le_add hd1 hrb) (by decide)
      have wr1 : wrap64 ((D : Int) + (r : Int)) = (B : Int) := by
        have e1 : (D : Int) + (r : Int) = (B : Int) := by rw [hB]; rfl
        rw [e1]; exact wrap_small _ (Int.natCast_nonneg _) (by have : (B : Int) ≤ (100001 : Nat) := Int.ofNat_le.2 hBb; exact Int.le_trans this (by decide))
      have hmx := max_cast S B
      obtain ⟨Z, hZ⟩ : ∃ Z, Z = max S B := ⟨_, rfl⟩
      have hZb : Z ≤ 100001 := by rw [hZ]; exact Nat.max_le.2 ⟨hSb, hBb⟩
      rw [← hZ] at hmx HS'
      clear hB hZ hd1 hbn hrb hBb hSb hby
      go_wp2_with fail
      go_roundw
      case rel => exact ⟨k + 1, Z, by omega, by go_num, rfl, HS', hZb, hB6⟩
      case measure => simp [intOf]; omega
    · have hkI : ¬ (k : Int) < (L : Int) := by omega
      have HP : Hid (S = bnK t.kind t.kids t.kids.length) := (by have := HS.out; rw [show k = t.kids.length by rw [← HL.out]; omega] at this; exact this : S = bnK t.kind t.kids t.kids.length)
      clear HS
      go_wp2_with fail
      clear x0 x1 x2 x3 x4 x5
      go_loopw [3, 37] (fun s i wr => ∃ k R : Nat, k ≤ M ∧ i = .int .i64 k ∧ s = .int .i64 R ∧ Hid (R = max S (bnS t.sys k)) ∧ R ≤ 100001 ∧ Below w1.heap.size w1 wr) (fun _ i _ => M - (intOf i).toNat)
      case atStart => exact ⟨0, S, Nat.zero_le _, rfl, rfl, (by simp [bnS, maxL] : S = max S (bnS t.sys 0)), hSb, hBr⟩
      case round =>
        obtain ⟨wp, hwp⟩ : ∃ wp, wp = wr := ⟨_, rfl⟩
        subst hwp
        clear hkI hBr
        obtain ⟨k, R, hk, rfl, rfl, HS, hRb, hBr⟩ := hrel
        by_cases hlt : k < M
        · have hkI : (k : Int) < (M : Int) := by omega
          obtain ⟨b, hb⟩ := someL (l := t.sys) (k := k) (by rw [← HM.out]; exact hlt)
          obtain ⟨g, off, fa, fc, ka1, kc1, rfl, hg, q2, qf, qk⟩ := (HT.out.blw hBr).sys.at hb
          have HY : Hid (_ = _) := bnS_step hb
          have HMm : Hid (b ∈ t.sys) := List.mem_of_getElem? hb
          have HK2 : Hid (KdT Tt wp (TmIn Tt wp) b.2 (.slice ka1 b.2.length kc1)) := qk
          obtain ⟨K, hK⟩ : ∃ K, K = b.2.length := ⟨_, rfl⟩
          obtain ⟨F, hF⟩ : ∃ K, K = b.1.length := ⟨_, rfl⟩
          have HKl : Hid (K = b.2.length) := hK
          have hKb : K ≤ 100000 := by have := blk_br (List.mem_of_getElem? hb); have := blkL_len b.2; omega
          obtain ⟨w2, hw2⟩ : ∃ W, W = wp.alloc (.cells #[.slice fa b.1.length fc, .slice ka1 b.2.length kc1] 45) := ⟨_, rfl⟩
          have b2 : Below wp.heap.size wp w2 := by rw [hw2]; exact belowA _ _
          obtain ⟨_, z0, z1⟩ : Cs2 w2 wp.heap.size 0 b fa fc ka1 kc1 := by rw [hw2]; exact cs2_new wp b fa fc ka1 kc1
          simp only [Nat.zero_add] at z1
          obtain ⟨_, c0, c1⟩ := q2
          rw [← hK] at c1 z1 hw2
          rw [← hF] at c0 z0 hw2
          have H2 : Hid (_ = _) := hw2
          clear hK hb qf qk hw2 hF
          go_upto_region 11 with fail
          rw [← H2.out]
          clear H2 c0 c1
          go_wp2_with fail
          clear z0 z1
          go_loopw [3, 44] (fun s i wr => ∃ j Z : Nat, j ≤ K ∧ i = .int .i64 j ∧ s = .int .i64 Z ∧ Hid (Z = max R (bnB b.2 j)) ∧ Z ≤ 100001 ∧ Below w2.heap.size w2 wr) (fun _ i _ => K - (intOf i).toNat)
          case atStart => exact ⟨0, R, Nat.zero_le _, rfl, rfl, (by simp [bnB, maxL] : R = max R (bnB b.2 0)), hRb, Below.refl _ _⟩
          case round =>
            obtain ⟨wq, hwq⟩ : ∃ wq, wq = wr := ⟨_, rfl⟩
            subst hwq
            obtain ⟨j, Z, hj, rfl, rfl, HS2, hZb, hBq⟩ := hrel
            by_cases hlt2 : j < K
            · have hjI : (j : Int) < (K : Int) := by omega
              obtain ⟨y, hy⟩ := someL (l := b.2) (k := j) (by rw [← HKl.out]; exact hlt2)
              obtain ⟨g2, off2, ra1, rc1, ka2, kc2, sa1, sc1, rfl, hg2, q6, qt⟩ := (HK2.out.blw (bchain b2 hBq)).at hy
              have hby : blk y < blk t := blk_sub HMm.out (List.mem_of_getElem? hy)
              have hbn := bn_blk _ y (Nat.le_refl _)
              have HY2 : Hid (_ = _) := bnB_step hy
              obtain ⟨w5, hw5⟩ : ∃ W, W = wq.alloc (.cells #[.int .i64 y.kind, .int .i64 y.n, .string y.name, .slice ra1 y.r.length rc1, .slice ka2 y.kids.length kc2, .slice sa1 y.sys.length sc1] 26) := ⟨_, rfl⟩
              have b5 : Below wq.heap.size wq w5 := by rw [hw5]; exact belowA _ _
              have cc := IH y _ w5 (by omega) (by omega) (qt.blw b5).value
              obtain ⟨_, z0, z1, z2, z3, z4, z5⟩ : Cs6 w5 wq.heap.size 0 y ra1 rc1 ka2 kc2 sa1 sc1 := by rw [hw5]; exact cs6_new wq y ra1 rc1 ka2 kc2 sa1 sc1
              simp only [Nat.zero_add] at z1 z2 z3 z4 z5
              obtain ⟨r, hr⟩ : ∃ r, r = bnT y := ⟨_, rfl⟩
              rw [← hr] at cc HY2 hbn
              have hrb : r ≤ 100000 := by omega
              obtain ⟨_, c0, c1, c2, c3, c4, c5⟩ := q6
              have H5 : Hid (_ = _) := hw5
              clear hy qt hr hw5
              go_upto_region 14 with fail
              rw [← H5.out]
              clear H5 c0 c1 c2 c3 c4 c5
              go_wp2_with fail
              refine cc.mono ?_
              rintro e w6 ⟨rfl, hb6⟩
              clear cc z0 z1 z2 z3 z4 z5
              have hB6 := bchain hBq (bchain b5 hb6)
              obtain ⟨B, hB⟩ : ∃ B, B = 1 + r := ⟨_, rfl⟩
              have hBb : B ≤ 100001 := by rw [hB]; exact Nat.le_trans (Nat.add_le_add (Nat.le_refl 1) hrb) (by decide)
              have wr1 : wrap64 (1 + (r : Int)) = (B : Int) := by
                have e1 : 1 + (r : Int) = (B : Int) := by rw [hB]; rfl
                rw [e1]; exact wrap_small _ (Int.natCast_nonneg _) (by have : (B : Int) ≤ (100001 : Nat) := Int.ofNat_le.2 hBb; exact Int.le_trans this (by decide))
              have hmx := max_cast Z B
              obtain ⟨Y, hY⟩ : ∃ Y, Y = max Z B := ⟨_, rfl⟩
              have HS' : Hid (Y = max R (bnB b.2 (j + 1))) := (by rw [HY2.out, hY, HS2.out, hB, Nat.max_assoc] : Y = max R (bnB b.2 (j + 1)))
              have hYb : Y ≤ 100001 := by rw [hY]; exact Nat.max_le.2 ⟨hZb, hBb⟩
              rw [← hY] at hmx
              clear hB hY hbn hrb hZb hby hBb
              go_wp2_with fail
              go_roundw
              case rel => exact ⟨j + 1, Y, by omega, by go_num, rfl, HS', hYb, hB6⟩
              case measure => simp [intOf]; omega
            · have hjI : ¬ (j : Int) < (K : Int) := by omega
              have HS' : Hid (Z = max S (bnS t.sys (k + 1))) := (by rw [HY.out]; have h1 := HS2.out; have h2 := HS.out; rw [show j = b.2.length by rw [← HKl.out]; omega] at h1; rw [h1, h2, Nat.max_assoc] : Z = max S (bnS t.sys (k + 1)))
              go_wp2_with fail
              go_roundw
              case rel => exact ⟨k + 1, Z, by omega, by go_num, rfl, HS', hZb, bchain hBr (bchain b2 hBq)⟩
              case measure => simp [intOf]; omega
        · have hkI : ¬ (k : Int) < (M : Int) := by omega
          have HR : Hid (bnT t = R) := (by have := HS.out; rw [show k = t.sys.length by rw [← HM.out]; omega] at this; rw [HE.out, this, ← HP.out] : bnT t = R)
          clear HS
          go_wp2_with fail
          go_ret
          exact ⟨by rw [HR.out]; rfl, bchain b1 hBr⟩
theorem binders_any (N : Nat) : BnC N := by
  induction N with
  | zero => intro t v w hb; have := blk_pos t; omega
  | succ N ih => exact binders_step N ih
/-! ### YLhF -/
theorem right_parts {V d : Int} {t : Tm} (h : rightN V d t = 0) : 0 ≤ V ∧ 0 ≤ d ∧ d ≤ 24 ∧ depthT t ≤ 200 ∧ okT false V d.toNat t 0 0 = true := by
  unfold rightN at h
  split at h
  · cases h
  · rename_i h1
    unfold wrongN at h
    split at h
    · cases h
    · rename_i h2
      split at h
      · rename_i h3; exact ⟨by omega, by omega, by omega, by omega, h3⟩
      · cases h
theorem right_of {V d : Int} {t : Tm} (hV : 0 ≤ V) (h0 : 0 ≤ d) (h1 : d ≤ 24) (h2 : depthT t ≤ 200) : rightN V d t = if okT false V d.toNat t 0 0 = true then 0 else 100 := by
  unfold rightN
  rw [if_neg (by omega)]
  unfold wrongN
  rw [if_neg (by omega)]
theorem free_facts {t : Tm} {V d p : Int} (hb : blk t ≤ 400) (hr : rightN V d t = 0) (hp : 0 ≤ p) (hV : V ≤ 1000) (hd : d < 24) :
    (varsE p 1 t = 0 ∧ usT p (varsT p 1 t) 0 = false ∧ rightN (V + 1) d (varsT p 1 t) = 0 ∧ sizeT (varsT p 1 t) = sizeT t) ∧
    (dimsE p 1 t = 10 ∨ (dimsE p 1 t = 0 ∧ (p < 24 → (dmT (dimsT p 1 t) 0 / 2 ^ p.toNat) &&& 1 = 0) ∧ (rightN V (d + 1) (dimsT p 1 t) = 0 ∨ (rightN V (d + 1) (dimsT p 1 t) = 100 ∧ 24 ≤ d + (bnT t : Nat))))) := by
  obtain ⟨h1, h2, h3, h4, h5⟩ := right_parts hr
  have hf : wrongN true 0 0 t = 0 := by
    unfold wrongN
    rw [if_neg (by omega), if_pos (ok_formed V 0 d.toNat 0 false _ t (Nat.le_refl _) 0 0 0 0 h5)]
  have hw := wrL_zero (ot := p) (by_ := 1) hf hp (by omega)
  have e1 : varsE p 1 t = erT (sv p) t 0 0 := by unfold varsE apE; rw [if_pos hw]; rfl
  have e2 := er_sv (p := p) (V := V) (D := d.toNat) hV _ t 0 0 (Nat.le_refl _) (by omega) h5
  have e3 : varsT p 1 t = liT (sv p) t 0 0 := by
    unfold varsT apT ansL
    rw [if_pos hw]
    show (if erT (sv p) t 0 0 = 0 then liT (sv p) t 0 0 else zeroT) = _
    rw [if_pos e2]
  have d1 : dimsE p 1 t = erT (sd p) t 0 0 := by unfold dimsE apE; rw [if_pos hw]; rfl
  refine ⟨⟨by rw [e1, e2], by rw [e3]; exact us_sv _ t 0 0 (Nat.le_refl _), ?_, by rw [e3]; exact size_li _ t 0 0 (Nat.le_refl _)⟩, ?_⟩
  · rw [e3, right_of (by omega) h2 h3 (by rw [depth_li _ t 0 0 (Nat.le_refl _)]; exact h4), if_pos (ok_sv hp _ t 0 0 (Nat.le_refl _) h5)]
  · rcases er_sd (p := p) (V := V) (D := d.toNat) hp hV _ t 0 0 (Nat.le_refl _) (by omega) h5 with h0 | h0
    · right
      have d3 : dimsT p 1 t = liT (sd p) t 0 0 := by
        unfold dimsT apT ansL
        rw [if_pos hw]
        show (if erT (sd p) t 0 0 = 0 then liT (sd p) t 0 0 else zeroT) = _
        rw [if_pos h0]
      refine ⟨by rw [d1, h0], fun hp2 => ?_, ?_⟩
      · rw [d3]
        have hb2 := dm_bit _ (liT (sd p) t 0 0) (Nat.le_refl _) 0 p.toNat
        rw [hs_sd hp hp2 _ t 0 0 (Nat.le_refl _)] at hb2
        rw [Nat.and_one_is_mod]
        have hb3 := Nat.testBit_eq_decide_div_mod_eq (x := dmT (liT (sd p) t 0 0) 0) (i := p.toNat)
        rw [hb2] at hb3
        have : ¬ (dmT (liT (sd p) t 0 0) 0 / 2 ^ p.toNat % 2 = 1) := by simpa using hb3.symm
        omega
      · rw [d3, right_of h1 (by omega) (by omega) (by rw [depth_li _ t 0 0 (Nat.le_refl _)]; exact h4)]
        by_cases hbn : d.toNat + bnT t + 1 ≤ 24
        · left
          have := ok_sd (p := p) (V := V) (D := d.toNat) hp _ t 0 0 (Nat.le_refl _) (by omega) h5
          rw [show (d + 1).toNat = d.toNat + 1 by omega, if_pos this]
        · split
          · exact .inl rfl
          · exact .inr ⟨rfl, by omega⟩
    · exact .inl (by rw [d1, h0])
end Go.Proofs.Ytmaijbeghemkbaa
