/- Lifts: what is kept of a term. -/
import Derived.Test.YtocfamcclfhkcaaGreatYLfM
namespace Go.Proofs.YtocfamcclfhkcaaGreat
open Go.RowKit
set_option linter.unusedVariables false
set_option linter.unusedSimpArgs false

theorem mem_liK {s : Sf} {k : Int} {l : List Tm} {bv bd : Nat} {y : Tm} (h : y ∈ liK s k l bv bd) : ∃ i x, l[i]? = some x ∧ y = liT s x (bv + bvK k i) (bd + bdK k i) := by
  unfold liK at h
  obtain ⟨p, hp, rfl⟩ := List.mem_map.1 h
  exact ⟨p.2, p.1, List.mem_zipIdx_iff_getElem?.1 hp, rfl⟩
theorem rowP_nil1 (s : Sf) (bd : Nat) : (rowP s bd []).1 = [] := by
  unfold rowP
  split
  · rfl
  · have e1 : rightF [] = true := by decide
    have e2 : leastF [] = ([], 0) := by decide
    simp [liftFF, liftS, e1, e2]
theorem fm_li {s : Sf} (hs : 0 ≤ s.vb) : ∀ (n : Nat) (t : Tm) (bv bd : Nat), blk t ≤ n → Fm t → Fm (liT s t bv bd)
  | 0, t, bv, bd, hn, h => by have := blk_pos t; omega
  | n + 1, t, bv, bd, hn, h => by
    obtain ⟨h0, h1, h2, h3⟩ := (fm_eq t).1 h
    rw [li_eq, fm_eq]
    refine ⟨?_, fun hk => ?_, fun y hy => ?_, fun b hb y hy => ?_⟩
    · show 0 ≤ numV s bv t.kind t.n
      unfold numV; split <;> omega
    · show (rowP s bd t.r).1 = []
      rw [h1 hk]; exact rowP_nil1 s bd
    · obtain ⟨i, x, hx, rfl⟩ := mem_liK hy
      have hm := List.mem_of_getElem? hx
      exact fm_li hs n x _ _ (by have := blk_kid hm; omega) (h2 x hm)
    · obtain ⟨c, hc, rfl⟩ := List.mem_map.1 hb
      obtain ⟨x, hx, rfl⟩ := List.mem_map.1 hy
      exact fm_li hs n x _ _ (by have := blk_sub hc hx; omega) (h3 c hc x hx)
/-! ### how great it is -/
theorem keepAll_len (l : List C) : (lstN l).length ≤ l.length := by
  have h1 : ∀ (c : C) (l : List C), (insC c l).length ≤ l.length + 1 := by
    intro c l
    induction l with
    | nil => simp [insC]
    | cons d l ih =>
      unfold insC
      split
      · simp
      · split
        · simp
        · simp; omega
  have h2 : ∀ l : List C, (ordC l).length ≤ l.length := by
    intro l
    induction l with
    | nil => simp [ordC]
    | cons c l ih => have := h1 c (ordC l); show (insC c (ordC l)).length ≤ _; simp; omega
  have h3 : ∀ l : List C, (keepAll l).length ≤ l.length := fun l => by
    have : ∀ (l a : List C), (l.foldl keep a).length ≤ a.length + l.length := by
      intro l
      induction l with
      | nil => intro a; simp
      | cons c l ih =>
        intro a
        have h1 := ih (keep a c)
        have h2 : (keep a c).length ≤ a.length + 1 := by unfold keep; split <;> simp
        show ((l.foldl keep (keep a c))).length ≤ _
        simp only [List.length_cons]
        omega
    have := this l []
    unfold keepAll
    simpa using this
  exact Nat.le_trans (h3 _) (h2 l)
theorem leastF_le (l : List C) : (leastF l).1.length ≤ l.length := by
  unfold leastF
  split
  · split
    · exact keepAll_len l
    · simp
  · simp
theorem rowP_len (s : Sf) (bd : Nat) (r : List C) : (rowP s bd r).1.length ≤ r.length := by
  unfold rowP
  split
  · exact Nat.le_refl _
  · unfold liftFF
    split
    · split
      · exact Nat.le_trans (leastF_le _) (liftS_len r _ _)
      · simp
    · simp
theorem rowP_zero {s : Sf} (h : s.db = 0) (bd : Nat) (r : List C) : rowP s bd r = (r, 0) := by unfold rowP; rw [if_pos h]
theorem sum_zip {f : Tm → Nat} : ∀ (l : List Tm) (g : Tm × Nat → Tm) (i : Nat), (∀ p ∈ l.zipIdx i, f (g p) ≤ f p.1) → ((l.zipIdx i).map fun p => f (g p)).sum ≤ (l.map f).sum
  | [], g, i, h => by simp
  | x :: l, g, i, h => by
    have h1 := h (x, i) (by simp)
    have h2 := sum_zip l g (i + 1) (fun p hp => h p (by simp [hp]))
    simp only [List.zipIdx_cons, List.map_cons, List.sum_cons]
    have h1 : f (g (x, i)) ≤ f x := h1
    omega
theorem blk_li {s : Sf} : ∀ (n : Nat) (t : Tm) (bv bd : Nat), blk t ≤ n → blk (liT s t bv bd) ≤ blk t
  | 0, t, bv, bd, hn => by have := blk_pos t; omega
  | n + 1, t, bv, bd, hn => by
    have e := blk_eq (liT s t bv bd)
    rw [li_eq] at e
    rw [li_eq, e, blk_eq t]
    have h1 := rowP_len s bd t.r
    have h2 : blkL (liK s t.kind t.kids bv bd) ≤ blkL t.kids := by
      unfold blkL liK
      rw [List.map_map]
      refine sum_zip t.kids (fun p => liT s p.1 (bv + bvK t.kind p.2) (bd + bdK t.kind p.2)) 0 (fun p hp => ?_)
      have hm := List.mem_of_getElem? (List.mem_zipIdx_iff_getElem?.1 hp)
      exact blk_li n p.1 _ _ (by have := blk_kid hm; omega)
    have h3 : blkS (t.sys.map fun b => liB s t.kind b bv bd) ≤ blkS t.sys := by
      unfold blkS
      rw [List.map_map]
      refine sumN_le fun b hb => ?_
      have h4 := rowP_len s bd b.1
      have h5 : blkL (b.2.map fun x => liT s x bv (bd + moreK t.kind)) ≤ blkL b.2 := by
        unfold blkL
        rw [List.map_map]
        exact sumN_le fun x hx => blk_li n x _ _ (by have := blk_sub hb hx; omega)
      show 1 + (rowP s bd b.1).1.length + blkL (b.2.map fun x => liT s x bv (bd + moreK t.kind)) ≤ _
      omega
    dsimp only at *
    omega
end Go.Proofs.YtocfamcclfhkcaaGreat
