/- What is lifted is formed. -/
import Derived.Test.YtmaijbeghemkbaaYLgM
namespace Go.Proofs.Ytmaijbeghemkbaa
open Go.RowKit
set_option linter.unusedVariables false
set_option linter.unusedSimpArgs false

theorem up_inj {fr by_ : Int} (hb : 0 ≤ by_) {a b : Nat} (h : upK fr by_ a = upK fr by_ b) : a = b := by
  rcases Nat.lt_trichotomy a b with h1 | h1 | h1
  · have := upK_lt (from_ := fr) hb h1; omega
  · exact h1
  · have := upK_lt (from_ := fr) hb h1; omega
theorem liftN_bit {s : Nat} {fr by_ : Int} (h : liftE s fr by_ = 0) (k : Nat) : (liftN s fr by_).testBit k = true → ∃ j ∈ dimsOf s, upK fr by_ j = k := by
  intro hk
  cases ha : argB fr by_ with
  | true => rw [(lift_arg ha).1] at hk; simp at hk
  | false =>
    cases hb : liftBad fr by_ (dimsOf s) with
    | true => rw [(lift_bad ha hb).1] at hk; simp at hk
    | false =>
      rw [(lift_ok ha hb).1] at hk
      have : k ∈ (dimsOf s).map (upK fr by_) := by rw [testBit_orAll] at hk; simpa using hk
      obtain ⟨j, hj, e⟩ := List.mem_map.1 this
      exact ⟨j, hj, e⟩
theorem okC_lift {c : C} {fr by_ : Int} (hb : 0 ≤ by_) (h : okC c = true) : okC (liftC c fr by_) = true := by
  unfold okC at *
  rw [Bool.not_eq_true', Bool.eq_false_iff] at *
  intro hc
  apply h
  rw [clashC_iff] at hc ⊢
  obtain ⟨k, hk, h1, h2⟩ := hc
  unfold liftC at h1 h2
  by_cases hr : rightC c = true ∧ liftE c.1.val fr by_ = 0 ∧ liftE c.2.val fr by_ = 0
  · rw [if_pos hr] at h1 h2
    obtain ⟨j1, m1, e1⟩ := liftN_bit hr.2.1 k h1
    obtain ⟨j2, m2, e2⟩ := liftN_bit hr.2.2 k h2
    obtain rfl := up_inj hb (e1.trans e2.symm)
    rw [mem_dimsOf] at m1 m2
    exact ⟨j1, m1.1, m1.2, m2.2⟩
  · rw [if_neg hr] at h1
    simp [cl00] at h1
theorem liftS_mem {fr by_ : Int} : ∀ (l : List C) (c : C), c ∈ (liftS l fr by_).1 → ∃ d ∈ l, c = liftC d fr by_ := by
  intro l
  induction l using snoc_ind with
  | nil => intro c hc; simp [liftS] at hc
  | snoc l d ih =>
    intro c hc
    rw [liftS_snoc] at hc
    unfold stepL at hc
    split at hc
    · split at hc
      · rcases List.mem_append.1 hc with hc | hc
        · obtain ⟨x, hx, e⟩ := ih c hc
          exact ⟨x, by simp [hx], e⟩
        · exact ⟨d, by simp, by simpa using hc⟩
      · simp at hc
    · obtain ⟨x, hx, e⟩ := ih c hc
      exact ⟨x, by simp [hx], e⟩
theorem rowP_right (s : Sf) (bd : Nat) {r : List C} (h : rightF r = true) : rightF (rowP s bd r).1 = true := by
  unfold rowP
  split
  · exact h
  · unfold liftFF
    rw [if_pos h]
    split
    · exact leastF_right _
    · exact rightF_nil
theorem rowP_rightA {s : Sf} (hs : 0 ≤ s.db) (bd : Nat) {r : List C} (h : rightA r = true) : rightA (rowP s bd r).1 = true := by
  unfold rowP
  split
  · exact h
  · unfold liftFF
    rw [if_pos (rightA_right h)]
    split
    · refine rightA_least fun c hc => ?_
      obtain ⟨d, hd, rfl⟩ := liftS_mem r c hc
      exact okC_lift hs ((rightA_iff.1 h).2 d hd)
    · exact rightA_nil
theorem depth_li {s : Sf} : ∀ (n : Nat) (t : Tm) (bv bd : Nat), blk t ≤ n → depthT (liT s t bv bd) = depthT t
  | 0, t, bv, bd, hn => by have := blk_pos t; omega
  | n + 1, t, bv, bd, hn => by
    have e := depth_eq (liT s t bv bd)
    rw [li_eq] at e
    rw [li_eq, e, depth_eq t]
    dsimp only
    have h2 : dpL (liK s t.kind t.kids bv bd) = dpL t.kids := by
      unfold dpL liK
      rw [List.map_map]
      have : t.kids.zipIdx.map (depthT ∘ fun p => liT s p.1 (bv + bvK t.kind p.2) (bd + bdK t.kind p.2)) = t.kids.zipIdx.map (fun p => depthT p.1) := map_congr_mem fun p hp => depth_li n p.1 _ _ (by have := blk_kid (zip_mem hp); omega)
      rw [this]
      congr 1
      refine List.ext_getElem? fun i => ?_
      simp only [List.getElem?_map, List.getElem?_zipIdx]
      cases t.kids[i]? <;> simp
    have h3 : dpS (t.sys.map fun b => liB s t.kind b bv bd) = dpS t.sys := by
      unfold dpS
      rw [List.map_map]
      congr 1
      refine map_congr_mem fun b hb => ?_
      show dpL (b.2.map fun x => liT s x bv (bd + moreK t.kind)) = dpL b.2
      unfold dpL
      rw [List.map_map]
      congr 1
      exact map_congr_mem fun x hx => depth_li n x _ _ (by have := blk_sub hb hx; omega)
    rw [h2, h3]
theorem ok_li {s : Sf} (hv : 0 ≤ s.vb) (hd : 0 ≤ s.db) : ∀ (n : Nat) (t : Tm) (bv bd bv' bd' : Nat), blk t ≤ n → okT true 0 0 t bv bd = true → okT true 0 0 (liT s t bv' bd') bv bd = true
  | 0, t, bv, bd, bv', bd', hn, h => by have := blk_pos t; omega
  | n + 1, t, bv, bd, bv', bd', hn, h => by
    have hc := li_eq s t bv' bd'
    rw [ok_eq, Bool.and_eq_true, List.all_eq_true] at h ⊢
    obtain ⟨h1, h2⟩ := h
    unfold Tm.node nodeB at h1 ⊢
    simp only [Bool.and_eq_true] at h1 ⊢
    obtain ⟨⟨⟨⟨⟨a1, a2⟩, a3⟩, a4⟩, a5⟩, a6⟩ := h1
    refine ⟨⟨⟨⟨⟨⟨a1, ?_⟩, ?_⟩, ?_⟩, ?_⟩, ?_⟩, ?_⟩
    · rw [hc]; dsimp only; rw [liK_len]; exact a2
    · rw [hc]; dsimp only
      unfold numB at a3 ⊢
      split
      · rename_i hk
        rw [if_pos hk] at a3
        simp only [Bool.and_eq_true, decide_eq_true_eq] at a3 ⊢
        refine ⟨?_, by simp⟩
        have : t.n ≤ numV s bv' t.kind t.n := by unfold numV; split <;> omega
        omega
      · rename_i hk
        rw [if_neg hk] at a3
        have : numV s bv' t.kind t.n = t.n := by
          unfold numV
          rw [if_neg (fun h => hk h.1)]
        rw [this]; exact a3
    · rw [hc]; exact a4
    · rw [hc]; dsimp only
      unfold rowB at a5 ⊢
      split
      · rename_i hk
        rw [if_pos hk] at a5
        simp only [Bool.and_eq_true] at a5 ⊢
        exact ⟨rowP_right s bd' a5.1, rfl⟩
      · rename_i hk
        rw [if_neg hk] at a5
        split
        · rename_i hk2
          rw [if_pos hk2] at a5
          simp only [Bool.and_eq_true] at a5 ⊢
          exact ⟨rowP_rightA hd bd' a5.1, rfl⟩
        · rename_i hk2
          rw [if_neg hk2] at a5
          simp only [decide_eq_true_eq] at a5 ⊢
          rw [List.length_eq_zero_iff.1 a5, rowP_nil1]; rfl
    · rw [hc]; dsimp only
      rw [List.all_eq_true] at a6 ⊢
      intro p hp
      rw [List.map_map] at hp
      obtain ⟨b, hb, rfl⟩ := List.mem_map.1 hp
      have := a6 (b.1, b.2.length) (List.mem_map.2 ⟨b, hb, rfl⟩)
      unfold brB at this ⊢
      simp only [Bool.and_eq_true] at this ⊢
      obtain ⟨⟨⟨c1, c2⟩, c3⟩, c4⟩ := this
      refine ⟨⟨⟨c1, ?_⟩, rowP_rightA hd bd' c3⟩, rfl⟩
      show decide (((b.2.map fun x => liT s x bv' (bd' + moreK t.kind)).length : Int) = partsK t.kind) = true
      rw [List.length_map]; exact c2
    · intro p hp
      rcases mem_pts hp with ⟨i, hi, e⟩ | ⟨b, hb, hx, e⟩
      · rw [hc] at hi e
        dsimp only at hi e
        obtain ⟨x, hx⟩ := someL (l := t.kids) (k := i) (by have := some_lt hi; rwa [liK_len] at this)
        rw [liK_get hx] at hi
        injection hi with hi
        rw [← hi, e]
        have := h2 _ (pts_kid hx)
        exact ok_li hv hd n x _ _ _ _ (by have := blk_kid (List.mem_of_getElem? hx); omega) this
      · rw [hc] at hb e
        dsimp only at hb e
        obtain ⟨c, hcm, rfl⟩ := List.mem_map.1 hb
        obtain ⟨x, hxm, e2⟩ := List.mem_map.1 hx
        rw [← e2, e]
        exact ok_li hv hd n x _ _ _ _ (by have := blk_sub hcm hxm; omega) (h2 _ (pts_sys hcm hxm))
theorem formed_li {s : Sf} (hv : 0 ≤ s.vb) (hd : 0 ≤ s.db) {t : Tm} (bv bd : Nat) (h : wrongN true 0 0 t = 0) : wrongN true 0 0 (liT s t bv bd) = 0 := by
  unfold wrongN at h ⊢
  rw [depth_li _ t bv bd (Nat.le_refl _)]
  split at h
  · cases h
  · rename_i h1
    rw [if_neg h1]
    split at h
    · rename_i h2; rw [if_pos (ok_li hv hd _ t 0 0 bv bd (Nat.le_refl _) h2)]
    · cases h
end Go.Proofs.Ytmaijbeghemkbaa
