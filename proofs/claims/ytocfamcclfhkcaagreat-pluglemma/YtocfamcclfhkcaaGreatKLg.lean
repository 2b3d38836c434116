/- Lifts add up. What is lifted is formed. -/
import Derived.Test.YtocfamcclfhkcaaGreatYLfN
import Derived.Test.YtocfamcclfhkcaaGreatYLfF
namespace Go.Proofs.YtocfamcclfhkcaaGreat
open Go.RowKit
set_option linter.unusedVariables false
set_option linter.unusedSimpArgs false

def sf (a b : Int) : Sf := ⟨0, a, 0, b⟩
theorem map_congr_mem {α β : Type} {f g : α → β} {l : List α} (h : ∀ x ∈ l, f x = g x) : l.map f = l.map g := List.map_congr_left h
theorem zip_mem {l : List Tm} {p : Tm × Nat} (h : p ∈ l.zipIdx) : p.1 ∈ l := List.mem_of_getElem? (List.mem_zipIdx_iff_getElem?.1 h)
theorem zip_zip {β : Type} (l : List Tm) (g : Tm × Nat → Tm) (f : Tm × Nat → β) : ((l.zipIdx.map g).zipIdx.map f) = l.zipIdx.map fun p => f (g p, p.2) := by
  refine List.ext_getElem? fun i => ?_
  simp only [List.getElem?_map, List.getElem?_zipIdx]
  cases l[i]? <;> simp
theorem row_row {a b c d : Int} (h : b = 0 ∨ d = 0) (bd : Nat) (r : List C) : rowP (sf c d) bd (rowP (sf a b) bd r).1 = (if d = 0 then ((rowP (sf a b) bd r).1, 0) else rowP (sf a d) bd r) := by
  by_cases hd : d = 0
  · rw [if_pos hd]; exact rowP_zero (s := sf c d) hd bd _
  · rw [if_neg hd, rowP_zero (s := sf a b) (h.resolve_right hd)]
    rfl
theorem row_sum {a b c d : Int} (h : b = 0 ∨ d = 0) (bd : Nat) (r : List C) : (rowP (sf c d) bd (rowP (sf a b) bd r).1).1 = (rowP (sf (a + c) (b + d)) bd r).1 := by
  rw [row_row h]
  by_cases hd : d = 0
  · rw [if_pos hd, hd, Int.add_zero]; rfl
  · rw [if_neg hd, h.resolve_right hd, Int.zero_add]; rfl
theorem numV_sf (a b : Int) (bv : Nat) (k n : Int) : numV (sf a b) bv k n = if k = 1 ∧ 0 ≤ n - (bv : Int) then n + a else n := by
  have e : farB (sf a b) bv k n ↔ (k = 1 ∧ 0 ≤ n - (bv : Int)) := Iff.rfl
  unfold numV
  by_cases h : farB (sf a b) bv k n
  · rw [if_pos h, if_pos (e.1 h)]; rfl
  · rw [if_neg h, if_neg (fun g => h (e.2 g))]
theorem numE_sf (a b : Int) (bv : Nat) (k n : Int) : numE (sf a b) bv k n = if (k = 1 ∧ 0 ≤ n - (bv : Int)) ∧ 1000000000 - a < n then 100 else 0 := by
  have e : (farB (sf a b) bv k n ∧ 1000000000 - (sf a b).vb < n) ↔ ((k = 1 ∧ 0 ≤ n - (bv : Int)) ∧ 1000000000 - a < n) := Iff.rfl
  unfold numE
  by_cases h : farB (sf a b) bv k n ∧ 1000000000 - (sf a b).vb < n
  · rw [if_pos h, if_pos (e.1 h)]
  · rw [if_neg h, if_neg (fun g => h (e.2 g))]
theorem num_num {a b c d : Int} (ha : 0 ≤ a) (bv : Nat) (k n : Int) : numV (sf c d) bv k (numV (sf a b) bv k n) = numV (sf (a + c) (b + d)) bv k n := by
  rw [numV_sf, numV_sf, numV_sf]
  by_cases h1 : k = 1 ∧ 0 ≤ n - (bv : Int)
  · simp only [if_pos h1]; rw [if_pos ⟨h1.1, by omega⟩]; omega
  · simp only [if_neg h1]
theorem numE_num {a b c d e : Int} (ha : 0 ≤ a) (bv : Nat) (k n : Int) : numE (sf c d) bv k (numV (sf a b) bv k n) = numE (sf (a + c) e) bv k n := by
  rw [numE_sf, numE_sf, numV_sf]
  by_cases h1 : k = 1 ∧ 0 ≤ n - (bv : Int)
  · simp only [if_pos h1]
    by_cases h3 : 1000000000 - (a + c) < n
    · rw [if_pos ⟨⟨h1.1, by omega⟩, by omega⟩, if_pos ⟨h1, h3⟩]
    · rw [if_neg (fun h => h3 (by omega)), if_neg (fun h => h3 h.2)]
  · simp only [if_neg h1]
    rw [if_neg (fun h => h1 h.1), if_neg (fun h => h1 h.1)]
/-- One lift, and then another. -/
theorem li_li {a b c d : Int} (ha : 0 ≤ a) (h : b = 0 ∨ d = 0) : ∀ (n : Nat) (t : Tm) (bv bd : Nat), blk t ≤ n → liT (sf c d) (liT (sf a b) t bv bd) bv bd = liT (sf (a + c) (b + d)) t bv bd
  | 0, t, bv, bd, hn => by have := blk_pos t; omega
  | n + 1, t, bv, bd, hn => by
    rw [li_eq (sf c d), li_eq (sf (a + c) (b + d)), li_eq (sf a b)]
    dsimp only
    rw [num_num ha, row_sum h]
    congr 1
    · unfold liK
      rw [zip_zip]
      exact map_congr_mem fun p hp => li_li ha h n p.1 _ _ (by have := blk_kid (zip_mem hp); omega)
    · rw [List.map_map]
      refine map_congr_mem fun x hx => ?_
      show liB _ _ (liB _ _ x _ _) _ _ = _
      unfold liB
      dsimp only
      rw [row_sum h, List.map_map]
      congr 1
      exact map_congr_mem fun y hy => li_li ha h n y _ _ (by have := blk_sub hx hy; omega)
/-- What is refused of a term that was lifted. -/
theorem er_li {a b c d : Int} (ha : 0 ≤ a) (h : b = 0 ∨ d = 0) : ∀ (n : Nat) (t : Tm) (bv bd : Nat), blk t ≤ n → erT (sf c d) (liT (sf a b) t bv bd) bv bd = erT (sf (a + c) d) t bv bd
  | 0, t, bv, bd, hn => by have := blk_pos t; omega
  | n + 1, t, bv, bd, hn => by
    have row2 : ∀ r, (rowP (sf c d) bd (rowP (sf a b) bd r).1).2 = (rowP (sf (a + c) d) bd r).2 := fun r => by
      rw [row_row h]
      by_cases hd : d = 0
      · rw [if_pos hd, rowP_zero (s := sf (a + c) d) hd]
      · rw [if_neg hd]; rfl
    rw [er_eq (sf c d), er_eq (sf (a + c) d), li_eq (sf a b)]
    dsimp only
    rw [numE_num (e := d) ha, row2]
    congr 3
    congr 1
    · unfold erK liK
      rw [zip_zip]
      exact map_congr_mem fun p hp => er_li ha h n p.1 _ _ (by have := blk_kid (zip_mem hp); omega)
    · rw [List.map_map]
      refine map_congr_mem fun x hx => ?_
      show erB _ _ (liB _ _ x _ _) _ _ = _
      unfold erB liB
      dsimp only
      rw [row2, List.map_map]
      congr 2
      exact map_congr_mem fun y hy => er_li ha h n y _ _ (by have := blk_sub hx hy; omega)
theorem li_zero : ∀ (n : Nat) (t : Tm) (bv bd : Nat), blk t ≤ n → liT (sf 0 0) t bv bd = t
  | 0, t, bv, bd, hn => by have := blk_pos t; omega
  | n + 1, t, bv, bd, hn => by
    rw [li_eq, rowP_zero (s := sf 0 0) rfl]
    have e1 : numV (sf 0 0) bv t.kind t.n = t.n := by rw [numV_sf]; split <;> omega
    have e2 : liK (sf 0 0) t.kind t.kids bv bd = t.kids := by
      unfold liK
      have : t.kids.zipIdx.map (fun p => liT (sf 0 0) p.1 (bv + bvK t.kind p.2) (bd + bdK t.kind p.2)) = t.kids.zipIdx.map Prod.fst := map_congr_mem fun p hp => li_zero n p.1 _ _ (by have := blk_kid (zip_mem hp); omega)
      rw [this]
      refine List.ext_getElem? fun i => ?_
      simp only [List.getElem?_map, List.getElem?_zipIdx]
      cases t.kids[i]? <;> simp
    have e3 : (t.sys.map fun b => liB (sf 0 0) t.kind b bv bd) = t.sys := by
      have : (t.sys.map fun b => liB (sf 0 0) t.kind b bv bd) = t.sys.map id := map_congr_mem fun b hb => by
        unfold liB
        rw [rowP_zero (s := sf 0 0) rfl]
        have : (b.2.map fun x => liT (sf 0 0) x bv (bd + moreK t.kind)) = b.2.map id := map_congr_mem fun x hx => li_zero n x _ _ (by have := blk_sub hb hx; omega)
        rw [this]; simp
      rw [this]; simp
    rw [e1, e2, e3]
    cases t
    rfl
/-- No number is refused: what is refused hangs on the rows alone. -/
theorem er_rows {a1 a2 b : Int} : ∀ (n : Nat) (t : Tm) (bv bd : Nat), blk t ≤ n → erT (sf a1 0) t bv bd = 0 → erT (sf a2 0) t bv bd = 0 → erT (sf a1 b) t bv bd = erT (sf a2 b) t bv bd
  | 0, t, bv, bd, hn, _, _ => by have := blk_pos t; omega
  | n + 1, t, bv, bd, hn, h1, h2 => by
    rw [er_eq, firstE_zero] at h1 h2
    rw [er_eq (sf a1 b), er_eq (sf a2 b)]
    have n1 : numE (sf a1 b) bv t.kind t.n = 0 := (by rw [numE_sf]; have := h1 (numE (sf a1 0) bv t.kind t.n) (by simp); rw [numE_sf] at this; exact this)
    have n2 : numE (sf a2 b) bv t.kind t.n = 0 := (by rw [numE_sf]; have := h2 (numE (sf a2 0) bv t.kind t.n) (by simp); rw [numE_sf] at this; exact this)
    rw [n1, n2]
    congr 3
    congr 1
    · unfold erK
      refine map_congr_mem fun p hp => er_rows n p.1 _ _ (by have := blk_kid (zip_mem hp); omega) (h1 _ ?_) (h2 _ ?_)
      · simp only [List.mem_cons, List.mem_append]; right; right; left; exact List.mem_map.2 ⟨p, hp, rfl⟩
      · simp only [List.mem_cons, List.mem_append]; right; right; left; exact List.mem_map.2 ⟨p, hp, rfl⟩
    · refine map_congr_mem fun x hx => ?_
      have g1 : erB (sf a1 0) t.kind x bv bd = 0 := h1 _ (by simp only [List.mem_cons, List.mem_append]; right; right; right; exact List.mem_map.2 ⟨x, hx, rfl⟩)
      have g2 : erB (sf a2 0) t.kind x bv bd = 0 := h2 _ (by simp only [List.mem_cons, List.mem_append]; right; right; right; exact List.mem_map.2 ⟨x, hx, rfl⟩)
      unfold erB at g1 g2 ⊢
      rw [firstE_zero] at g1 g2
      congr 2
      exact map_congr_mem fun y hy => er_rows n y _ _ (by have := blk_sub hx hy; omega) (g1 _ (by simp only [List.mem_cons]; right; exact List.mem_map.2 ⟨y, hy, rfl⟩)) (g2 _ (by simp only [List.mem_cons]; right; exact List.mem_map.2 ⟨y, hy, rfl⟩))
/-- What is refused for its numbers by less is refused by more. -/
theorem er_mono {a c : Int} (hc : 0 ≤ c) : ∀ (n : Nat) (t : Tm) (bv bd : Nat), blk t ≤ n → erT (sf (a + c) 0) t bv bd = 0 → erT (sf a 0) t bv bd = 0
  | 0, t, bv, bd, hn, _ => by have := blk_pos t; omega
  | n + 1, t, bv, bd, hn, h1 => by
    rw [er_eq, firstE_zero] at h1 ⊢
    intro x hx
    simp only [List.mem_cons, List.mem_append] at hx
    rcases hx with rfl | rfl | hx | hx
    · have := h1 (numE (sf (a + c) 0) bv t.kind t.n) (by simp)
      rw [numE_sf] at this ⊢
      split
      · rename_i h
        rw [if_pos ⟨h.1, by omega⟩] at this
        omega
      · rfl
    · rw [rowP_zero (s := sf a 0) rfl]
    · obtain ⟨p, hp, rfl⟩ := List.mem_map.1 hx
      exact er_mono hc n p.1 _ _ (by have := blk_kid (zip_mem hp); omega) (h1 _ (by simp only [List.mem_cons, List.mem_append]; right; right; left; exact List.mem_map.2 ⟨p, hp, rfl⟩))
    · obtain ⟨b, hb, rfl⟩ := List.mem_map.1 hx
      have g1 : erB (sf (a + c) 0) t.kind b bv bd = 0 := h1 _ (by simp only [List.mem_cons, List.mem_append]; right; right; right; exact List.mem_map.2 ⟨b, hb, rfl⟩)
      unfold erB at g1 ⊢
      rw [firstE_zero] at g1 ⊢
      intro y hy
      rcases List.mem_cons.1 hy with rfl | hy
      · rw [rowP_zero (s := sf a 0) rfl]
      · obtain ⟨z, hz, rfl⟩ := List.mem_map.1 hy
        exact er_mono hc n z _ _ (by have := blk_sub hb hz; omega) (g1 _ (by simp only [List.mem_cons]; right; exact List.mem_map.2 ⟨z, hz, rfl⟩))
/-- A variable that is too great for every lift. -/
def farT : Tm → Bool := Tm.fold fun k n _ _ ks sys => decide (k = 1 ∧ 1000000000 < n) || ks.any id || sys.any fun b => b.2.any id
theorem far_eq (t : Tm) : farT t = (decide (t.kind = 1 ∧ 1000000000 < t.n) || t.kids.any farT || t.sys.any fun b => b.2.any farT) := by
  unfold farT
  rw [fold_mk]
  simp only [List.any_map, Function.comp_def, id]
theorem er_far : ∀ (n : Nat) (t : Tm) (bv bd : Nat), blk t ≤ n → erT (sf 0 0) t bv bd = 0 ∨ (erT (sf 0 0) t bv bd = 100 ∧ farT t = true)
  | 0, t, bv, bd, hn => by have := blk_pos t; omega
  | n + 1, t, bv, bd, hn => by
    by_cases h0 : erT (sf 0 0) t bv bd = 0
    · exact .inl h0
    · right
      rw [er_eq] at h0 ⊢
      have hm := firstE_mem h0
      rw [far_eq]
      simp only [List.mem_cons, List.mem_append] at hm
      rcases hm with e | e | hm | hm
      · rw [e] at h0 ⊢
        rw [numE_sf] at h0 ⊢
        split at h0
        · rename_i h
          rw [if_pos h]
          refine ⟨rfl, ?_⟩
          have : decide (t.kind = 1 ∧ 1000000000 < t.n) = true := by simp; exact ⟨h.1.1, by omega⟩
          rw [this]; rfl
        · exact absurd rfl h0
      · rw [rowP_zero (s := sf 0 0) rfl] at e; exact absurd e h0
      · obtain ⟨p, hp, e⟩ := List.mem_map.1 hm
        rw [← e] at h0 ⊢
        rcases er_far n p.1 (bv + bvK t.kind p.2) (bd + bdK t.kind p.2) (by have := blk_kid (zip_mem hp); omega) with h | ⟨h, hf⟩
        · exact absurd h h0
        · refine ⟨h, ?_⟩
          have : t.kids.any farT = true := List.any_eq_true.2 ⟨p.1, zip_mem hp, hf⟩
          rw [this]; simp
      · obtain ⟨b, hb, e⟩ := List.mem_map.1 hm
        rw [← e] at h0 ⊢
        unfold erB at h0 ⊢
        have hm2 := firstE_mem h0
        rcases List.mem_cons.1 hm2 with e2 | hm2
        · rw [rowP_zero (s := sf 0 0) rfl] at e2; exact absurd e2 h0
        · obtain ⟨x, hx, e2⟩ := List.mem_map.1 hm2
          rw [← e2] at h0 ⊢
          rcases er_far n x bv (bd + moreK t.kind) (by have := blk_sub hb hx; omega) with h | ⟨h, hf⟩
          · exact absurd h h0
          · refine ⟨h, ?_⟩
            have : (t.sys.any fun b => b.2.any farT) = true := List.any_eq_true.2 ⟨b, hb, List.any_eq_true.2 ⟨x, hx, hf⟩⟩
            rw [this]; simp
end Go.Proofs.YtocfamcclfhkcaaGreat

namespace Go.Proofs.YtocfamcclfhkcaaGreat
open Go.RowKit
set_option linter.unusedVariables false
set_option linter.unusedSimpArgs false

theorem up_inj {fr by_ : Int} (hb : 0 ≤ by_) {a b : Nat} (h : upK fr by_ a = upK fr by_ b) : a = b := by
  rcases Nat.lt_trichotomy a b with h1 | h1 | h1
  · have := upK_lt (from_ := fr) hb h1; omega
  · exact h1
  · have := upK_lt (from_ := fr) hb h1; omega
theorem liftN_bit {s : Nat} {fr by_ : Int} (h : liftE s fr by_ = 0) (k : Nat) : (liftN s fr by_).testBit k = true → ∃ j ∈ dimsOf s, upK fr by_ j = k := by
  intro hk
  cases ha : argB fr by_ with
  | true => rw [(lift_arg ha).1] at hk; simp at hk
  | false =>
    cases hb : liftBad fr by_ (dimsOf s) with
    | true => rw [(lift_bad ha hb).1] at hk; simp at hk
    | false =>
      rw [(lift_ok ha hb).1] at hk
      have : k ∈ (dimsOf s).map (upK fr by_) := by rw [testBit_orAll] at hk; simpa using hk
      obtain ⟨j, hj, e⟩ := List.mem_map.1 this
      exact ⟨j, hj, e⟩
theorem okC_lift {c : C} {fr by_ : Int} (hb : 0 ≤ by_) (h : okC c = true) : okC (liftC c fr by_) = true := by
  unfold okC at *
  rw [Bool.not_eq_true', Bool.eq_false_iff] at *
  intro hc
  apply h
  rw [clashC_iff] at hc ⊢
  obtain ⟨k, hk, h1, h2⟩ := hc
  unfold liftC at h1 h2
  by_cases hr : rightC c = true ∧ liftE c.1.val fr by_ = 0 ∧ liftE c.2.val fr by_ = 0
  · rw [if_pos hr] at h1 h2
    obtain ⟨j1, m1, e1⟩ := liftN_bit hr.2.1 k h1
    obtain ⟨j2, m2, e2⟩ := liftN_bit hr.2.2 k h2
    obtain rfl := up_inj hb (e1.trans e2.symm)
    rw [mem_dimsOf] at m1 m2
    exact ⟨j1, m1.1, m1.2, m2.2⟩
  · rw [if_neg hr] at h1
    simp [cl00] at h1
theorem liftS_mem {fr by_ : Int} : ∀ (l : List C) (c : C), c ∈ (liftS l fr by_).1 → ∃ d ∈ l, c = liftC d fr by_ := by
  intro l
  induction l using snoc_ind with
  | nil => intro c hc; simp [liftS] at hc
  | snoc l d ih =>
    intro c hc
    rw [liftS_snoc] at hc
    unfold stepL at hc
    split at hc
    · split at hc
      · rcases List.mem_append.1 hc with hc | hc
        · obtain ⟨x, hx, e⟩ := ih c hc
          exact ⟨x, by simp [hx], e⟩
        · exact ⟨d, by simp, by simpa using hc⟩
      · simp at hc
    · obtain ⟨x, hx, e⟩ := ih c hc
      exact ⟨x, by simp [hx], e⟩
theorem rowP_right (s : Sf) (bd : Nat) {r : List C} (h : rightF r = true) : rightF (rowP s bd r).1 = true := by
  unfold rowP
  split
  · exact h
  · unfold liftFF
    rw [if_pos h]
    split
    · exact leastF_right _
    · exact rightF_nil
theorem rowP_rightA {s : Sf} (hs : 0 ≤ s.db) (bd : Nat) {r : List C} (h : rightA r = true) : rightA (rowP s bd r).1 = true := by
  unfold rowP
  split
  · exact h
  · unfold liftFF
    rw [if_pos (rightA_right h)]
    split
    · refine rightA_least fun c hc => ?_
      obtain ⟨d, hd, rfl⟩ := liftS_mem r c hc
      exact okC_lift hs ((rightA_iff.1 h).2 d hd)
    · exact rightA_nil
theorem depth_li {s : Sf} : ∀ (n : Nat) (t : Tm) (bv bd : Nat), blk t ≤ n → depthT (liT s t bv bd) = depthT t
  | 0, t, bv, bd, hn => by have := blk_pos t; omega
  | n + 1, t, bv, bd, hn => by
    have e := depth_eq (liT s t bv bd)
    rw [li_eq] at e
    rw [li_eq, e, depth_eq t]
    dsimp only
    have h2 : dpL (liK s t.kind t.kids bv bd) = dpL t.kids := by
      unfold dpL liK
      rw [List.map_map]
      have : t.kids.zipIdx.map (depthT ∘ fun p => liT s p.1 (bv + bvK t.kind p.2) (bd + bdK t.kind p.2)) = t.kids.zipIdx.map (fun p => depthT p.1) := map_congr_mem fun p hp => depth_li n p.1 _ _ (by have := blk_kid (zip_mem hp); omega)
      rw [this]
      congr 1
      refine List.ext_getElem? fun i => ?_
      simp only [List.getElem?_map, List.getElem?_zipIdx]
      cases t.kids[i]? <;> simp
    have h3 : dpS (t.sys.map fun b => liB s t.kind b bv bd) = dpS t.sys := by
      unfold dpS
      rw [List.map_map]
      congr 1
      refine map_congr_mem fun b hb => ?_
      show dpL (b.2.map fun x => liT s x bv (bd + moreK t.kind)) = dpL b.2
      unfold dpL
      rw [List.map_map]
      congr 1
      exact map_congr_mem fun x hx => depth_li n x _ _ (by have := blk_sub hb hx; omega)
    rw [h2, h3]
theorem ok_li {s : Sf} (hv : 0 ≤ s.vb) (hd : 0 ≤ s.db) : ∀ (n : Nat) (t : Tm) (bv bd bv' bd' : Nat), blk t ≤ n → okT true 0 0 t bv bd = true → okT true 0 0 (liT s t bv' bd') bv bd = true
  | 0, t, bv, bd, bv', bd', hn, h => by have := blk_pos t; omega
  | n + 1, t, bv, bd, bv', bd', hn, h => by
    have hc := li_eq s t bv' bd'
    rw [ok_eq, Bool.and_eq_true, List.all_eq_true] at h ⊢
    obtain ⟨h1, h2⟩ := h
    unfold Tm.node nodeB at h1 ⊢
    simp only [Bool.and_eq_true] at h1 ⊢
    obtain ⟨⟨⟨⟨⟨a1, a2⟩, a3⟩, a4⟩, a5⟩, a6⟩ := h1
    refine ⟨⟨⟨⟨⟨⟨a1, ?_⟩, ?_⟩, ?_⟩, ?_⟩, ?_⟩, ?_⟩
    · rw [hc]; dsimp only; rw [liK_len]; exact a2
    · rw [hc]; dsimp only
      unfold numB at a3 ⊢
      split
      · rename_i hk
        rw [if_pos hk] at a3
        simp only [Bool.and_eq_true, decide_eq_true_eq] at a3 ⊢
        refine ⟨?_, by simp⟩
        have : t.n ≤ numV s bv' t.kind t.n := by unfold numV; split <;> omega
        omega
      · rename_i hk
        rw [if_neg hk] at a3
        have : numV s bv' t.kind t.n = t.n := by
          unfold numV
          rw [if_neg (fun h => hk h.1)]
        rw [this]; exact a3
    · rw [hc]; exact a4
    · rw [hc]; dsimp only
      unfold rowB at a5 ⊢
      split
      · rename_i hk
        rw [if_pos hk] at a5
        simp only [Bool.and_eq_true] at a5 ⊢
        exact ⟨rowP_right s bd' a5.1, rfl⟩
      · rename_i hk
        rw [if_neg hk] at a5
        split
        · rename_i hk2
          rw [if_pos hk2] at a5
          simp only [Bool.and_eq_true] at a5 ⊢
          exact ⟨rowP_rightA hd bd' a5.1, rfl⟩
        · rename_i hk2
          rw [if_neg hk2] at a5
          simp only [decide_eq_true_eq] at a5 ⊢
          rw [List.length_eq_zero_iff.1 a5, rowP_nil1]; rfl
    · rw [hc]; dsimp only
      rw [List.all_eq_true] at a6 ⊢
      intro p hp
      rw [List.map_map] at hp
      obtain ⟨b, hb, rfl⟩ := List.mem_map.1 hp
      have := a6 (b.1, b.2.length) (List.mem_map.2 ⟨b, hb, rfl⟩)
      unfold brB at this ⊢
      simp only [Bool.and_eq_true] at this ⊢
      obtain ⟨⟨⟨c1, c2⟩, c3⟩, c4⟩ := this
      refine ⟨⟨⟨c1, ?_⟩, rowP_rightA hd bd' c3⟩, rfl⟩
      show decide (((b.2.map fun x => liT s x bv' (bd' + moreK t.kind)).length : Int) = partsK t.kind) = true
      rw [List.length_map]; exact c2
    · intro p hp
      rcases mem_pts hp with ⟨i, hi, e⟩ | ⟨b, hb, hx, e⟩
      · rw [hc] at hi e
        dsimp only at hi e
        obtain ⟨x, hx⟩ := someL (l := t.kids) (k := i) (by have := some_lt hi; rwa [liK_len] at this)
        rw [liK_get hx] at hi
        injection hi with hi
        rw [← hi, e]
        have := h2 _ (pts_kid hx)
        exact ok_li hv hd n x _ _ _ _ (by have := blk_kid (List.mem_of_getElem? hx); omega) this
      · rw [hc] at hb e
        dsimp only at hb e
        obtain ⟨c, hcm, rfl⟩ := List.mem_map.1 hb
        obtain ⟨x, hxm, e2⟩ := List.mem_map.1 hx
        rw [← e2, e]
        exact ok_li hv hd n x _ _ _ _ (by have := blk_sub hcm hxm; omega) (h2 _ (pts_sys hcm hxm))
theorem formed_li {s : Sf} (hv : 0 ≤ s.vb) (hd : 0 ≤ s.db) {t : Tm} (bv bd : Nat) (h : wrongN true 0 0 t = 0) : wrongN true 0 0 (liT s t bv bd) = 0 := by
  unfold wrongN at h ⊢
  rw [depth_li _ t bv bd (Nat.le_refl _)]
  split at h
  · cases h
  · rename_i h1
    rw [if_neg h1]
    split at h
    · rename_i h2; rw [if_pos (ok_li hv hd _ t 0 0 bv bd (Nat.le_refl _) h2)]
    · cases h
end Go.Proofs.YtocfamcclfhkcaaGreat

