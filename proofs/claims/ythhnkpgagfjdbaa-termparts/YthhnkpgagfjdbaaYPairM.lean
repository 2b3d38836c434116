/- Pairs, and parts of what is formed. -/
import Derived.Test.YthhnkpgagfjdbaaYRight
namespace Go.Proofs.Ythhnkpgagfjdbaa
open Go.RowKit
set_option linter.unusedVariables false
set_option linter.unusedSimpArgs false

/-- What is formed is so behind any binders. -/
theorem ok_open (V : Int) (D : Nat) (N : Nat) : ∀ (t : Tm), blk t ≤ N → ∀ bv bd bv' bd', okT true V D t bv bd = okT true V D t bv' bd' := by
  induction N with
  | zero => intro t h; have := blk_pos t; omega
  | succ N ih =>
    intro t h bv bd bv' bd'
    rw [ok_eq, ok_eq true V D t bv' bd']
    have e1 : t.node true V D bv bd = t.node true V D bv' bd' := by
      unfold Tm.node nodeB numB rowB
      have e : ∀ e b, brB true e t.kind b = brB true 0 t.kind b := fun e b => by unfold brB reachB; rfl
      rw [show brB true (D + bd) t.kind = brB true 0 t.kind from funext fun b => e _ b, show brB true (D + bd') t.kind = brB true 0 t.kind from funext fun b => e _ b]
      rfl
    have e2 : (t.pts.all fun p => okT true V D p.1 (bv + p.2.1) (bd + p.2.2)) = t.pts.all fun p => okT true V D p.1 (bv' + p.2.1) (bd' + p.2.2) := by
      rw [Bool.eq_iff_iff, List.all_eq_true, List.all_eq_true]
      constructor
      · intro hh p hp; exact (ih p.1 (by have := blk_pts hp; omega) _ _ _ _).trans (hh p hp)
      · intro hh p hp; exact (ih p.1 (by have := blk_pts hp; omega) _ _ _ _).trans (hh p hp)
    rw [e1, e2]
theorem dp_kid {t x : Tm} (h : x ∈ t.kids) : depthT x < depthT t := by
  rw [depth_eq t]
  have : depthT x ≤ dpL t.kids := maxL_mem (List.mem_map_of_mem h)
  omega
theorem formed_kid {t x : Tm} (h : x ∈ t.kids) (hf : wrongN true 0 0 t = 0) : wrongN true 0 0 x = 0 := by
  have hd := dp_kid h
  unfold wrongN at hf ⊢
  by_cases h1 : 200 < depthT t
  · rw [if_pos h1] at hf; cases hf
  · rw [if_neg h1] at hf
    rw [if_neg (by omega)]
    have hok : okT true 0 0 t 0 0 = true := by
      by_cases h2 : okT true 0 0 t 0 0 = true
      · exact h2
      · rw [if_neg h2] at hf; cases hf
    rw [ok_eq, Bool.and_eq_true, List.all_eq_true] at hok
    obtain ⟨i, hi⟩ := List.mem_iff_getElem?.1 h
    have := hok.2 _ (pts_kid hi)
    rw [ok_open 0 0 _ x (Nat.le_refl _) _ _ 0 0] at this
    rw [if_pos this]
def tP (t u : Tm) : Tm := .mk 8 0 ⟨#[]⟩ [] [t, u] []
theorem tP_pts (t u : Tm) : (tP t u).pts = [(t, 0, 0), (u, 0, 0)] := by rfl
theorem size_tP (t u : Tm) : sizeT (tP t u) = 1 + sizeT t + sizeT u := by
  rw [size_eq]; simp [tP, szL, szS]; omega
theorem depth_tP (t u : Tm) : depthT (tP t u) = 1 + max (depthT t) (depthT u) := by
  rw [depth_eq]; simp [tP, dpL, dpS, maxL]
theorem blk_tP (t u : Tm) : blk (tP t u) = 1 + blk t + blk u := by
  have e0 : ByteArray.size ⟨#[]⟩ = 0 := rfl
  rw [blk_eq]; simp [tP, blkL, blkS, e0]; omega
theorem node_tP (V : Int) (D : Nat) (hD : D ≤ 24) (t u : Tm) : (tP t u).node false V D 0 0 = true := by
  have e0 : ByteArray.size ⟨#[]⟩ = 0 := rfl
  have e1 : kidsK 8 = 2 := by kernel_rfl
  unfold Tm.node nodeB
  simp [tP, numB, nameB, rowB, e0, e1]
  exact hD
/-- A pair may be just if both may be. -/
theorem right_tP (V d : Int) (t u : Tm) (h1 : rightN V d (tP t u) ≠ 62) (h2 : rightN V d (tP t u) ≠ 2) : rightN V d (tP t u) = 0 ↔ rightN V d t = 0 ∧ rightN V d u = 0 := by
  unfold rightN at h1 h2 ⊢
  by_cases hb : V < 0 ∨ d < 0 ∨ 24 < d
  · rw [if_pos hb] at h2; exact absurd rfl h2
  · rw [if_neg hb] at h1 h2
    rw [if_neg hb, if_neg hb, if_neg hb]
    unfold wrongN at h1 ⊢
    have hd := depth_tP t u
    by_cases h3 : 200 < depthT (tP t u)
    · rw [if_pos h3] at h1; exact absurd rfl h1
    · rw [if_neg h3, if_neg (show ¬ 200 < depthT t by omega), if_neg (show ¬ 200 < depthT u by omega)]
      have e : okT false V d.toNat (tP t u) 0 0 = (okT false V d.toNat t 0 0 && okT false V d.toNat u 0 0) := by
        rw [ok_eq, tP_pts, node_tP V d.toNat (by omega)]; simp
      rw [e]
      cases okT false V d.toNat t 0 0 <;> cases okT false V d.toNat u 0 0 <;> simp
theorem size_kids {t : Tm} (h : t.sys = []) : sizeT t = 1 + szL t.kids := by
  rw [size_eq, h]; simp [szS]
end Go.Proofs.Ythhnkpgagfjdbaa
