/- Lifts add up: what the document's sentence comes to. -/
import Derived.Test.YtmaijbeghemkbaaYLgF
import Derived.Test.YtmaijbeghemkbaaYLfG
namespace Go.Proofs.Ytmaijbeghemkbaa
open Go.RowKit
set_option linter.unusedVariables false
set_option linter.unusedSimpArgs false

theorem wrL_zero {ot by_ : Int} {t : Tm} (h : wrongN true 0 0 t = 0) (h1 : 0 ≤ ot) (h2 : 0 ≤ by_ ∧ by_ ≤ 1000000) : wrL ot by_ t = 0 := by
  unfold wrL; rw [if_pos h, if_neg (by omega)]
theorem zero_wrong : wrongN true 0 0 zeroT = 100 := by decide +kernel
theorem wrL_bad (ot by_ : Int) : wrL ot by_ zeroT = 100 := by
  unfold wrL; rw [zero_wrong]; rfl
theorem both_eq {vs ds : Int} {t : Tm} (h : wrongN true 0 0 t = 0) (h1 : 0 ≤ vs ∧ vs ≤ 1000000) (h2 : 0 ≤ ds ∧ ds ≤ 1000000) :
    bothE vs ds t = (if erT (sf vs 0) t 0 0 = 0 then erT (sf vs ds) t 0 0 else erT (sf vs 0) t 0 0) ∧ bothT vs ds t = if bothE vs ds t = 0 then liT (sf vs ds) t 0 0 else zeroT := by
  have e1 := er_li (a := vs) (b := 0) (c := 0) (d := ds) h1.1 (.inl rfl) _ t 0 0 (Nat.le_refl _)
  have e2 := li_li (a := vs) (b := 0) (c := 0) (d := ds) h1.1 (.inl rfl) _ t 0 0 (Nat.le_refl _)
  rw [Int.add_zero] at e1 e2
  rw [Int.zero_add] at e2
  refine ⟨?_, ?_⟩
  · unfold bothE
    rw [if_pos (wrL_zero h h2.1 h1), if_neg (show ¬ 1000000 < ds by omega)]
    show (if erT (sf vs 0) t 0 0 = 0 then erT (sf 0 ds) (liT (sf vs 0) t 0 0) 0 0 else erT (sf vs 0) t 0 0) = _
    rw [e1]
  · show (if bothE vs ds t = 0 then liT (sf 0 ds) (liT (sf vs 0) t 0 0) 0 0 else zeroT) = _
    rw [e2]
theorem vars_eq {a : Int} {t : Tm} (h : wrongN true 0 0 t = 0) (h1 : 0 ≤ a ∧ a ≤ 1000000) : varsE 0 a t = erT (sf a 0) t 0 0 ∧ varsT 0 a t = if erT (sf a 0) t 0 0 = 0 then liT (sf a 0) t 0 0 else zeroT := by
  unfold varsE varsT apE apT
  rw [if_pos (wrL_zero h (Int.le_refl 0) h1), if_pos (wrL_zero h (Int.le_refl 0) h1)]
  exact ⟨rfl, rfl⟩
theorem dims_eq {b : Int} {t : Tm} (h : wrongN true 0 0 t = 0) (h1 : 0 ≤ b ∧ b ≤ 1000000) : dimsE 0 b t = erT (sf 0 b) t 0 0 ∧ dimsT 0 b t = if erT (sf 0 b) t 0 0 = 0 then liT (sf 0 b) t 0 0 else zeroT := by
  unfold dimsE dimsT apE apT
  rw [if_pos (wrL_zero h (Int.le_refl 0) h1), if_pos (wrL_zero h (Int.le_refl 0) h1)]
  exact ⟨rfl, rfl⟩
theorem both_zero (vs ds : Int) : bothE vs ds zeroT = 100 ∧ bothT vs ds zeroT = zeroT := by
  have e : bothE vs ds zeroT = 100 := by unfold bothE; rw [wrL_bad, if_neg (by decide)]
  exact ⟨e, by unfold bothT; rw [e, if_neg (by decide)]⟩
theorem vars_zero (a b : Int) : varsE a b zeroT = 100 ∧ varsT a b zeroT = zeroT := by
  unfold varsE varsT apE apT; rw [wrL_bad, if_neg (by decide), if_neg (by decide)]; exact ⟨rfl, rfl⟩
theorem dims_zero (a b : Int) : dimsE a b zeroT = 100 ∧ dimsT a b zeroT = zeroT := by
  unfold dimsE dimsT apE apT; rw [wrL_bad, if_neg (by decide), if_neg (by decide)]; exact ⟨rfl, rfl⟩
theorem blk_zero : blk zeroT = 1 := by decide +kernel
theorem blk_both (vs ds : Int) (t : Tm) : blk (bothT vs ds t) ≤ blk t := by
  unfold bothT
  split
  · exact Nat.le_trans (blk_li _ _ 0 0 (Nat.le_refl _)) (blk_li _ t 0 0 (Nat.le_refl _))
  · rw [blk_zero]; exact blk_pos t
theorem blk_ap (e0 : Int) (s : Sf) (t : Tm) : blk (apT e0 s t) ≤ blk t := by
  unfold apT ansL
  split
  · split
    · exact blk_li _ t 0 0 (Nat.le_refl _)
    · rw [blk_zero]; exact blk_pos t
  · rw [blk_zero]; exact blk_pos t
theorem adds_one {t : Tm} (h : wrongN true 0 0 t = 0) : (bothE 0 0 t = 0 ∧ bothT 0 0 t = t) ∨ (bothE 0 0 t = 100 ∧ farT t = true) := by
  obtain ⟨e1, e2⟩ := both_eq (vs := 0) (ds := 0) h (by omega) (by omega)
  have e3 : bothE 0 0 t = erT (sf 0 0) t 0 0 := by rw [e1]; split <;> rfl
  rcases er_far _ t 0 0 (Nat.le_refl _) with h0 | ⟨h0, hf⟩
  · left
    refine ⟨by rw [e3, h0], ?_⟩
    rw [e2, e3, if_pos h0, li_zero _ t 0 0 (Nat.le_refl _)]
  · exact .inr ⟨by rw [e3, h0], hf⟩
theorem adds_two {a b c : Int} (ha : 0 ≤ a ∧ a ≤ 20) (hb : 0 ≤ b ∧ b ≤ 20) (hc : 0 ≤ c ∧ c ≤ 20) {t : Tm} (h : wrongN true 0 0 t = 0) :
    (bothE a b t = 0 → bothE c 0 (bothT a b t) = bothE (a + c) b t ∧ bothT c 0 (bothT a b t) = bothT (a + c) b t) ∧ (bothE a b t ≠ 0 → bothE (a + c) b t ≠ 0) := by
  obtain ⟨e1, e2⟩ := both_eq (vs := a) (ds := b) h (by omega) (by omega)
  obtain ⟨g1, g2⟩ := both_eq (vs := a + c) (ds := b) h (by omega) (by omega)
  refine ⟨fun h0 => ?_, fun h0 h1 => ?_⟩
  · have hA : erT (sf a 0) t 0 0 = 0 := by
      by_cases hA : erT (sf a 0) t 0 0 = 0
      · exact hA
      · rw [e1, if_neg hA] at h0; exact absurd h0 hA
    have hE : erT (sf a b) t 0 0 = 0 := by rw [e1, if_pos hA] at h0; exact h0
    rw [e2, if_pos h0]
    have hf := formed_li (s := sf a b) (t := t) ha.1 hb.1 0 0 h
    obtain ⟨f1, f2⟩ := both_eq (vs := c) (ds := 0) hf (by omega) (by omega)
    have k1 := er_li (a := a) (b := b) (c := c) (d := 0) ha.1 (.inr rfl) _ t 0 0 (Nat.le_refl _)
    have k2 := li_li (a := a) (b := b) (c := c) (d := 0) ha.1 (.inr rfl) _ t 0 0 (Nat.le_refl _)
    rw [Int.add_zero] at k2
    have k3 : bothE c 0 (liT (sf a b) t 0 0) = erT (sf (a + c) 0) t 0 0 := by rw [f1, k1]; split <;> rfl
    have k4 : bothE (a + c) b t = erT (sf (a + c) 0) t 0 0 := by
      rw [g1]
      by_cases hA2 : erT (sf (a + c) 0) t 0 0 = 0
      · rw [if_pos hA2, ← er_rows _ t 0 0 (Nat.le_refl _) hA hA2, hE, hA2]
      · rw [if_neg hA2]
    refine ⟨by rw [k3, k4], ?_⟩
    rw [f2, g2, k3, k4, k2]
  · have hA2 : erT (sf (a + c) 0) t 0 0 = 0 := by
      by_cases hA2 : erT (sf (a + c) 0) t 0 0 = 0
      · exact hA2
      · rw [g1, if_neg hA2] at h1; exact absurd h1 hA2
    have hA := er_mono hc.1 _ t 0 0 (Nat.le_refl _) hA2
    apply h0
    rw [e1, if_pos hA, er_rows _ t 0 0 (Nat.le_refl _) hA hA2]
    rw [g1, if_pos hA2] at h1
    exact h1
theorem adds_three {a b : Int} (ha : 0 ≤ a ∧ a ≤ 20) (hb : 0 ≤ b ∧ b ≤ 20) {t : Tm} (h : wrongN true 0 0 t = 0) (hz : bothE 0 0 t = 0) (hh : varsE 0 a t = 0) :
    (dimsE 0 b (varsT 0 a t) = 0 ↔ dimsE 0 b t = 0 ∧ varsE 0 a (dimsT 0 b t) = 0) ∧ dimsT 0 b (varsT 0 a t) = varsT 0 a (dimsT 0 b t) ∧ dimsE 0 b (varsT 0 a t) = bothE a b t ∧ dimsT 0 b (varsT 0 a t) = bothT a b t := by
  obtain ⟨e1, e2⟩ := both_eq (vs := a) (ds := b) h (by omega) (by omega)
  obtain ⟨z1, _⟩ := both_eq (vs := 0) (ds := 0) h (by omega) (by omega)
  obtain ⟨v1, v2⟩ := vars_eq (a := a) h (by omega)
  obtain ⟨d1, d2⟩ := dims_eq (b := b) h (by omega)
  have hZ : erT (sf 0 0) t 0 0 = 0 := by rw [z1] at hz; split at hz <;> assumption
  rw [v1] at hh
  rw [v2, if_pos hh]
  have hfv := formed_li (s := sf a 0) (t := t) ha.1 (Int.le_refl 0) 0 0 h
  obtain ⟨i1, i2⟩ := dims_eq (b := b) hfv (by omega)
  have k1 := er_li (a := a) (b := 0) (c := 0) (d := b) ha.1 (.inl rfl) _ t 0 0 (Nat.le_refl _)
  have k2 := li_li (a := a) (b := 0) (c := 0) (d := b) ha.1 (.inl rfl) _ t 0 0 (Nat.le_refl _)
  rw [Int.add_zero] at k1 k2
  rw [Int.zero_add] at k2
  rw [k1] at i1 i2
  rw [k2] at i2
  have hj : dimsE 0 b t = erT (sf a b) t 0 0 := by rw [d1]; exact er_rows _ t 0 0 (Nat.le_refl _) hZ hh
  rw [d1] at hj
  have he : bothE a b t = erT (sf a b) t 0 0 := by rw [e1, if_pos hh]
  rw [he] at e2
  rw [i1, he, i2, e2]
  by_cases h0 : erT (sf a b) t 0 0 = 0
  · have hjz : erT (sf 0 b) t 0 0 = 0 := hj.trans h0
    rw [d1, d2, if_pos hjz, if_pos h0]
    have hfd := formed_li (s := sf 0 b) (t := t) (Int.le_refl 0) hb.1 0 0 h
    obtain ⟨q1, q2⟩ := vars_eq (a := a) hfd (by omega)
    have m1 := er_li (a := 0) (b := b) (c := a) (d := 0) (Int.le_refl 0) (.inr rfl) _ t 0 0 (Nat.le_refl _)
    have m2 := li_li (a := 0) (b := b) (c := a) (d := 0) (Int.le_refl 0) (.inr rfl) _ t 0 0 (Nat.le_refl _)
    rw [Int.zero_add] at m1 m2
    rw [Int.add_zero] at m2
    rw [m1, hh] at q1 q2
    rw [m2, if_pos rfl] at q2
    exact ⟨⟨fun _ => ⟨hjz, q1⟩, fun _ => h0⟩, q2.symm, rfl, rfl⟩
  · have hjz : ¬ erT (sf 0 b) t 0 0 = 0 := fun e => h0 (hj.symm.trans e)
    rw [d1, d2, if_neg hjz, if_neg h0, (vars_zero 0 a).1, (vars_zero 0 a).2]
    exact ⟨⟨fun e => absurd e h0, fun e => absurd e.1 hjz⟩, rfl, rfl, rfl⟩
end Go.Proofs.Ytmaijbeghemkbaa
