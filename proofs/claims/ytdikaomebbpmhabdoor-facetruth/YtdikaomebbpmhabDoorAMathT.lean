/- Plain mathematics for the layer face: the face of a formula and its values. Nothing of the program is imported. -/
import Derived.Test.YtdikaomebbpmhabDoorAMath
import Derived.Test.YtdikaomebbpmhabDoorTMath
namespace Go.Proofs.YtdikaomebbpmhabDoor
set_option linter.unusedVariables false
set_option linter.unusedSimpArgs false

/-! ### values -/
/-- the value of a dimension where a clause is so. -/
def atC (c : C) (k : Nat) : Int := if c.2.val.testBit k then 0 else if c.1.val.testBit k then 1 else 2
theorem of_val {f : List C} {c : C} {v : Nat → Int} (hf : rightF f = true) (hc : singleC c = true) (hv : ∀ k, k < 24 → v k = atC c k) :
    undB (ofF f).1 c = decide (valF f v = 1) ∧ ((ofZ f).2 = 0 → undB (ofZ f).1 c = decide (valF f v = 0)) := by
  have hk := (singleC_iff.1 hc).2
  have hk' := okC_iff.1 hk
  have hr := rightC_iff.1 (singleC_iff.1 hc).1
  have hB : ∀ d, belC (cB v) d = belC c d := fun d => by
    rw [Bool.eq_iff_iff]; unfold cB; rw [bel_mk, belC_iff]
    constructor
    · intro h
      refine ⟨fun k hk1 x => ?_, fun k hk1 x => ?_⟩
      · have := (h k hk1).1 x; simp only [hv k hk1, atC] at this
        cases e1 : c.1.val.testBit k <;> cases e2 : c.2.val.testBit k <;> simp_all <;> exact absurd this (by decide)
      · have := (h k hk1).2 x; simp only [hv k hk1, atC] at this
        cases e1 : c.1.val.testBit k <;> cases e2 : c.2.val.testBit k <;> simp_all <;> exact absurd this (by decide)
    · intro h k hk1
      have h3 := hk' k hk1
      refine ⟨fun x => ?_, fun x => ?_⟩
      · have e1 := h.1 k hk1 x
        have e2 : c.2.val.testBit k = false := by cases e : c.2.val.testBit k; rfl; exact absurd ⟨e1, e⟩ h3
        simp only [hv k hk1, atC, e1, e2]; decide
      · have e1 := h.2 k hk1 x
        simp only [hv k hk1, atC, e1, if_true]; decide
  have hA : ∀ d, belC (cA v) d = true ↔ ¬ hit c d := fun d => by
    unfold cA hit; rw [bel_mk]
    constructor
    · rintro h ⟨k, hk1, x | x⟩
      · have := (h k hk1).1 x.1; simp only [hv k hk1, atC, x.2, if_true] at this; exact absurd this (by decide)
      · have := (h k hk1).2 x.1
        have e2 : c.2.val.testBit k = false := by cases e : c.2.val.testBit k; rfl; exact absurd ⟨x.2, e⟩ (hk' k hk1)
        simp only [hv k hk1, atC, x.2, e2] at this; exact absurd this (by decide)
    · intro h k hk1
      refine ⟨fun x => ?_, fun x => ?_⟩
      · have e2 : c.2.val.testBit k = false := by cases e : c.2.val.testBit k; rfl; exact absurd ⟨k, hk1, .inl ⟨x, e⟩⟩ h
        simp only [hv k hk1, atC, e2]; cases c.1.val.testBit k <;> decide
      · have e1 : c.1.val.testBit k = false := by cases e : c.1.val.testBit k; rfl; exact absurd ⟨k, hk1, .inr ⟨x, e⟩⟩ h
        simp only [hv k hk1, atC, e1]; cases c.2.val.testBit k <;> decide
  have hAB : ∀ d, belC c d = true → ¬ hit c d := fun d h x => by
    rw [belC_iff] at h
    obtain ⟨k, hk1, x | x⟩ := x
    · exact hk' k hk1 ⟨h.1 k hk1 x.1, x.2⟩
    · exact hk' k hk1 ⟨x.2, h.2 k hk1 x.1⟩
  have pb : pB (valF f v) = true ↔ dn f c := by rw [pB_val]; unfold dn; simp only [hB]
  have pa : pA (valF f v) = true ↔ ∃ d ∈ f, ¬ hit c d := by rw [pA_val]; unfold dn; simp only [hA]
  have hi : pB (valF f v) = true → pA (valF f v) = true := fun h => by
    obtain ⟨d, hd, hb⟩ := pb.1 h; exact pa.2 ⟨d, hd, hAB d hb⟩
  have hval := val_vOf f v
  have one : valF f v = 1 ↔ pB (valF f v) = true := by
    constructor
    · intro h; rw [h]; decide
    · intro h
      have h2 := hi h
      rw [hval, pB_vOf] at h; rw [hval, pA_vOf] at h2; rw [hval, h, h2]; rfl
  have zero : valF f v = 0 ↔ pA (valF f v) = false := by
    constructor
    · intro h; rw [h]; decide
    · intro h
      have h2 : pB (valF f v) = false := by cases e : pB (valF f v); rfl; rw [hi e] at h; exact absurd h (by simp)
      rw [hval, pB_vOf] at h2; rw [hval, pA_vOf] at h; rw [hval, h, h2]; rfl
  refine ⟨?_, fun h0 => ?_⟩
  · have h0 := ofF_told hf
    rw [Bool.eq_iff_iff, undB_iff, decide_eq_true_eq, one, pb]
    simp only [ofF, hf, if_true] at h0 ⊢
    rw [leastF_dn h0, dn_calm hk]
  · have hn : (notF f).2 = 0 := by
      by_cases e : (notF f).2 = 0
      · exact e
      · simp only [ofZ, if_neg e] at h0; exact absurd h0 e
    rw [Bool.eq_iff_iff, undB_iff, decide_eq_true_eq, zero]
    simp only [ofZ, if_pos hn] at h0 ⊢
    rw [leastF_dn h0, dn_calm hk, notF_dn hn, ← Bool.not_eq_true, pa]
    exact ⟨fun h ⟨d, hd, x⟩ => x (h d hd), fun h d hd => Classical.byContradiction (fun x => h ⟨d, hd, x⟩)⟩
end Go.Proofs.YtdikaomebbpmhabDoor
