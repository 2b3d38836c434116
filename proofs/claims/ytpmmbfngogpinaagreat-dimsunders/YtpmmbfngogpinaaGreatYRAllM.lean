/- Which terms may be, by the document. -/
import Derived.Deep.DeepCutAuto
import Derived.Deep.CutBlock
import Derived.Test.YtpmmbfngogpinaaGreatYRName
import Derived.Test.YtpmmbfngogpinaaGreatYRSize
namespace Go.Proofs.YtpmmbfngogpinaaGreat
open Go.RowKit
set_option linter.unusedVariables false
set_option linter.unusedSimpArgs false

def dBr (o : Bool) (D : Nat) : Nat := if o then 24 else D
/-- What the document's number of variables is, behind so many binders: none below 0; where it goes beyond the numbers, too. -/
def VRel (o : Bool) (V : Int) (bv : Nat) (VV : Int) : Prop := I64 VV ∧ ((o = true ∧ VV < 0) ∨ (o = false ∧ 0 ≤ V ∧ (VV = V + bv ∨ (VV < 0 ∧ 9223372036854775807 < V + bv))))
theorem VRel.zero {o : Bool} {V : Int} {bv : Nat} {VV : Int} (h : VRel o V bv VV) (b : Nat) (hb : b ≤ 1) (hz : b = 0 ∨ VV < 0) : VRel o V (bv + b) VV := by
  obtain ⟨h0, h1 | ⟨h1, h2, h3⟩⟩ := h
  · exact ⟨h0, .inl h1⟩
  · refine ⟨h0, .inr ⟨h1, h2, ?_⟩⟩
    rcases h3 with h3 | h3
    · rcases hz with hz | hz
      · left; omega
      · exfalso; omega
    · right; omega
theorem w64_id {x : Int} (h : I64 x) : wrap64 x = x := by
  obtain ⟨h1, h2⟩ := h
  unfold wrap64; omega
theorem VRel.step {o : Bool} {V : Int} {bv : Nat} {VV : Int} (h : VRel o V bv VV) (h0 : 0 ≤ VV) (b : Nat) (hb : b ≤ 1) : VRel o V (bv + b) (wrap64 (VV + (b : Int))) := by
  obtain ⟨⟨i1, i2⟩, h1 | ⟨h1, h2, h3⟩⟩ := h
  · omega
  · have e : VV = V + bv := by omega
    unfold VRel I64 wrap64
    refine ⟨?_, .inr ⟨h1, h2, ?_⟩⟩ <;> omega
theorem num_rel {o : Bool} {V : Int} {bv : Nat} {VV n : Int} (h : VRel o V bv VV) (hn : n ≤ 9223372036854775807) : numB o V bv 1 n = true ↔ 0 ≤ n ∧ (VV < 0 ∨ n < VV) := by
  unfold numB
  rw [if_pos rfl, Bool.and_eq_true, decide_eq_true_eq, Bool.or_eq_true, decide_eq_true_eq]
  obtain ⟨_, h1 | ⟨h1, h2, h3⟩⟩ := h
  · rw [h1.1]; simp [h1.2]
  · rw [h1]; simp only [Bool.false_eq_true, false_or]; omega
def rowR (k : Int) (r : List C) : Bool := if k = 13 ∨ k = 21 ∨ k = 26 then rightF r else if k = 14 then rightA r else decide (r.length = 0)
def lowB (o : Bool) (D bd : Nat) (r : List C) : Bool := decide (dimsN r / 2 ^ (dBr o D + bd) = 0)
theorem reach_low (o : Bool) (D bd : Nat) (r : List C) : reachB o (D + bd) r = lowB o D bd r := by
  unfold reachB lowB dBr
  cases o with
  | false => simp
  | true =>
    simp only [Bool.true_or, if_true]
    rw [decide_eq_true]
    exact Nat.div_eq_of_lt (Nat.lt_of_lt_of_le (dimsN_lt r) (show 2 ^ 24 ≤ 2 ^ (24 + bd) from Nat.pow_le_pow_right (by omega) (by omega)))
theorem row_low (o : Bool) (D bd : Nat) (k : Int) (r : List C) : rowB o (D + bd) k r = (rowR k r && lowB o D bd r) := by
  unfold rowB rowR
  split
  · rw [reach_low]
  · split
    · rw [reach_low]
    · by_cases h : r.length = 0
      · have : r = [] := List.eq_nil_of_length_eq_zero h
        rw [this]; simp [lowB, dimsN]
      · rw [decide_eq_false h]; rfl
theorem br_low (o : Bool) (D bd : Nat) (k : Int) (b : List C × Nat) : brB o (D + bd) k b = (!decide (partsK k = 0) && decide ((b.2 : Int) = partsK k) && rightA b.1 && lowB o D bd b.1) := by
  unfold brB; rw [reach_low]
def RAlC (o : Bool) (V : Int) (D : Nat) (N : Nat) : Prop := ∀ (t : Tm) (v : Value) (bv bd : Nat) (VV : Int) (w : World), blk t ≤ N → blk t ≤ 40000 → bv + blk t ≤ 100000 → bd + blk t ≤ 100000 → VRel o V bv VV → TmIn Tt w t v →
  Calls Tryz.prog 102 #[v, .int .i64 VV, .int .i64 ((dBr o D + bd : Nat) : Int), .bool (!o)] w fun e w' => e = .returned (.bool (okT o V D t bv bd)) ∧ Below w.heap.size w w'
end Go.Proofs.YtpmmbfngogpinaaGreat
