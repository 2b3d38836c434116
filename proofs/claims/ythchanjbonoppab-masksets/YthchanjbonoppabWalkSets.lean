/- The walk of the law MaskSets: the call returns true; nothing that lay before it turns. -/
import Derived.OpenShut
import Derived.Test.YthchanjbonoppabWorks
import Derived.Test.YthchanjbonoppabMathC
namespace Go.Proofs.Ythchanjbonoppab
open Go.RowKit

set_option maxRecDepth 100000 in
set_option maxHeartbeats 4000000 in
theorem walk_MaskSets (a0 a1 a2 : Int) (w0 : (Lit.int .u32 a0).wf = true) (_ : (Lit.int .i64 a1).wf = true) (_ : (Lit.int .i64 a2).wf = true) (w : World) :
    Calls Try.prog 3 #[.int .u32 a0, .int .i64 a1, .int .i64 a2] w fun e w' => e = .returned (.bool true) ∧ Below w.heap.size w w' := by
  have hb := bounds_u32 w0
  obtain ⟨s, rfl⟩ := Int.eq_ofNat_of_zero_le hb.1
  have hs : s < 4294967296 := by omega
  clear hb w0
  by_cases hd : isDimB a1 = true
  · have h' : 0 ≤ a1 ∧ a1 < 24 := by simpa [isDimB] using hd
    obtain ⟨j, rfl⟩ := Int.eq_ofNat_of_zero_le h'.1
    have hj : j < 24 := by omega
    clear h' hd
    have hx : withN s (j : Int) < 4294967296 := by have := withN_lt s (j : Int); omega
    have hy : withoutN s (j : Int) < 4294967296 := by have := withoutN_lt s (j : Int); omega
    have e1 := sets_has_with (s := s) hj
    have e2 := sets_has_without (s := s) hj
    have e3 := sets_count (s := s) hj
    have e4 := sets_back (s := s) hj
    have e5 := sets_forth (s := s) hj
    have hcb : countN (withoutN s (j : Int)) ≤ 24 := dimsOf_length_le _
    have hW := with_any s (j : Int) w hs
    have hV := without_any s (j : Int) w hs
    have e6 : a2 ≠ (j : Int) → hasB (withN s (j : Int)) a2 = hasB s a2 := sets_other_with hj
    have e7 : a2 ≠ (j : Int) → hasB (withoutN s (j : Int)) a2 = hasB s a2 := sets_other_without hj
    clear hW hV
    have hB : Below w.heap.size w w := Below.refl _ _
    by_cases hk : a2 = (j : Int)
    · clear e6 e7
      subst hk
      go_enter Try.func3, Try.ntmps3
      go_wp2_with (first
        | (go_at_call 4; refine (works_any _).mono ?_; rintro e w1 ⟨rfl, hB1⟩; replace hB := chain hB hB1; clear hB1)
        | (go_at_call 5; refine (with_any _ _ _ (by assumption)).mono ?_; rintro e wa ⟨rfl, rfl⟩)
        | (go_at_call 6; refine (without_any _ _ _ (by assumption)).mono ?_; rintro e wa ⟨rfl, rfl⟩)
        | (go_at_call 7; refine (has_any _ _ _ (by assumption)).mono ?_; rintro e wa ⟨rfl, rfl⟩)
        | (go_at_call 8; refine (count_any _ _ (by assumption)).mono ?_; rintro e w2 ⟨rfl, hB2⟩; replace hB := chain hB hB2; clear hB2))
      go_ret
      exact ⟨rfl, hB⟩
    · replace e6 := e6 hk
      replace e7 := e7 hk
      have hk' : (a2 == (j : Int)) = false := by simpa using hk
      clear hk
      go_enter Try.func3, Try.ntmps3
      go_wp2_with (first
        | (go_at_call 4; refine (works_any _).mono ?_; rintro e w1 ⟨rfl, hB1⟩; replace hB := chain hB hB1; clear hB1)
        | (go_at_call 5; refine (with_any _ _ _ (by assumption)).mono ?_; rintro e wa ⟨rfl, rfl⟩)
        | (go_at_call 6; refine (without_any _ _ _ (by assumption)).mono ?_; rintro e wa ⟨rfl, rfl⟩)
        | (go_at_call 7; refine (has_any _ _ _ (by assumption)).mono ?_; rintro e wa ⟨rfl, rfl⟩)
        | (go_at_call 8; refine (count_any _ _ (by assumption)).mono ?_; rintro e w2 ⟨rfl, hB2⟩; replace hB := chain hB hB2; clear hB2))
      go_ret
      exact ⟨rfl, hB⟩
  · have hd : isDimB a1 = false := by simpa using hd
    have e1 : withN s a1 = withoutN s a1 := (withN_no hd).trans (withoutN_no hd).symm
    have e2 : hasB s a1 = false := hasB_no hd
    have ho : a1 < 0 ∨ 24 ≤ a1 := by simp [isDimB] at hd; omega
    clear hd
    have hB : Below w.heap.size w w := Below.refl _ _
    rcases ho with h | h
    all_goals
      go_enter Try.func3, Try.ntmps3
      go_wp2_with (first
        | (go_at_call 4; refine (works_any _).mono ?_; rintro e w1 ⟨rfl, hB1⟩; replace hB := chain hB hB1; clear hB1)
        | (go_at_call 5; refine (with_any _ _ _ (by assumption)).mono ?_; rintro e wa ⟨rfl, rfl⟩)
        | (go_at_call 6; refine (without_any _ _ _ (by assumption)).mono ?_; rintro e wa ⟨rfl, rfl⟩)
        | (go_at_call 7; refine (has_any _ _ _ (by assumption)).mono ?_; rintro e wa ⟨rfl, rfl⟩))
      go_ret
      exact ⟨rfl, hB⟩
end Go.Proofs.Ythchanjbonoppab
