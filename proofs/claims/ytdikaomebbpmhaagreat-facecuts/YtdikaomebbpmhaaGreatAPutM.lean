/- Plain mathematics for the layer face: Put, clause by clause. Nothing of the program is imported. -/
import Derived.Test.YtdikaomebbpmhaaGreatAMath
namespace Go.Proofs.YtdikaomebbpmhaaGreat
set_option linter.unusedVariables false
set_option linter.unusedSimpArgs false

theorem ptS_take_step {l : List C} {i : Int} {one : List C} {z : List C × Int} {k : Nat} {c : C} (h : l[k]? = some c) (h0 : (ptS (l.take k) i one z).2 = 0) : ptS (l.take (k + 1)) i one z = stpA i one z ((ptS (l.take k) i one z).1, 0) c := by
  have e : l.take (k + 1) = l.take k ++ [c] := by rw [List.take_add_one, h]; rfl
  rw [e, ptS_snoc, ← h0]
theorem stuckA {i : Int} {one : List C} {z : List C × Int} : ∀ (l : List C) (a : List C × Int), a.2 ≠ 0 → l.foldl (stpA i one z) a = a
  | [], _, _ => rfl
  | c :: l, a, h => by
    rw [List.foldl_cons]
    have e : stpA i one z a c = a := by unfold stpA; rw [if_neg h]
    rw [e]; exact stuckA l a h
theorem ptS_stuck {l : List C} {i : Int} {one : List C} {z : List C × Int} (hl : ∀ c ∈ l, okC c = true) (hz : ToldA z) (k : Nat) (h : (ptS (l.take k) i one z).2 ≠ 0) : ptS (l.take k) i one z = ([], 3) ∧ ptS l i one z = ([], 3) := by
  have ht := (ToldA.pts (f := l.take k) i one (fun c hc => hl c (List.mem_of_mem_take hc)) hz).no h
  have e : ptS l i one z = (l.drop k).foldl (stpA i one z) (ptS (l.take k) i one z) := by
    unfold ptS
    rw [← List.foldl_append, List.take_append_drop]
  refine ⟨ht, ?_⟩
  rw [e, stuckA _ _ h, ht]
theorem stpA_some (i : Int) (one : List C) (z : List C × Int) (M : List C) (c : C) : stpA i one z (M, 0) c = if (prtA c i one z).2 = 0 then leastF (M ++ (prtA c i one z).1) else ([], (prtA c i one z).2) := by simp [stpA]
theorem prt_p {c : C} {i : Int} {one : List C} {z : List C × Int} (h : hasB c.1.val i = true) : prtA c i one z = mtR [outC c i] one := by simp [prtA, h]
theorem prt_n {c : C} {i : Int} {one : List C} {z : List C × Int} (h : hasB c.1.val i = false) (h2 : hasB c.2.val i = true) : prtA c i one z = if z.2 = 0 then mtR [outC c i] z.1 else z := by simp [prtA, h, h2]
theorem prt_o {c : C} {i : Int} {one : List C} {z : List C × Int} (h : hasB c.1.val i = false) (h2 : hasB c.2.val i = false) : prtA c i one z = ([outC c i], 0) := by simp [prtA, h, h2]
theorem not_both {c : C} {i : Int} (hc : okC c = true) (h : hasB c.1.val i = true) : hasB c.2.val i = false := by
  cases e : hasB c.2.val i
  · rfl
  · exfalso
    simp only [hasB, Bool.and_eq_true] at h e
    have hi : 0 ≤ i ∧ i < 24 := by simpa [isDimB] using h.1
    exact okC_iff.1 hc i.toNat (by omega) ⟨h.2, e.2⟩
theorem mt_top {c : C} (h : rightC c = true) (hk : okC c = true) : mtR [c] [top0] = ([c], 0) := by
  have e : meetC c top0 = c := by
    have h1 := fright_bits h
    refine c_bits (fun k => ?_) (fun k => ?_)
    · rw [(meet_bits c top0 k).1]; rw [← (h1 k).1]; simp [top0]
    · rw [(meet_bits c top0 k).2]; rw [← (h1 k).2]; simp [top0]
  have e2 : calmC (pairsC [c] [top0]) = [c] := by simp [pairsC, calmC, e, hk]
  unfold mtR; rw [e2]; exact leastF_one h
theorem mtA_top {c : C} (h : rightC c = true) (hk : okC c = true) : mtA [c] [top0] = ([c], 0) := by
  rw [mtA_ok (rightA_one h hk) (rightA_one top_right (by decide))]; exact mt_top h hk
/-- a set without what another one has, one after another. -/
def outFrom (a : Nat) (l : List Nat) : Nat := l.foldl (fun (a k : Nat) => withoutN a (k : Int)) a
theorem outFrom_snoc (a : Nat) (l : List Nat) (k : Nat) : outFrom a (l ++ [k]) = withoutN (outFrom a l) (k : Int) := by simp [outFrom]
theorem outFrom_lt {a : Nat} (ha : a < 16777216) (l : List Nat) : outFrom a l < 16777216 := by
  rcases List.eq_nil_or_concat l with rfl | ⟨m, k, rfl⟩
  · exact ha
  · rw [List.concat_eq_append, outFrom_snoc]; exact withoutN_lt _ _
theorem testBit_outFrom {a : Nat} (ha : a < 16777216) (l : List Nat) (h24 : ∀ k ∈ l, k < 24) (j : Nat) : (outFrom a l).testBit j = (a.testBit j && !decide (j ∈ l)) := by
  induction l using snoc_ind with
  | nil => simp [outFrom]
  | snoc o k ih =>
    rw [outFrom_snoc, testBit_withoutN_nat _ _ _ (h24 k (by simp)), ih (fun x hx => h24 x (by simp [hx]))]
    have hb : decide (j < 24) = true ∨ a.testBit j = false := by
      rcases Nat.lt_or_ge j 24 with h | h
      · exact .inl (decide_eq_true h)
      · exact .inr (Nat.testBit_lt_two_pow (Nat.lt_of_lt_of_le ha (by simpa using Nat.pow_le_pow_right (n := 2) (by decide) h)))
    rcases hb with hb | hb
    · rw [hb]
      by_cases e : k = j
      · simp [e]
      · have e' : ¬ j = k := fun h => e h.symm
        simp [e, e']
    · simp [hb]
theorem outFrom_end {a b : Nat} (ha : a < 16777216) : outFrom a (dimsOf b) = andNot32 a b := by
  refine Nat.eq_of_testBit_eq (fun j => ?_)
  rw [testBit_outFrom ha _ dimsOf_lt, testBit_andNot32 _ _ _ (by omega)]
  rcases Nat.lt_or_ge j 24 with h | h
  · congr 1
    congr 1
    rw [Bool.eq_iff_iff, decide_eq_true_eq, mem_dimsOf]
    simp [h]
  · rw [Nat.testBit_lt_two_pow (Nat.lt_of_lt_of_le ha (by simpa using Nat.pow_le_pow_right (n := 2) (by decide) h))]; simp
end Go.Proofs.YtdikaomebbpmhaaGreat
