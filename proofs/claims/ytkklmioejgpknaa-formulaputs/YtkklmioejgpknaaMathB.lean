/- More plain mathematics for the layer mask: what lifting and dropping do to the list of dimensions. -/
import Derived.Test.YtkklmioejgpknaaMath
namespace Go.Proofs.Ytkklmioejgpknaa
set_option linter.unusedVariables false

theorem freeI_at {s k : Nat} (h : ∀ j, j < k → s.testBit j = true) (hk : k < 24) (hn : s.testBit k = false) : freeI s = (k : Int) := by
  have : (List.range 24).find? (fun k => !s.testBit k) = some k := by
    rw [List.find?_range_eq_some]
    exact ⟨by simp [hn], by simpa using hk, fun j hj => by simp [h j hj]⟩
  unfold freeI; rw [this]
theorem freeI_none {s : Nat} (h : ∀ j, j < 24 → s.testBit j = true) : freeI s = -1 := by
  have : (List.range 24).find? (fun k => !s.testBit k) = none := by
    rw [List.find?_range_eq_none]
    exact fun j hj => by simp [h j hj]
  unfold freeI; rw [this]

theorem with_sum (s j : Nat) (hj : j < 24) : sumAll (dimsOf (withoutN s (j : Int)) ++ [j]) = withN s (j : Int) := by
  have hd := dimsOf_withoutN s (j : Int)
  have hnd : (dimsOf (withoutN s (j : Int)) ++ [j]).Nodup := by
    rw [List.nodup_append]
    refine ⟨sorted_nodup (dimsOf_sorted _), by simp, fun a ha b hb => ?_⟩
    simp at hb; subst hb
    rw [hd] at ha
    have := (List.mem_filter.1 ha).2
    simp [notI] at this
    omega
  rw [sumAll_eq hnd]
  apply Nat.eq_of_testBit_eq
  intro k
  rw [testBit_orAll, testBit_withN_nat s j k hj, hd, Bool.eq_iff_iff]
  by_cases e : j = k
  · subst e; simp
  · have e' : ¬ k = j := fun h => e h.symm
    have e2 : ¬ (j : Int) = (k : Int) := by omega
    simp [mem_dimsOf, notI, e, e', e2]

/-! Lifting. -/
theorem upK_lt {from_ by_ : Int} (hb : 0 ≤ by_) {a b : Nat} (h : a < b) : upK from_ by_ a < upK from_ by_ b := by
  unfold upK; split <;> split <;> omega
theorem up_sorted {from_ by_ : Int} (hb : 0 ≤ by_) {l : List Nat} (h : l.Pairwise (· < ·)) : (l.map (upK from_ by_)).Pairwise (· < ·) :=
  List.pairwise_map.2 (h.imp (fun h => upK_lt hb h))
theorem upK_bd {from_ by_ : Int} (hb : 0 ≤ by_) {k : Nat} (hk : k < 24) (hn : badK from_ by_ k = false) : upK from_ by_ k < 24 := by
  simp [badK] at hn
  unfold upK; split <;> omega
theorem up_bd {from_ by_ : Int} (hb : 0 ≤ by_) {l : List Nat} (h24 : ∀ k ∈ l, k < 24) (hn : liftBad from_ by_ l = false) : ∀ k ∈ l.map (upK from_ by_), k < 24 := by
  intro k hk
  obtain ⟨x, hx, rfl⟩ := List.mem_map.1 hk
  simp only [liftBad, List.any_eq_false] at hn
  exact upK_bd hb (h24 x hx) (by simpa using hn x hx)
/-- The list in the middle of its lifting: the first k are lifted. -/
def midL (f : Nat → Nat) (l : List Nat) (k : Nat) : List Nat := (l.take k).map f ++ l.drop k
theorem midL_length (f : Nat → Nat) (l : List Nat) (k : Nat) : (midL f l k).length = l.length := by simp [midL]; omega
theorem midL_zero (f : Nat → Nat) (l : List Nat) : midL f l 0 = l := by simp [midL]
theorem midL_end (f : Nat → Nat) (l : List Nat) : midL f l l.length = l.map f := by simp [midL]
theorem midL_at (f : Nat → Nat) (l : List Nat) (k : Nat) (h : k < l.length) : (midL f l k)[k]? = some (l[k]?.getD 0) := by
  have h1 : ((l.take k).map f).length = k := by simp; omega
  rw [midL, List.getElem?_append_right (by omega), h1, Nat.sub_self, List.getElem?_drop]
  simp [h]
theorem midL_set (f : Nat → Nat) (l : List Nat) (k : Nat) (h : k < l.length) : (midL f l k).set k (f (l[k]?.getD 0)) = midL f l (k + 1) := by
  have e : l[k]?.getD 0 = l[k] := by simp [h]
  rw [e]
  unfold midL
  rw [List.take_succ_eq_append_getElem h, List.drop_eq_getElem_cons h]
  have h1 : ((l.take k).map f).length = k := by simp; omega
  rw [List.set_append_right _ _ (by omega), h1]
  simp only [List.map_append, List.map_cons, List.map_nil, List.append_assoc, List.cons_append, List.nil_append, Nat.sub_self, List.set_cons_zero]
theorem midL_same (f : Nat → Nat) (l : List Nat) (k : Nat) (h : k < l.length) (hf : f (l[k]?.getD 0) = l[k]?.getD 0) : midL f l (k + 1) = midL f l k := by
  have e : l[k]?.getD 0 = l[k] := by simp [h]
  rw [e] at hf
  unfold midL
  rw [List.take_succ_eq_append_getElem h, List.drop_eq_getElem_cons h]
  simp only [List.map_append, List.map_cons, List.map_nil, List.append_assoc, List.cons_append, List.nil_append, hf]
theorem argB_no {from_ by_ : Int} (h1 : 0 ≤ from_) (h2 : 0 ≤ by_) : argB from_ by_ = false := by simp [argB]; omega
theorem argB_from {from_ by_ : Int} (h1 : from_ < 0) : argB from_ by_ = true := by simp [argB, h1]
theorem argB_by {from_ by_ : Int} (h1 : by_ < 0) : argB from_ by_ = true := by simp [argB, h1]
theorem lift_arg {s : Nat} {from_ by_ : Int} (h : argB from_ by_ = true) : liftN s from_ by_ = 0 ∧ liftE s from_ by_ = 2 := by simp [liftN, liftE, h]
theorem lift_bad {s : Nat} {from_ by_ : Int} (h : argB from_ by_ = false) (hb : liftBad from_ by_ (dimsOf s) = true) : liftN s from_ by_ = 0 ∧ liftE s from_ by_ = 10 := by simp [liftN, liftE, h, hb]
theorem lift_ok {s : Nat} {from_ by_ : Int} (h : argB from_ by_ = false) (hb : liftBad from_ by_ (dimsOf s) = false) : liftN s from_ by_ = orAll ((dimsOf s).map (upK from_ by_)) ∧ liftE s from_ by_ = 0 := by simp [liftN, liftE, h, hb]
theorem liftBad_mem {from_ by_ : Int} {l : List Nat} {k : Nat} (hk : k ∈ l) (hb : badK from_ by_ k = true) : liftBad from_ by_ l = true := by
  simp only [liftBad, List.any_eq_true]; exact ⟨k, hk, hb⟩
theorem liftN_lt (s : Nat) (from_ by_ : Int) : liftN s from_ by_ < 16777216 := by
  by_cases h : argB from_ by_ = true
  · rw [(lift_arg h).1]; decide
  · have h : argB from_ by_ = false := by simpa using h
    by_cases hb : liftBad from_ by_ (dimsOf s) = true
    · rw [(lift_bad h hb).1]; decide
    · have hb : liftBad from_ by_ (dimsOf s) = false := by simpa using hb
      have hby : 0 ≤ by_ := by simp [argB] at h; omega
      rw [(lift_ok h hb).1]
      exact orAll_lt (up_bd hby dimsOf_lt hb)

/-! Dropping. -/
def dnI (i : Int) (k : Nat) : Nat := if 0 ≤ i ∧ i < (k : Int) then k - 1 else k
theorem dnI_no {i : Int} {k : Nat} (h : ¬ (0 ≤ i ∧ i < (k : Int))) : dnI i k = k := by simp only [dnI, if_neg h]
theorem dnI_yes {i : Int} {k : Nat} (h0 : 0 ≤ i) (h1 : i < (k : Int)) : dnI i k = k - 1 := by simp only [dnI, if_pos (And.intro h0 h1)]
theorem dn_sorted (i : Int) : ∀ {l : List Nat}, l.Pairwise (· < ·) → (∀ k ∈ l, (k : Int) ≠ i) → (l.map (dnI i)).Pairwise (· < ·) := by
  intro l h hn
  rw [List.pairwise_map]
  refine List.Pairwise.imp_of_mem (fun {a b} ha hb hab => ?_) h
  have := hn a ha; have := hn b hb
  unfold dnI; split <;> split <;> omega
theorem drop_sum (s : Nat) (i : Int) : sumAll ((dimsOf (withoutN s i)).map (dnI i)) = dropN s i := by
  have hd := dimsOf_withoutN s i
  have hne : ∀ k ∈ dimsOf (withoutN s i), (k : Int) ≠ i := fun k hk => by
    rw [hd] at hk
    have := (List.mem_filter.1 hk).2
    simp [notI] at this
    exact fun h => this h.symm
  rw [sumAll_eq (sorted_nodup (dn_sorted i (dimsOf_sorted _) hne))]
  by_cases h : isDimB i = true
  · have h' : 0 ≤ i ∧ i < 24 := by simpa [isDimB] using h
    have e : (dimsOf (withoutN s i)).map (dnI i) = ((dimsOf s).filter (notI i)).map (downK i.toNat) := by
      rw [← hd]
      refine List.map_congr_left (fun k hk => ?_)
      have := hne k hk
      unfold dnI downK; split <;> split <;> omega
    rw [e]; simp [dropN, h]
  · have h : isDimB i = false := by simpa using h
    have h' : i < 0 ∨ 24 ≤ i := by simp [isDimB] at h; omega
    have e : (dimsOf (withoutN s i)).map (dnI i) = dimsOf (withoutN s i) := by
      conv => rhs; rw [← List.map_id (dimsOf (withoutN s i))]
      refine List.map_congr_left (fun k hk => ?_)
      have := dimsOf_lt k hk
      unfold dnI; split <;> simp <;> omega
    rw [e, ← low_eq, low_of_lt (withoutN_lt s i), withoutN_no h]; simp [dropN, h]
theorem dn_lt24 (s : Nat) (i : Int) : ∀ k ∈ (dimsOf (withoutN s i)).map (dnI i), k < 24 := by
  intro k hk
  obtain ⟨x, hx, rfl⟩ := List.mem_map.1 hk
  have := dimsOf_lt x hx
  unfold dnI; split <;> omega
theorem dropN_lt (s : Nat) (i : Int) : dropN s i < 16777216 := by
  by_cases h : isDimB i = true
  · rw [dropN, if_pos h]
    refine orAll_lt (fun k hk => ?_)
    obtain ⟨x, hx, rfl⟩ := List.mem_map.1 hk
    have := dimsOf_lt x (List.mem_filter.1 hx).1
    unfold downK; split <;> omega
  · rw [dropN, if_neg h]; exact low_lt s
end Go.Proofs.Ytkklmioejgpknaa
