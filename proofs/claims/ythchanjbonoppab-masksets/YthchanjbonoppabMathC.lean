/- Plain mathematics behind the laws MaskBack, MaskAdds and MaskSets. -/
import Derived.Test.YthchanjbonoppabMathB
namespace Go.Proofs.Ythchanjbonoppab
set_option linter.unusedVariables false

theorem liftE_cases {s : Nat} {fr by_ : Int} (h0 : 0 ≤ fr) (h1 : 0 ≤ by_) : (liftE s fr by_ = 0 ∧ liftBad fr by_ (dimsOf s) = false) ∨ (liftE s fr by_ = 10 ∧ liftBad fr by_ (dimsOf s) = true) := by
  by_cases hb : liftBad fr by_ (dimsOf s) = true
  · exact .inr ⟨(lift_bad (argB_no h0 h1) hb).2, hb⟩
  · have hb : liftBad fr by_ (dimsOf s) = false := by simpa using hb
    exact .inl ⟨(lift_ok (argB_no h0 h1) hb).2, hb⟩
theorem dims_lift {s : Nat} {fr by_ : Int} (h0 : 0 ≤ fr) (h1 : 0 ≤ by_) (hb : liftBad fr by_ (dimsOf s) = false) : dimsOf (liftN s fr by_) = (dimsOf s).map (upK fr by_) := by
  rw [(lift_ok (argB_no h0 h1) hb).1]
  exact dimsOf_orAll (up_sorted h1 (dimsOf_sorted s)) (up_bd h1 dimsOf_lt hb)

/-! MaskBack. -/
theorem back_bad {s j : Nat} (hb : liftBad (j : Int) 1 (dimsOf s) = true) : hasB s 23 = true := by
  simp only [liftBad, List.any_eq_true] at hb
  obtain ⟨k, hk, hkb⟩ := hb
  have h24 := dimsOf_lt k hk
  simp [badK] at hkb
  obtain rfl : k = 23 := by omega
  have := (mem_dimsOf.1 hk).2
  exact (hasB_nat (s := s) (k := 23) (by omega)).trans this
theorem back_ok {s j : Nat} (hj : j < 24) (hb : liftBad (j : Int) 1 (dimsOf s) = false) :
    hasB (liftN s (j : Int) 1) (j : Int) = false ∧ countN (liftN s (j : Int) 1) = countN s ∧ dropN (liftN s (j : Int) 1) (j : Int) = withoutN s (-1) := by
  have hd := dims_lift (s := s) (fr := (j : Int)) (by_ := 1) (by omega) (by omega) hb
  have hn : j ∉ (dimsOf s).map (upK (j : Int) 1) := fun h => by
    obtain ⟨k, _, hk⟩ := List.mem_map.1 h
    unfold upK at hk
    split at hk <;> omega
  refine ⟨?_, ?_, ?_⟩
  · rw [hasB_nat hj]
    rw [← hd] at hn
    have := fun h => hn (mem_dimsOf.2 ⟨hj, h⟩)
    simpa using this
  · unfold countN; rw [hd, List.length_map]
  · rw [withoutN_no (isDimB_lo (by omega)), low_eq, dropN, isDimB_nat hj]
    simp only [if_true, Int.toNat_natCast]
    rw [hd]
    have hf : ((dimsOf s).map (upK (j : Int) 1)).filter (notI (j : Int)) = (dimsOf s).map (upK (j : Int) 1) := by
      rw [List.filter_eq_self]
      intro k hk
      have : k ≠ j := fun e => hn (e ▸ hk)
      simp [notI]; omega
    rw [hf, List.map_map]
    congr 1
    conv => rhs; rw [← List.map_id (dimsOf s)]
    refine List.map_congr_left (fun k _ => ?_)
    simp only [Function.comp, id]
    unfold downK upK
    split <;> split <;> omega

/-! MaskAdds. -/
theorem adds_bad {s : Nat} {fr a b : Int} (h0 : 0 ≤ fr) (ha : 0 ≤ a) (hb : 0 ≤ b) (h : liftBad fr a (dimsOf s) = true) : liftE s fr (a + b) = 10 ∧ liftN s fr (a + b) = 0 := by
  have : liftBad fr (a + b) (dimsOf s) = true := by
    simp only [liftBad, List.any_eq_true] at h
    obtain ⟨k, hk, hkb⟩ := h
    simp [badK] at hkb
    exact liftBad_mem hk (by simp [badK]; omega)
  have := lift_bad (argB_no h0 (by omega)) this
  exact ⟨this.2, this.1⟩
theorem up_up {fr a b : Int} (ha : 0 ≤ a) (hb : 0 ≤ b) (k : Nat) : upK fr b (upK fr a k) = upK fr (a + b) k := by
  unfold upK
  split
  · rfl
  · rename_i h
    split
    · omega
    · omega
theorem bad_up {fr a b : Int} (ha : 0 ≤ a) (hb : 0 ≤ b) (k : Nat) (hn : badK fr a k = false) : badK fr b (upK fr a k) = badK fr (a + b) k := by
  simp [badK] at hn
  unfold badK upK
  rw [Bool.eq_iff_iff]
  split
  · simp; omega
  · simp; omega
theorem adds_ok {s : Nat} {fr a b : Int} (h0 : 0 ≤ fr) (ha : 0 ≤ a) (hb : 0 ≤ b) (h : liftBad fr a (dimsOf s) = false) : liftE s fr (a + b) = liftE (liftN s fr a) fr b ∧ liftN s fr (a + b) = liftN (liftN s fr a) fr b := by
  have hd := dims_lift h0 ha h
  have e1 : liftBad fr b (dimsOf (liftN s fr a)) = liftBad fr (a + b) (dimsOf s) := by
    rw [hd]
    unfold liftBad
    rw [List.any_map]
    have hn : ∀ k ∈ dimsOf s, badK fr a k = false := by
      simp only [liftBad, List.any_eq_false] at h
      intro k hk; simpa using h k hk
    rw [Bool.eq_iff_iff, List.any_eq_true, List.any_eq_true]
    constructor
    · rintro ⟨k, hk, hkb⟩; exact ⟨k, hk, by rw [← bad_up ha hb k (hn k hk)]; exact hkb⟩
    · rintro ⟨k, hk, hkb⟩; exact ⟨k, hk, by simp only [Function.comp]; rw [bad_up ha hb k (hn k hk)]; exact hkb⟩
  have e2 : (dimsOf (liftN s fr a)).map (upK fr b) = (dimsOf s).map (upK fr (a + b)) := by
    rw [hd, List.map_map]
    exact List.map_congr_left (fun k _ => up_up ha hb k)
  constructor
  · unfold liftE; rw [argB_no h0 (show 0 ≤ a + b by omega), argB_no h0 hb, e1]
  · have u1 : liftN s fr (a + b) = if liftBad fr (a + b) (dimsOf s) then 0 else orAll ((dimsOf s).map (upK fr (a + b))) := by simp [liftN, argB_no h0 (show 0 ≤ a + b by omega)]
    have u2 : ∀ x, liftN x fr b = if liftBad fr b (dimsOf x) then 0 else orAll ((dimsOf x).map (upK fr b)) := fun x => by simp [liftN, argB_no h0 hb]
    rw [u1, u2, e1, e2]
theorem dims_one {k : Nat} (hk : k < 24) : dimsOf (withN 0 (k : Int)) = [k] := by
  refine dimsOf_of (by simp) (by simp; exact hk) (fun j hj => ?_)
  rw [testBit_withN_nat 0 k j hk, Bool.eq_iff_iff]
  simp
  omega
theorem one_lift {fr a : Int} {k : Nat} (h0 : 0 ≤ fr) (ha : 0 ≤ a) (hk : k < 24) (hn : badK fr a k = false) :
    liftN (withN 0 (k : Int)) fr a = 2 ^ upK fr a k ∧ liftE (withN 0 (k : Int)) fr a = 0 ∧ countN (2 ^ upK fr a k) = 1 := by
  have hb : liftBad fr a (dimsOf (withN 0 (k : Int))) = false := by rw [dims_one hk]; simp [liftBad, hn]
  have h := lift_ok (argB_no h0 ha) hb
  have e : orAll [upK fr a k] = 2 ^ upK fr a k := by simp [orAll, orFrom]
  refine ⟨?_, h.2, ?_⟩
  · rw [h.1, dims_one hk]; exact e
  · rw [countN, ← e, dimsOf_orAll (by simp) (by simp; exact upK_bd ha hk hn)]; rfl

/-! MaskSets. -/
theorem filter_one (p q : Nat → Bool) (i : Nat) (hp : p i = true) (hq : q i = false) (h : ∀ k, k ≠ i → p k = q k) : ∀ n, ((List.range n).filter p).length = ((List.range n).filter q).length + if i < n then 1 else 0
  | 0 => rfl
  | n + 1 => by
    rw [List.range_succ, List.filter_append, List.filter_append, List.length_append, List.length_append, filter_one p q i hp hq h n]
    by_cases e : n = i
    · subst e; simp [hp, hq]
    · have e1 : (i < n + 1) ↔ i < n := by omega
      have e2 : ([n].filter p).length = ([n].filter q).length := by simp [List.filter_cons, h n e]
      rw [e2]
      simp only [e1]
      omega
theorem sets_has_with {s j : Nat} (hj : j < 24) : hasB (withN s (j : Int)) (j : Int) = true := by rw [hasB_nat hj, testBit_withN_nat s j j hj]; simp
theorem sets_has_without {s j : Nat} (hj : j < 24) : hasB (withoutN s (j : Int)) (j : Int) = false := by rw [hasB_nat hj, testBit_withoutN_nat s j j hj]; simp
theorem sets_count {s j : Nat} (hj : j < 24) : countN (withN s (j : Int)) = countN (withoutN s (j : Int)) + 1 := by
  have := filter_one (fun k => (withN s (j : Int)).testBit k) (fun k => (withoutN s (j : Int)).testBit k) j (by rw [testBit_withN_nat s j j hj]; simp) (by rw [testBit_withoutN_nat s j j hj]; simp)
    (fun k hk => by
      have hk' : ¬ j = k := fun h => hk h.symm
      rw [testBit_withN_nat s j k hj, testBit_withoutN_nat s j k hj]; simp [hk']) 24
  rw [if_pos hj] at this
  exact this
theorem sets_back {s j : Nat} (hj : j < 24) : withoutN (withN s (j : Int)) (j : Int) = withoutN s (j : Int) := by
  apply Nat.eq_of_testBit_eq
  intro k
  rw [testBit_withoutN_nat _ j k hj, testBit_withoutN_nat s j k hj, testBit_withN_nat s j k hj]
  by_cases e : j = k
  · simp [e]
  · by_cases h : k < 24 <;> simp [e, h]
theorem sets_forth {s j : Nat} (hj : j < 24) : withN (withoutN s (j : Int)) (j : Int) = withN s (j : Int) := by
  apply Nat.eq_of_testBit_eq
  intro k
  rw [testBit_withN_nat _ j k hj, testBit_withN_nat s j k hj, testBit_withoutN_nat s j k hj]
  by_cases e : j = k
  · simp [e]
  · by_cases h : k < 24 <;> simp [e, h]
theorem sets_other_with {s j : Nat} {k : Int} (hj : j < 24) (hk : k ≠ (j : Int)) : hasB (withN s (j : Int)) k = hasB s k := by
  by_cases h : isDimB k = true
  · have h' : 0 ≤ k ∧ k < 24 := by simpa [isDimB] using h
    obtain ⟨m, rfl⟩ := Int.eq_ofNat_of_zero_le h'.1
    have hm : m < 24 := by omega
    have e : ¬ j = m := by omega
    rw [hasB_nat hm, hasB_nat hm, testBit_withN_nat s j m hj]; simp [e, hm]
  · have h : isDimB k = false := by simpa using h
    rw [hasB_no h, hasB_no h]
theorem sets_other_without {s j : Nat} {k : Int} (hj : j < 24) (hk : k ≠ (j : Int)) : hasB (withoutN s (j : Int)) k = hasB s k := by
  by_cases h : isDimB k = true
  · have h' : 0 ≤ k ∧ k < 24 := by simpa [isDimB] using h
    obtain ⟨m, rfl⟩ := Int.eq_ofNat_of_zero_le h'.1
    have hm : m < 24 := by omega
    have e : ¬ j = m := by omega
    rw [hasB_nat hm, hasB_nat hm, testBit_withoutN_nat s j m hj]; simp [e, hm]
  · have h : isDimB k = false := by simpa using h
    rw [hasB_no h, hasB_no h]
end Go.Proofs.Ythchanjbonoppab
