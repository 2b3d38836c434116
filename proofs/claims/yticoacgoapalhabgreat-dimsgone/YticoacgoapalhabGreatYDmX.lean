/- Where a clause is so: the faces of a term's branches are those that Restrict tells. -/
import Derived.Test.YticoacgoapalhabGreatYDmV
namespace Go.Proofs.YticoacgoapalhabGreat
open Go.RowKit
set_option linter.unusedVariables false
set_option linter.unusedSimpArgs false

theorem mt_top' {c : C} (h : rightC c = true) (hk : okC c = true) : mtR [c] [top0] = ([c], 0) := by
  have e : meetC c top0 = c := by
    have h1 := fright_bits h
    refine c_bits (fun k => ?_) (fun k => ?_)
    · rw [(meet_bits c top0 k).1]; rw [← (h1 k).1]; simp [top0]
    · rw [(meet_bits c top0 k).2]; rw [← (h1 k).2]; simp [top0]
  have e2 : calmC (pairsC [c] [top0]) = [c] := by simp [pairsC, calmC, e, hk]
  unfold mtR; rw [e2]; exact leastF_one h
theorem mt_nil' (l : List C) : mtR l [] = ([], 0) := by
  have e2 : calmC (pairsC l []) = [] := by simp [pairsC, calmC]
  unfold mtR; rw [e2]; decide
/-- Least of least and more. -/
theorem least_more {A B : List C} (hA : A.all rightC = true) (hB : B.all rightC = true) (h0 : (leastF A).2 = 0) : leastF ((leastF A).1 ++ B) = leastF (A ++ B) := by
  refine leastF_ext (by rw [List.all_append, leastF_all, hB]; rfl) (by rw [List.all_append, hA, hB]; rfl) (fun c _ => ?_)
  rw [dn_append, dn_append, leastF_dn h0]
theorem all_mem {l : List C} (h : ∀ c ∈ l, rightC c = true) : l.all rightC = true := List.all_eq_true.2 h
theorem rst_app (f g : List C) (p : C) : rstL (f ++ g) p = rstL f p ++ rstL g p := by simp [rstL]
theorem rst_right' {f : List C} (h : ∀ c ∈ f, rightC c = true) (p : C) : ∀ c ∈ rstL f p, rightC c = true := fun x hx => by
  obtain ⟨a, ha, _, rfl⟩ := mem_rst.1 hx
  exact cut_right (h a ha)

/-! ### one -/
theorem cut_one {c : C} {i : Nat} (hi : i < 24) (hr : rightC c = true) (hk : okC c = true) (h : c.2.val.testBit i = false) : cutC (posB i) c = outC c (i : Int) := by
  have h1 := fright_bits hr
  refine c_bits (fun k => ?_) (fun k => ?_)
  · rw [(cut_bits _ c k).1, (out_bits c i k hi).1, (posB_bits i k hi).1]
    have := (h1 k).1
    by_cases hik : i = k
    · subst hik; simp_all
    · simp_all
  · rw [(cut_bits _ c k).2, (out_bits c i k hi).2, (posB_bits i k hi).2]
    have := (h1 k).2
    by_cases hik : i = k
    · subst hik; simp_all
    · simp_all
theorem with_one {c : C} {i : Nat} (hi : i < 24) (hk : okC c = true) : withC (posB i) c = !c.2.val.testBit i := by
  unfold withC
  rw [Bool.eq_iff_iff, meet_ok, Bool.not_eq_true']
  constructor
  · intro h
    have := h i hi
    rw [(posB_bits i i hi).1, (posB_bits i i hi).2] at this
    simpa using this
  · intro h k hk24
    have h2 := okC_iff.1 hk k hk24
    rw [(posB_bits i k hi).1, (posB_bits i k hi).2]
    by_cases hik : i = k
    · subst hik; simp [h]
    · simp [hik]; simpa using h2
theorem rst1_one {c : C} {i : Nat} (hi : i < 24) (hr : rightC c = true) (hk : okC c = true) : rstL [c] (posB i) = if c.2.val.testBit i then [] else [outC c (i : Int)] := by
  unfold rstL
  rw [List.filter_cons, with_one hi hk]
  cases h : c.2.val.testBit i
  · simp [cut_one hi hr hk h]
  · simp
theorem prt_one {c : C} {i : Nat} (hi : i < 24) (hk : okC c = true) : prtA c (i : Int) [top0] ([], 0) = (if c.2.val.testBit i then [] else [outC c (i : Int)], 0) := by
  have h0 := okC_iff.1 hk i hi
  have hB1 : hasB c.1.val (i : Int) = c.1.val.testBit i := hasB_nat hi
  have hB2 : hasB c.2.val (i : Int) = c.2.val.testBit i := hasB_nat hi
  unfold prtA
  rw [hB1, hB2]
  cases h1 : c.1.val.testBit i <;> cases h2 : c.2.val.testBit i
  · simp
  · simp [mt_nil']
  · simp [mt_top' (out_right c i) (out_ok hk)]
  · exact absurd ⟨h1, h2⟩ h0
theorem pts_one {i : Nat} (hi : i < 24) (f : List C) : (∀ c ∈ f, rightC c = true ∧ okC c = true) → f.length ≤ 64 → ptS f (i : Int) [top0] ([], 0) = leastF (rstL f (posB i)) := by
  induction f using snoc_ind with
  | nil => intro _ _; simp only [ptS, List.foldl_nil, rstL, List.filter_nil, List.map_nil]; decide
  | snoc f c ih =>
    intro h hl
    have hf : ∀ x ∈ f, rightC x = true ∧ okC x = true := fun x hx => h x (List.mem_append_left _ hx)
    obtain ⟨hr, hk⟩ := h c (by simp)
    have hl2 : f.length ≤ 64 := by simp at hl; omega
    have hA : (rstL f (posB i)).all rightC = true := all_mem (rst_right' (fun x hx => (hf x hx).1) _)
    have h0 : (leastF (rstL f (posB i))).2 = 0 := least_small hA (Nat.le_trans (rst_len f _) hl2)
    rw [ptS_snoc, ih hf hl2]
    have e := leastF_pair h0
    rw [e, stpA_some, prt_one hi hk, if_pos rfl, rst_app, rst1_one hi hr hk, least_more hA (all_mem (fun x hx => ?_)) h0]
    split at hx
    · cases hx
    · rw [List.mem_singleton.1 hx]; exact out_right c i
theorem put_one {i : Nat} (hi : i < 24) {f : List C} (hf : rightA f = true) : putRow ptA (i : Int) [top0] f 0 = rstA f (posB i) := by
  have hs : singleC (posB i) = true := singleC_iff.2 ⟨posB_right i, okC_iff.2 (fun k _ h => by rw [(posB_bits i k hi).1, (posB_bits i k hi).2] at h; simp at h)⟩
  have hR : rstA f (posB i) = leastF (rstL f (posB i)) := by unfold rstA; rw [hf, hs]; rfl
  have hall : ∀ c ∈ f, rightC c = true ∧ okC c = true := fun c hc => ⟨List.all_eq_true.1 (rightF_all (rightA_right hf)) c hc, rightA_ok hf c hc⟩
  have e0 : ((i : Int) + ((0 : Nat) : Int)) = (i : Int) := by omega
  unfold putRow
  rw [e0]
  cases hh : hasB (dimsN f) (i : Int)
  · rw [if_neg (by simp), hR]
    rw [hasB_nat hi, dimsN_bit] at hh
    have hno : ∀ c ∈ f, c.1.val.testBit i = false ∧ c.2.val.testBit i = false := fun c hc => by
      simp only [hi, decide_true, Bool.true_and] at hh
      have := List.any_eq_false.1 hh c hc
      simpa using this
    have e : rstL f (posB i) = f := by
      unfold rstL
      rw [List.filter_eq_self.2 (fun c hc => by rw [with_one hi (hall c hc).2, (hno c hc).2]; rfl)]
      conv => rhs; rw [← List.map_id f]
      refine List.map_congr_left (fun c hc => ?_)
      rw [cut_one hi (hall c hc).1 (hall c hc).2 (hno c hc).2]
      have h1 := fright_bits (hall c hc).1
      refine c_bits (fun k => ?_) (fun k => ?_)
      · rw [(out_bits c i k hi).1]
        have := (h1 k).1
        by_cases hik : i = k
        · subst hik; simp [(hno c hc).1]
        · simp_all
      · rw [(out_bits c i k hi).2]
        have := (h1 k).2
        by_cases hik : i = k
        · subst hik; simp [(hno c hc).2]
        · simp_all
    rw [e, rightF_eq (rightA_right hf)]
  · rw [if_pos rfl]
    have eL : liftFF [top0] 0 ((0 : Nat) : Int) = ([top0], 0) := by decide
    rw [eL, if_pos rfl]
    show ptA f (i : Int) [top0] = _
    have hd : isDimB (i : Int) = true := isDimB_nat hi
    have hq : rightF [top0] = true := by decide
    unfold ptA
    rw [hf, hd, hq]
    have e1 : (ofF [top0]).1 = [top0] := by decide
    have e2 : ofZ [top0] = ([], 0) := by decide
    rw [e1, e2, hR]
    exact pts_one hi f hall (rightA_len hf)

/-! ### nil -/
theorem cut_nil {c : C} {i : Nat} (hi : i < 24) (hr : rightC c = true) (hk : okC c = true) (h : c.1.val.testBit i = false) : cutC (negB i) c = outC c (i : Int) := by
  have h1 := fright_bits hr
  refine c_bits (fun k => ?_) (fun k => ?_)
  · rw [(cut_bits _ c k).1, (out_bits c i k hi).1, (negB_bits i k hi).1]
    have := (h1 k).1
    by_cases hik : i = k
    · subst hik; simp_all
    · simp_all
  · rw [(cut_bits _ c k).2, (out_bits c i k hi).2, (negB_bits i k hi).2]
    have := (h1 k).2
    by_cases hik : i = k
    · subst hik; simp_all
    · simp_all
theorem with_nil {c : C} {i : Nat} (hi : i < 24) (hk : okC c = true) : withC (negB i) c = !c.1.val.testBit i := by
  unfold withC
  rw [Bool.eq_iff_iff, meet_ok, Bool.not_eq_true']
  constructor
  · intro h
    have := h i hi
    rw [(negB_bits i i hi).1, (negB_bits i i hi).2] at this
    simpa using this
  · intro h k hk24
    have h2 := okC_iff.1 hk k hk24
    rw [(negB_bits i k hi).1, (negB_bits i k hi).2]
    by_cases hik : i = k
    · subst hik; simp [h]
    · simp [hik]; simpa using h2
theorem rst1_nil {c : C} {i : Nat} (hi : i < 24) (hr : rightC c = true) (hk : okC c = true) : rstL [c] (negB i) = if c.1.val.testBit i then [] else [outC c (i : Int)] := by
  unfold rstL
  rw [List.filter_cons, with_nil hi hk]
  cases h : c.1.val.testBit i
  · simp [cut_nil hi hr hk h]
  · simp
theorem prt_nil {c : C} {i : Nat} (hi : i < 24) (hk : okC c = true) : prtA c (i : Int) [] ([top0], 0) = (if c.1.val.testBit i then [] else [outC c (i : Int)], 0) := by
  have h0 := okC_iff.1 hk i hi
  have hB1 : hasB c.1.val (i : Int) = c.1.val.testBit i := hasB_nat hi
  have hB2 : hasB c.2.val (i : Int) = c.2.val.testBit i := hasB_nat hi
  unfold prtA
  rw [hB1, hB2]
  cases h1 : c.1.val.testBit i <;> cases h2 : c.2.val.testBit i
  · simp
  · simp [mt_top' (out_right c i) (out_ok hk)]
  · simp [mt_nil']
  · exact absurd ⟨h1, h2⟩ h0
theorem pts_nil {i : Nat} (hi : i < 24) (f : List C) : (∀ c ∈ f, rightC c = true ∧ okC c = true) → f.length ≤ 64 → ptS f (i : Int) [] ([top0], 0) = leastF (rstL f (negB i)) := by
  induction f using snoc_ind with
  | nil => intro _ _; simp only [ptS, List.foldl_nil, rstL, List.filter_nil, List.map_nil]; decide
  | snoc f c ih =>
    intro h hl
    have hf : ∀ x ∈ f, rightC x = true ∧ okC x = true := fun x hx => h x (List.mem_append_left _ hx)
    obtain ⟨hr, hk⟩ := h c (by simp)
    have hl2 : f.length ≤ 64 := by simp at hl; omega
    have hA : (rstL f (negB i)).all rightC = true := all_mem (rst_right' (fun x hx => (hf x hx).1) _)
    have h0 : (leastF (rstL f (negB i))).2 = 0 := least_small hA (Nat.le_trans (rst_len f _) hl2)
    rw [ptS_snoc, ih hf hl2]
    have e := leastF_pair h0
    rw [e, stpA_some, prt_nil hi hk, if_pos rfl, rst_app, rst1_nil hi hr hk, least_more hA (all_mem (fun x hx => ?_)) h0]
    split at hx
    · cases hx
    · rw [List.mem_singleton.1 hx]; exact out_right c i
theorem put_nil {i : Nat} (hi : i < 24) {f : List C} (hf : rightA f = true) : putRow ptA (i : Int) [] f 0 = rstA f (negB i) := by
  have hs : singleC (negB i) = true := singleC_iff.2 ⟨negB_right i, okC_iff.2 (fun k _ h => by rw [(negB_bits i k hi).1, (negB_bits i k hi).2] at h; simp at h)⟩
  have hR : rstA f (negB i) = leastF (rstL f (negB i)) := by unfold rstA; rw [hf, hs]; rfl
  have hall : ∀ c ∈ f, rightC c = true ∧ okC c = true := fun c hc => ⟨List.all_eq_true.1 (rightF_all (rightA_right hf)) c hc, rightA_ok hf c hc⟩
  have e0 : ((i : Int) + ((0 : Nat) : Int)) = (i : Int) := by omega
  unfold putRow
  rw [e0]
  cases hh : hasB (dimsN f) (i : Int)
  · rw [if_neg (by simp), hR]
    rw [hasB_nat hi, dimsN_bit] at hh
    have hno : ∀ c ∈ f, c.1.val.testBit i = false ∧ c.2.val.testBit i = false := fun c hc => by
      simp only [hi, decide_true, Bool.true_and] at hh
      have := List.any_eq_false.1 hh c hc
      simpa using this
    have e : rstL f (negB i) = f := by
      unfold rstL
      rw [List.filter_eq_self.2 (fun c hc => by rw [with_nil hi (hall c hc).2, (hno c hc).1]; rfl)]
      conv => rhs; rw [← List.map_id f]
      refine List.map_congr_left (fun c hc => ?_)
      rw [cut_nil hi (hall c hc).1 (hall c hc).2 (hno c hc).1]
      have h1 := fright_bits (hall c hc).1
      refine c_bits (fun k => ?_) (fun k => ?_)
      · rw [(out_bits c i k hi).1]
        have := (h1 k).1
        by_cases hik : i = k
        · subst hik; simp [(hno c hc).1]
        · simp_all
      · rw [(out_bits c i k hi).2]
        have := (h1 k).2
        by_cases hik : i = k
        · subst hik; simp [(hno c hc).2]
        · simp_all
    rw [e, rightF_eq (rightA_right hf)]
  · rw [if_pos rfl]
    have eL : liftFF [] 0 ((0 : Nat) : Int) = ([], 0) := by decide
    rw [eL, if_pos rfl]
    show ptA f (i : Int) [] = _
    have hd : isDimB (i : Int) = true := isDimB_nat hi
    have hq : rightF [] = true := by decide
    unfold ptA
    rw [hf, hd, hq]
    have e1 : (ofF []).1 = [] := by decide
    have e2 : ofZ [] = ([top0], 0) := by decide
    rw [e1, e2, hR]
    exact pts_nil hi f hall (rightA_len hf)

/-! ### one after another -/
def Rf (c : C) (f : List C) : List C := (rstA f c).1
theorem Rf_right (c : C) (f : List C) : rightA (Rf c f) = true := rstA_right f c
theorem Rf_eq {c : C} {f : List C} (hf : rightA f = true) (hc : singleC c = true) : Rf c f = (leastF (rstL f c)).1 := by unfold Rf rstA; rw [hf, hc]; rfl
theorem Rf_told {c : C} {f : List C} (hf : rightA f = true) (hc : singleC c = true) : (leastF (rstL f c)).2 = 0 := by
  have := rstA_told hf hc; unfold rstA at this; rw [hf, hc] at this; exact this
theorem Rf_nil {c : C} (hc : singleC c = true) : Rf c [] = [] := by rw [Rf_eq rightA_nil hc]; simp only [rstL, List.filter_nil, List.map_nil]; decide
theorem face_ext {f g : List C} (hf : rightA f = true) (hg : rightA g = true) (h1 : ∀ c ∈ f, dn g c) (h2 : ∀ c ∈ g, dn f c) : f = g := by
  have e := ent_anti hf hg (entB_mem.2 h1)
  rw [entB_mem.2 h2] at e
  exact of_decide_eq_true e.symm
theorem bl1 : ∀ (y1 y2 a1 a2 b1 b2 : Bool), ¬(((y1 && !a1) = true ∨ b1 = true) ∧ ((y2 && !a2) = true ∨ b2 = true)) → ¬((y1 = true ∨ a1 = true) ∧ (y2 = true ∨ a2 = true)) → ¬((a1 = true ∨ b1 = true) ∧ (a2 = true ∨ b2 = true)) → ¬((y1 = true ∨ (a1 || b1) = true) ∧ (y2 = true ∨ (a2 || b2) = true)) := by decide
theorem bl2 : ∀ (y1 y2 a1 a2 b1 b2 : Bool), ¬((y1 = true ∨ (a1 || b1) = true) ∧ (y2 = true ∨ (a2 || b2) = true)) → ¬((y1 = true ∨ a1 = true) ∧ (y2 = true ∨ a2 = true)) := by decide
theorem bl3 : ∀ (x1 x2 y1 y2 a1 a2 b1 b2 : Bool), ¬((y1 = true ∨ (a1 || b1) = true) ∧ (y2 = true ∨ (a2 || b2) = true)) → (x1 = true → (y1 && !a1) = true) → (x2 = true → (y2 && !a2) = true) → ¬((x1 = true ∨ b1 = true) ∧ (x2 = true ∨ b2 = true)) := by decide
theorem Rf_Rf {a b : C} {f : List C} (hf : rightA f = true) (ha : singleC a = true) (hb : singleC b = true) (hab : okC (meetC a b) = true) : Rf b (Rf a f) = Rf (meetC a b) f := by
  have hm : singleC (meetC a b) = true := singleC_iff.2 ⟨meet_right a b, hab⟩
  have hRa := Rf_right a f
  have hrow : ∀ y ∈ f, ∀ k, (y.1.val.testBit k = true → k < 24) ∧ (y.2.val.testBit k = true → k < 24) := fun y hy k => by
    have hr := rightC_iff.1 (List.all_eq_true.1 (rightF_all (rightA_right hf)) y hy)
    exact ⟨fun h => bit_lt24 hr.1 h, fun h => bit_lt24 hr.2 h⟩
  have hcut : ∀ y ∈ f, cutC b (cutC a y) = cutC (meetC a b) y := fun y hy => by
    refine c_bits (fun k => ?_) (fun k => ?_)
    · rw [(cut_bits b _ k).1, (cut_bits a y k).1, (cut_bits _ y k).1, (meet_bits a b k).1]
      cases h : y.1.val.testBit k
      · simp
      · have := (hrow y hy k).1 h; simp [this]
    · rw [(cut_bits b _ k).2, (cut_bits a y k).2, (cut_bits _ y k).2, (meet_bits a b k).2]
      cases h : y.2.val.testBit k
      · simp
      · have := (hrow y hy k).2 h; simp [this]
  rw [meet_ok] at hab
  refine face_ext (Rf_right _ _) (Rf_right _ _) (fun c hc => ?_) (fun c hc => ?_)
  · rw [Rf_eq hRa hb] at hc
    obtain ⟨x, hx, hwx, rfl⟩ := mem_rst.1 (leastF_sub c hc)
    rw [Rf_eq hf ha] at hx
    obtain ⟨y, hy, hwy, rfl⟩ := mem_rst.1 (leastF_sub x hx)
    rw [hcut y hy, Rf_eq hf hm, leastF_dn (Rf_told hf hm)]
    refine ⟨_, mem_rst.2 ⟨y, hy, ?_, rfl⟩, belC_refl _⟩
    unfold withC at hwx hwy ⊢
    rw [meet_ok] at hwx hwy ⊢
    intro k hk
    have h1 := hwx k hk
    have h2 := hwy k hk
    have h3 := hab k hk
    rw [(cut_bits a y k).1, (cut_bits a y k).2] at h1
    rw [(meet_bits a b k).1, (meet_bits a b k).2]
    simp only [hk, decide_true, Bool.true_and]
    exact bl1 _ _ _ _ _ _ h1 h2 h3
  · rw [Rf_eq hf hm] at hc
    obtain ⟨y, hy, hwy, rfl⟩ := mem_rst.1 (leastF_sub c hc)
    have hwa : withC a y = true := by
      unfold withC at hwy ⊢
      rw [meet_ok] at hwy ⊢
      intro k hk
      have h1 := hwy k hk
      rw [(meet_bits a b k).1, (meet_bits a b k).2] at h1
      simp only [hk, decide_true, Bool.true_and] at h1
      exact bl2 _ _ _ _ _ _ h1
    have hd : dn (Rf a f) (cutC a y) := by rw [Rf_eq hf ha, leastF_dn (Rf_told hf ha)]; exact ⟨_, mem_rst.2 ⟨y, hy, hwa, rfl⟩, belC_refl _⟩
    obtain ⟨x, hx, hbx⟩ := hd
    rw [← hcut y hy, Rf_eq hRa hb, leastF_dn (Rf_told hRa hb)]
    rw [belC_iff] at hbx
    refine ⟨cutC b x, mem_rst.2 ⟨x, hx, ?_, rfl⟩, belC_iff.2 ⟨fun k hk h => ?_, fun k hk h => ?_⟩⟩
    · unfold withC at hwy ⊢
      rw [meet_ok] at hwy ⊢
      intro k hk
      have h1 := hwy k hk
      have h2 := hbx.1 k hk
      have h3 := hbx.2 k hk
      rw [(meet_bits a b k).1, (meet_bits a b k).2] at h1
      rw [(cut_bits a y k).1] at h2
      rw [(cut_bits a y k).2] at h3
      simp only [hk, decide_true, Bool.true_and] at h1
      exact bl3 _ _ _ _ _ _ _ _ h1 h2 h3
    · rw [(cut_bits b x k).1, Bool.and_eq_true] at h
      rw [(cut_bits b _ k).1, Bool.and_eq_true]
      exact ⟨hbx.1 k hk h.1, h.2⟩
    · rw [(cut_bits b x k).2, Bool.and_eq_true] at h
      rw [(cut_bits b _ k).2, Bool.and_eq_true]
      exact ⟨hbx.2 k hk h.1, h.2⟩
/-! ### the faces of a term -/
def facesT (t : Tm) : List (List C) := t.sys.map Prod.fst
def neF (f : List C) : Bool := !f.isEmpty
theorem faces_d (o : DOp) (t : Tm) : facesT (dT o t 0) = ((facesT t).map fun f => (o.fc f 0).1).filter neF := by
  unfold facesT
  rw [d_eq]
  show (dS o t.kind t.sys 0).map Prod.fst = _
  unfold dS
  rw [List.map_map, List.map_map, List.filter_map]
  rfl
theorem filt_ne {g : List C → List C} (h0 : g [] = []) (l : List (List C)) : ((l.filter neF).map g).filter neF = (l.map g).filter neF := by
  induction l with
  | nil => rfl
  | cons f l ih =>
    rw [List.filter_cons, List.map_cons, List.filter_cons (xs := l.map g)]
    cases h : neF f
    · have e : f = [] := by simpa [neF] using h
      subst e
      rw [h0]
      simp only [Bool.false_eq_true, if_false]
      rw [ih]
      rfl
    · simp only [if_true, List.map_cons, List.filter_cons, ih]
/-- A step: 1 at a dimension, or 0. -/
structure DStp where
  i : Nat
  r : List C
  p : C
def DStp.ok (s : DStp) : Prop := s.i < 24 ∧ ((s.r = [top0] ∧ s.p = posB s.i) ∨ (s.r = [] ∧ s.p = negB s.i))
theorem DStp.put {s : DStp} (h : s.ok) {f : List C} (hf : rightA f = true) : (putRow ptA (s.i : Int) s.r f 0).1 = Rf s.p f := by
  obtain ⟨hi, ⟨hr, hp⟩ | ⟨hr, hp⟩⟩ := h
  · rw [hr, hp, put_one hi hf]; rfl
  · rw [hr, hp, put_nil hi hf]; rfl
theorem DStp.single {s : DStp} (h : s.ok) : singleC s.p = true := by
  obtain ⟨hi, ⟨hr, hp⟩ | ⟨hr, hp⟩⟩ := h
  · rw [hp]; exact singleC_iff.2 ⟨posB_right _, okC_iff.2 (fun k _ h => by rw [(posB_bits s.i k hi).1, (posB_bits s.i k hi).2] at h; simp at h)⟩
  · rw [hp]; exact singleC_iff.2 ⟨negB_right _, okC_iff.2 (fun k _ h => by rw [(negB_bits s.i k hi).1, (negB_bits s.i k hi).2] at h; simp at h)⟩
def dStp (t : Tm) (s : DStp) : Tm := dT (putOp s.i s.r) t 0
def meetAll (a : C) (l : List DStp) : C := l.foldl (fun a s => meetC a s.p) a
/-- Where some clause was so already, and then more. -/
theorem faces_more : ∀ (l : List DStp) (a : C) (t : Tm) (fs : List (List C)), (∀ f ∈ fs, rightA f = true) → singleC a = true → (∀ s ∈ l, s.ok) → (∀ b, (∀ k, (b.1.val.testBit k = true → (meetAll a l).1.val.testBit k = true) ∧ (b.2.val.testBit k = true → (meetAll a l).2.val.testBit k = true)) → okC b = true) → facesT t = (fs.map (Rf a)).filter neF → facesT (l.foldl dStp t) = (fs.map (Rf (meetAll a l))).filter neF
  | [], a, t, fs, _, _, _, _, h => h
  | s :: l, a, t, fs, hfs, ha, hl, hok, h => by
    have hs := hl s (by simp)
    have hsub : ∀ (l : List DStp) (a : C) (k : Nat), (∀ x, x < 24 → True) → (a.1.val.testBit k = true ∧ k < 24 → (meetAll a l).1.val.testBit k = true) ∧ (a.2.val.testBit k = true ∧ k < 24 → (meetAll a l).2.val.testBit k = true) := by
      intro l
      induction l with
      | nil => intro a k _; exact ⟨fun h => h.1, fun h => h.1⟩
      | cons s l ih =>
        intro a k hx
        have := ih (meetC a s.p) k hx
        refine ⟨fun h => this.1 ⟨?_, h.2⟩, fun h => this.2 ⟨?_, h.2⟩⟩
        · rw [(meet_bits a s.p k).1]; simp [h.1, h.2]
        · rw [(meet_bits a s.p k).2]; simp [h.1, h.2]
    have hmr := meet_right a s.p
    have hmk : okC (meetC a s.p) = true := hok _ (fun k => ⟨fun h => (hsub l (meetC a s.p) k (fun _ _ => trivial)).1 ⟨h, bit_lt24 (rightC_iff.1 hmr).1 h⟩, fun h => (hsub l (meetC a s.p) k (fun _ _ => trivial)).2 ⟨h, bit_lt24 (rightC_iff.1 hmr).2 h⟩⟩)
    have hm : singleC (meetC a s.p) = true := singleC_iff.2 ⟨hmr, hmk⟩
    rw [List.foldl_cons]
    refine faces_more l (meetC a s.p) (dStp t s) fs hfs hm (fun x hx => hl x (List.mem_cons_of_mem _ hx)) hok ?_
    unfold dStp
    rw [faces_d, h]
    have e1 : ((fs.map (Rf a)).filter neF).map (fun f => ((putOp s.i s.r).fc f 0).1) = ((fs.map (Rf a)).filter neF).map (Rf s.p) := by
      refine List.map_congr_left (fun f hf => ?_)
      obtain ⟨g, _, rfl⟩ := List.mem_map.1 ((List.mem_filter.1 hf).1)
      exact DStp.put hs (Rf_right a g)
    rw [e1, filt_ne (Rf_nil (DStp.single hs)), List.map_map]
    congr 1
    refine List.map_congr_left (fun f hf => ?_)
    exact Rf_Rf (hfs f hf) ha (DStp.single hs) hmk
/-! ### Under -/
theorem pall_ok {r : List C} : ∀ (l : List Nat) (t : Tm), (l.foldl (pallS r) (t, 0)).2 = 0 → (l.foldl (pallS r) (t, 0)).1 = l.foldl (fun t (i : Nat) => dT (putOp i r) t 0) t
  | [], t, _ => rfl
  | i :: l, t, h => by
    rw [List.foldl_cons] at h ⊢
    rw [List.foldl_cons]
    by_cases he : eT (putOp i r) t 0 = 0
    · have e : pallS r (t, 0) i = (dT (putOp i r) t 0, 0) := by unfold pallS ansD; simp [he]
      rw [e] at h ⊢
      exact pall_ok l _ h
    · have e : pallS r (t, 0) i = (noT, eT (putOp i r) t 0) := by unfold pallS; simp [he]
      rw [e, pallS_stuck l _ he] at h
      exact absurd h he
def stepsC (c : C) : List DStp := (dimsOf c.1.val).map (fun i => ⟨i, [top0], posB i⟩) ++ (dimsOf c.2.val).map (fun i => ⟨i, [], negB i⟩)
theorem steps_ok (c : C) : ∀ s ∈ stepsC c, s.ok := fun s hs => by
  unfold stepsC at hs
  rcases List.mem_append.1 hs with h | h
  · obtain ⟨i, hi, rfl⟩ := List.mem_map.1 h
    exact ⟨dimsOf_lt i hi, .inl ⟨rfl, rfl⟩⟩
  · obtain ⟨i, hi, rfl⟩ := List.mem_map.1 h
    exact ⟨dimsOf_lt i hi, .inr ⟨rfl, rfl⟩⟩
theorem und_steps {c : C} {t : Tm} (h : (undR c t).2 = 0) : (undR c t).1 = (stepsC c).foldl dStp t := by
  unfold undR at h ⊢
  by_cases h1 : (pall [top0] (dimsOf c.1.val) t).2 = 0
  · rw [if_pos h1] at h ⊢
    have e1 := pall_ok _ _ h1
    have e2 := pall_ok _ _ h
    unfold pall at e1 e2 h ⊢
    rw [e2]
    unfold stepsC
    rw [List.foldl_append, List.foldl_map, List.foldl_map]
    rw [e1]
    rfl
  · rw [if_neg h1] at h
    exact absurd h h1
theorem meetAll_bits : ∀ (l : List DStp) (a : C), rightC a = true → ∀ k, (meetAll a l).1.val.testBit k = (a.1.val.testBit k || l.any fun s => decide (k < 24) && s.p.1.val.testBit k) ∧ (meetAll a l).2.val.testBit k = (a.2.val.testBit k || l.any fun s => decide (k < 24) && s.p.2.val.testBit k)
  | [], a, _, k => by simp [meetAll]
  | s :: l, a, ha, k => by
    have h := meetAll_bits l (meetC a s.p) (meet_right a s.p) k
    have hb := fright_bits ha k
    have e : meetAll a (s :: l) = meetAll (meetC a s.p) l := rfl
    rw [e, h.1, h.2, (meet_bits a s.p k).1, (meet_bits a s.p k).2]
    simp only [List.any_cons]
    refine ⟨?_, ?_⟩
    · rw [Bool.and_or_distrib_left, hb.1, Bool.or_assoc]
    · rw [Bool.and_or_distrib_left, hb.2, Bool.or_assoc]
theorem steps_bits {c : C} (hr : rightC c = true) (k : Nat) : ((stepsC c).any fun s => decide (k < 24) && s.p.1.val.testBit k) = c.1.val.testBit k ∧ ((stepsC c).any fun s => decide (k < 24) && s.p.2.val.testBit k) = c.2.val.testBit k := by
  have hb := fright_bits hr k
  unfold stepsC
  refine ⟨?_, ?_⟩
  · rw [Bool.eq_iff_iff, List.any_eq_true]
    constructor
    · rintro ⟨s, hs, h⟩
      rw [Bool.and_eq_true, decide_eq_true_eq] at h
      rcases List.mem_append.1 hs with h1 | h1
      · obtain ⟨i, hi, rfl⟩ := List.mem_map.1 h1
        have := (posB_bits i k (dimsOf_lt i hi)).1
        rw [this, decide_eq_true_eq] at h
        obtain ⟨_, rfl⟩ := h
        exact (mem_dimsOf.1 hi).2
      · obtain ⟨i, hi, rfl⟩ := List.mem_map.1 h1
        have := (negB_bits i k (dimsOf_lt i hi)).1
        rw [this] at h
        exact absurd h.2 (by simp)
    · intro h
      have hk : k < 24 := bit_lt24 (rightC_iff.1 hr).1 h
      exact ⟨⟨k, [top0], posB k⟩, List.mem_append_left _ (List.mem_map_of_mem (mem_dimsOf.2 ⟨hk, h⟩)), by rw [(posB_bits k k hk).1]; simp [hk]⟩
  · rw [Bool.eq_iff_iff, List.any_eq_true]
    constructor
    · rintro ⟨s, hs, h⟩
      rw [Bool.and_eq_true, decide_eq_true_eq] at h
      rcases List.mem_append.1 hs with h1 | h1
      · obtain ⟨i, hi, rfl⟩ := List.mem_map.1 h1
        have := (posB_bits i k (dimsOf_lt i hi)).2
        rw [this] at h
        exact absurd h.2 (by simp)
      · obtain ⟨i, hi, rfl⟩ := List.mem_map.1 h1
        have := (negB_bits i k (dimsOf_lt i hi)).2
        rw [this, decide_eq_true_eq] at h
        obtain ⟨_, rfl⟩ := h
        exact (mem_dimsOf.1 hi).2
    · intro h
      have hk : k < 24 := bit_lt24 (rightC_iff.1 hr).2 h
      exact ⟨⟨k, [], negB k⟩, List.mem_append_right _ (List.mem_map_of_mem (mem_dimsOf.2 ⟨hk, h⟩)), by rw [(negB_bits k k hk).2]; simp [hk]⟩
theorem faces_und {c : C} {t : Tm} (hc : singleC c = true) (hf : ∀ f ∈ facesT t, rightA f = true) (h : (undR c t).2 = 0) : facesT (undR c t).1 = if c = top0 then facesT t else ((facesT t).map (Rf c)).filter neF := by
  rw [und_steps h]
  have hr := (singleC_iff.1 hc).1
  have hk := (singleC_iff.1 hc).2
  have hok := steps_ok c
  have hbits := steps_bits hr
  cases hs : stepsC c with
  | nil =>
    have e : c = top0 := by
      refine c_bits (fun k => ?_) (fun k => ?_)
      · rw [← (hbits k).1, hs]; simp [top0]
      · rw [← (hbits k).2, hs]; simp [top0]
    rw [if_pos e]; rfl
  | cons s l =>
    rw [hs] at hok hbits
    have hso := hok s (by simp)
    have hsr := (singleC_iff.1 (DStp.single hso)).1
    have hm : meetAll s.p l = c := by
      refine c_bits (fun k => ?_) (fun k => ?_)
      · rw [(meetAll_bits l s.p hsr k).1, ← (hbits k).1, List.any_cons, (fright_bits hsr k).1]
      · rw [(meetAll_bits l s.p hsr k).2, ← (hbits k).2, List.any_cons, (fright_bits hsr k).2]
    have hne : c ≠ top0 := by
      intro e
      obtain ⟨hi, ⟨_, hp⟩ | ⟨_, hp⟩⟩ := hso
      · have := (hbits s.i).1
        rw [e, List.any_cons, hp, (posB_bits s.i s.i hi).1] at this
        simp [hi, top0] at this
      · have := (hbits s.i).2
        rw [e, List.any_cons, hp, (negB_bits s.i s.i hi).2] at this
        simp [hi, top0] at this
    rw [if_neg hne, List.foldl_cons]
    have h1 : facesT (dStp t s) = ((facesT t).map (Rf s.p)).filter neF := by
      unfold dStp
      rw [faces_d]
      congr 1
      exact List.map_congr_left (fun f hff => DStp.put hso (hf f hff))
    have h2 := faces_more l s.p (dStp t s) (facesT t) hf (DStp.single hso) (fun x hx => hok x (List.mem_cons_of_mem _ hx)) (fun b hb => by
      rw [hm] at hb
      rw [okC_iff]
      intro k hk24 hx
      exact okC_iff.1 hk k hk24 ⟨(hb k).1 hx.1, (hb k).2 hx.2⟩) h1
    rw [h2, hm]
theorem faces_right {t : Tm} (h : wrongN true 0 0 t = 0) : ∀ f ∈ facesT t, rightA f = true := by
  unfold wrongN at h
  split at h
  · cases h
  · split at h
    · rename_i h2
      rw [ok_eq, Bool.and_eq_true] at h2
      have h1 := h2.1
      unfold Tm.node nodeB at h1
      simp only [Bool.and_eq_true] at h1
      intro f hf
      obtain ⟨b, hb, rfl⟩ := List.mem_map.1 hf
      have := List.all_eq_true.1 h1.2 (b.1, b.2.length) (List.mem_map_of_mem hb)
      unfold brB at this
      simp only [Bool.and_eq_true] at this
      exact this.1.2
    · cases h
/-! ### those that are kept -/
def keepP (c : C) (g : List C) : Bool := decide (c = top0) || neF g
def FSc (c : C) (fs : List (List C)) : List (List C) := (fs.map (Rf c)).filter (keepP c)
def kN (c : C) (fs : List (List C)) (j : Nat) : Nat := (((fs.map (Rf c)).take j).filter (keepP c)).length
theorem kN_zero (c : C) (fs : List (List C)) : kN c fs 0 = 0 := by simp [kN]
theorem kN_le (c : C) (fs : List (List C)) (j : Nat) : kN c fs j ≤ j := Nat.le_trans (List.length_filter_le _ _) (by rw [List.length_take]; omega)
theorem kN_end (c : C) (fs : List (List C)) : kN c fs fs.length = (FSc c fs).length := by unfold kN FSc; rw [List.take_of_length_le (by simp)]
theorem kN_no {c : C} {fs : List (List C)} {j : Nat} {f : List C} (h : fs[j]? = some f) (hs : keepP c (Rf c f) = false) : kN c fs (j + 1) = kN c fs j := by
  unfold kN; rw [List.take_add_one, List.getElem?_map, h]; simp [List.filter_append, hs]
theorem kN_yes {c : C} {fs : List (List C)} {j : Nat} {f : List C} (h : fs[j]? = some f) (hs : keepP c (Rf c f) = true) : kN c fs (j + 1) = kN c fs j + 1 := by
  unfold kN; rw [List.take_add_one, List.getElem?_map, h]; simp [List.filter_append, hs]
theorem FSc_at {c : C} {fs : List (List C)} {j : Nat} {f : List C} (h : fs[j]? = some f) (hs : keepP c (Rf c f) = true) : (FSc c fs)[kN c fs j]? = some (Rf c f) := by
  have h' : (fs.map (Rf c))[j]? = some (Rf c f) := by rw [List.getElem?_map, h]; rfl
  unfold FSc kN
  generalize fs.map (Rf c) = l at h' ⊢
  have hl : l = l.take j ++ Rf c f :: l.drop (j + 1) := by
    have hj := (List.getElem?_eq_some_iff.1 h').1
    rw [List.getElem?_eq_getElem hj] at h'
    injection h' with h'
    rw [← h', List.getElem_cons_drop]
    exact (List.take_append_drop j l).symm
  conv => lhs; arg 1; rw [hl]
  rw [List.filter_append, List.getElem?_append_right (by simp)]
  simp [hs]
theorem faces_undA {c : C} {t : Tm} (hc : rightA [c] = true) (hw : wrongN true 0 0 t = 0) (h : (undA c t).2 = 0) : facesT (undA c t).1 = FSc c (facesT t) := by
  have hs : singleC c = true := by
    have h1 := rightA_iff.1 hc
    exact singleC_iff.2 ⟨by have := rightF_all h1.1; simpa using this, h1.2 c (by simp)⟩
  have hf := faces_right hw
  unfold undA at h ⊢
  rw [hw, if_pos rfl, if_pos hc] at h ⊢
  rw [faces_und hs hf h]
  unfold FSc
  split
  · rename_i e
    subst e
    have e1 : (facesT t).map (Rf top0) = facesT t := by
      conv => rhs; rw [← List.map_id (facesT t)]
      refine List.map_congr_left (fun f hff => ?_)
      have hfa := hf f hff
      rw [Rf_eq hfa hs]
      have e2 : rstL f top0 = f := by
        unfold rstL
        have hall : ∀ a ∈ f, okC a = true := rightA_ok hfa
        rw [List.filter_eq_self.2 (fun a ha => by
          unfold withC
          rw [meet_ok]
          intro k hk
          have := okC_iff.1 (hall a ha) k hk
          simpa [top0] using this)]
        conv => rhs; rw [← List.map_id f]
        refine List.map_congr_left (fun a _ => c_bits (fun k => ?_) (fun k => ?_))
        · rw [(cut_bits _ a k).1]; simp [top0]
        · rw [(cut_bits _ a k).2]; simp [top0]
      rw [e2, rightF_eq (rightA_right hfa)]
      rfl
    rw [e1, List.filter_eq_self.2 (fun _ _ => by simp [keepP])]
  · rename_i e
    refine List.filter_congr (fun f _ => ?_)
    simp [keepP, e]
end Go.Proofs.YticoacgoapalhabGreat
