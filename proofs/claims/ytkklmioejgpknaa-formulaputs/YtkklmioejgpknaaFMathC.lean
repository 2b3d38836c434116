/- Plain mathematics for the layer formula: putting a formula in a dimension's place, and a formula's dimensions. Nothing of the program is imported. -/
import Derived.Test.YtkklmioejgpknaaFMathB
namespace Go.Proofs.Ytkklmioejgpknaa
set_option linter.unusedVariables false
set_option linter.unusedSimpArgs false

theorem withoutN_lt32 (s : Nat) (i : Int) : withoutN s i < 4294967296 := Nat.lt_trans (withoutN_lt s i) (by decide)
/-- A clause without i and -i. -/
def outC (c : C) (i : Int) : C := (⟨withoutN c.1.val i, withoutN_lt32 _ _⟩, ⟨withoutN c.2.val i, withoutN_lt32 _ _⟩)
theorem out_right (c : C) (i : Int) : rightC (outC c i) = true := rightC_iff.2 ⟨withoutN_lt _ _, withoutN_lt _ _⟩
def partA (c : C) (i : Int) (r : List C) : List C × Int := if hasB c.1.val i then meetR [outC c i] r else ([outC c i], 0)
def partF (c : C) (i : Int) (r : List C) (s : List C × Int) : List C × Int :=
  if (partA c i r).2 = 0 then (if hasB c.2.val i then (if s.2 = 0 then meetR (partA c i r).1 s.1 else ([], s.2)) else partA c i r) else partA c i r
def stepP (i : Int) (r : List C) (s : List C × Int) (a : List C × Int) (c : C) : List C × Int :=
  if a.2 = 0 then (if (partF c i r s).2 = 0 then joinR a.1 (partF c i r s).1 else ([], (partF c i r s).2)) else a
def putS (f : List C) (i : Int) (r : List C) (s : List C × Int) : List C × Int := f.foldl (stepP i r s) ([], 0)
def putR (f : List C) (i : Int) (r : List C) : List C × Int := putS f i r (notR r)
def putF (f : List C) (i : Int) (r : List C) : List C × Int := if rightF f && rightF r && isDimB i then putR f i r else ([], 2)
theorem putS_snoc (f : List C) (c : C) (i : Int) (r : List C) (s : List C × Int) : putS (f ++ [c]) i r s = stepP i r s (putS f i r s) c := by simp [putS]

/-- Told, and a formula that may be; or too great. -/
def Told (a : List C × Int) : Prop := (a.2 = 0 ∧ rightF a.1 = true) ∨ a = ([], 3)
theorem Told.right {a : List C × Int} (h : Told a) : rightF a.1 = true := by
  rcases h with h | h
  · exact h.2
  · rw [h]; exact rightF_nil
theorem Told.len {a : List C × Int} (h : Told a) : a.1.length ≤ 64 := rightF_len h.right
theorem Told.no {a : List C × Int} (h : Told a) (h2 : a.2 ≠ 0) : a = ([], 3) := h.resolve_left (fun x => h2 x.1)
theorem Told.least {l : List C} (h : l.all rightC = true) : Told (leastF l) := by
  rcases leastF_cases h with ⟨h1, _⟩ | h1
  · exact .inl ⟨h1, leastF_right _⟩
  · exact .inr h1
theorem Told.meet (f g : List C) : Told (meetR f g) := Told.least (pairs_right f g)
theorem Told.join {f g : List C} (hf : rightF f = true) (hg : rightF g = true) : Told (joinR f g) := Told.least (append_right hf hg)
theorem Told.one {c : C} (h : rightC c = true) : Told ([c], 0) := .inl ⟨rfl, rightF_one h⟩
theorem Told.not (f : List C) : Told (notR f) := notR_cases f
theorem Told.ite {p : Prop} [Decidable p] {a b : List C × Int} (ha : Told a) (hb : Told b) : Told (if p then a else b) := by split <;> assumption
theorem Told.partA (c : C) (i : Int) (r : List C) : Told (partA c i r) := by
  unfold Proofs.Ytkklmioejgpknaa.partA
  exact Told.ite (Told.meet _ _) (Told.one (out_right c i))
theorem Told.part (c : C) (i : Int) (r : List C) {s : List C × Int} (hs : Told s) : Told (partF c i r s) := by
  unfold partF
  refine Told.ite (Told.ite ?_ (Told.partA c i r)) (Told.partA c i r)
  by_cases h : s.2 = 0
  · rw [if_pos h]; exact Told.meet _ _
  · rw [if_neg h, hs.no h]; exact .inr rfl
theorem Told.step (i : Int) (r : List C) {s a : List C × Int} (hs : Told s) (ha : Told a) (c : C) : Told (stepP i r s a c) := by
  unfold stepP
  refine Told.ite ?_ ha
  have hp := Told.part c i r hs
  by_cases h : (partF c i r s).2 = 0
  · rw [if_pos h]; exact Told.join ha.right hp.right
  · rw [if_neg h, hp.no h]; exact .inr rfl
theorem Told.put (f : List C) (i : Int) (r : List C) {s : List C × Int} (hs : Told s) : Told (putS f i r s) := by
  induction f using snoc_ind with
  | nil => exact .inl ⟨rfl, rightF_nil⟩
  | snoc f c ih => rw [putS_snoc]; exact Told.step i r hs ih c
theorem partF_off {c : C} {i : Int} {r : List C} {s s' : List C × Int} (h : hasB c.2.val i = false) : partF c i r s = partF c i r s' := by
  unfold partF; simp [h]
theorem putS_off {f : List C} {i : Int} {r : List C} {s s' : List C × Int} (h : f.any (fun c => hasB c.2.val i) = false) : putS f i r s = putS f i r s' := by
  induction f using snoc_ind with
  | nil => rfl
  | snoc f c ih =>
    rw [List.any_append] at h
    simp at h
    rw [putS_snoc, putS_snoc, ih (by simpa using h.1)]
    unfold stepP
    rw [partF_off (s := s) (s' := s') h.2]
theorem putS_no {f : List C} {i : Int} {r : List C} {s : List C × Int} (hs : Told s) (h0 : s.2 ≠ 0) (h : f.any (fun c => hasB c.2.val i) = true) : putS f i r s = ([], 3) := by
  induction f using snoc_ind with
  | nil => simp at h
  | snoc f c ih =>
    rw [putS_snoc]
    rw [List.any_append, Bool.or_eq_true] at h
    rcases h with h | h
    · rw [ih h]; unfold stepP; simp
    · have h : hasB c.2.val i = true := by simpa using h
      have ht := Told.put f i r hs
      have hp : partF c i r s = ([], 3) := by
        unfold partF
        have := Told.partA c i r
        by_cases h1 : (partA c i r).2 = 0
        · rw [if_pos h1, if_pos h, if_neg h0, hs.no h0]
        · rw [if_neg h1]; exact this.no h1
      unfold stepP
      rw [hp]
      by_cases h2 : (putS f i r s).2 = 0
      · rw [if_pos h2]; simp
      · rw [if_neg h2]; exact ht.no h2
theorem Told.putR (f : List C) (i : Int) (r : List C) : Told (putR f i r) := Told.put f i r (Told.not r)
theorem putF_right (f : List C) (i : Int) (r : List C) : rightF (putF f i r).1 = true := by
  unfold putF
  split
  · exact (Told.putR f i r).right
  · exact rightF_nil
theorem putF_len (f : List C) (i : Int) (r : List C) : (putF f i r).1.length ≤ 64 := rightF_len (putF_right f i r)
theorem putF_ok {f r : List C} {i : Int} (hf : rightF f = true) (hr : rightF r = true) (hi : isDimB i = true) : putF f i r = putR f i r := by simp [putF, hf, hr, hi]

/-! ### what stays as it is -/
theorem rightF_snoc {f : List C} {c : C} (h : rightF (f ++ [c]) = true) : rightF f = true := by
  obtain ⟨h1, h2⟩ := rightF_iff.1 h
  exact rightF_iff.2 ⟨(PreOk.snoc.1 h1).1, by simp at h2; omega⟩
theorem putS_keeps {f : List C} {i : Int} {r : List C} {s : List C × Int} (hf : rightF f = true) (h : ∀ c ∈ f, partF c i r s = ([c], 0)) : putS f i r s = (f, 0) := by
  induction f using snoc_ind with
  | nil => rfl
  | snoc f c ih =>
    rw [putS_snoc, ih (rightF_snoc hf) (fun x hx => h x (by simp [hx]))]
    unfold stepP
    rw [h c (by simp)]
    simp only [if_true]
    exact rightF_eq hf
theorem c_bits {a b : C} (h1 : ∀ k, a.1.val.testBit k = b.1.val.testBit k) (h2 : ∀ k, a.2.val.testBit k = b.2.val.testBit k) : a = b :=
  c_ext (Nat.eq_of_testBit_eq h1) (Nat.eq_of_testBit_eq h2)
theorem meet_bits (a b : C) (k : Nat) : (meetC a b).1.val.testBit k = (decide (k < 24) && (a.1.val.testBit k || b.1.val.testBit k)) ∧ (meetC a b).2.val.testBit k = (decide (k < 24) && (a.2.val.testBit k || b.2.val.testBit k)) := by
  constructor
  · show (meetP a b).testBit k = _
    unfold meetP; rw [testBit_low, Nat.testBit_or]
  · show (meetN a b).testBit k = _
    unfold meetN; rw [testBit_low, Nat.testBit_or]
theorem out_bits (c : C) (i k : Nat) (hi : i < 24) : (outC c (i : Int)).1.val.testBit k = ((decide (k < 24) && c.1.val.testBit k) && !decide (i = k)) ∧ (outC c (i : Int)).2.val.testBit k = ((decide (k < 24) && c.2.val.testBit k) && !decide (i = k)) :=
  ⟨testBit_withoutN_nat _ _ _ hi, testBit_withoutN_nat _ _ _ hi⟩
theorem fright_bits {c : C} (h : rightC c = true) (k : Nat) : (decide (k < 24) && c.1.val.testBit k) = c.1.val.testBit k ∧ (decide (k < 24) && c.2.val.testBit k) = c.2.val.testBit k := by
  obtain ⟨h1, h2⟩ := rightC_iff.1 h
  constructor
  · cases hb : c.1.val.testBit k
    · simp
    · simp [bit_lt24 h1 hb]
  · cases hb : c.2.val.testBit k
    · simp
    · simp [bit_lt24 h2 hb]
theorem posB_bits (i k : Nat) (hi : i < 24) : (posB i).1.val.testBit k = decide (i = k) ∧ (posB i).2.val.testBit k = false := ⟨bit_testBit hi, by show (0 : Nat).testBit k = false; simp⟩
theorem negB_bits (i k : Nat) (hi : i < 24) : (negB i).1.val.testBit k = false ∧ (negB i).2.val.testBit k = decide (i = k) := ⟨by show (0 : Nat).testBit k = false; simp, bit_testBit hi⟩
theorem meet_one {a b : C} : meetR [a] [b] = ([meetC a b], 0) := by
  show leastF [meetC a b] = _
  exact leastF_one (meet_right a b)
theorem dims_bit {k : Nat} (hk : k < 24) : dimsOf (bitF k).val = [k] := by
  refine dimsOf_of (by simp) (by simpa using hk) (fun j _ => ?_)
  rw [bit_testBit hk]
  simp [eq_comm]
theorem opp_posB {k : Nat} (hk : k < 24) : oppC (posB k) = [negB k] := by
  have e : dimsOf (0 : Nat) = [] := by simp [dimsOf]
  show (dimsOf (bitF k).val).map negB ++ (dimsOf 0).map posB = _
  rw [dims_bit hk, e]; rfl
theorem meet_top {c : C} (h : rightC c = true) : meetC top0 c = c := by
  refine c_bits (fun k => ?_) (fun k => ?_)
  · rw [(meet_bits _ _ k).1]; simp [top0, (fright_bits h k).1]
  · rw [(meet_bits _ _ k).2]; simp [top0, (fright_bits h k).2]
theorem turn_posB {k : Nat} (hk : k < 24) : turnF (posB k) = [negB k] := by
  unfold turnF; rw [opp_posB hk, leastF_one (negB_right k)]
theorem not_posB {k : Nat} (hk : k < 24) : notR [posB k] = ([negB k], 0) := by
  show stepN ([top0], 0) (posB k) = _
  unfold stepN
  simp only [if_true]
  rw [turn_posB hk, meet_one, meet_top (negB_right k)]
theorem part_self {c : C} {i : Nat} (hi : i < 24) (h : rightC c = true) : partF c (i : Int) [posB i] ([negB i], 0) = ([c], 0) := by
  have hp : hasB c.1.val (i : Int) = c.1.val.testBit i := hasB_nat hi
  have hn : hasB c.2.val (i : Int) = c.2.val.testBit i := hasB_nat hi
  have eA : partA c (i : Int) [posB i] = ([(c.1, (outC c (i : Int)).2)], 0) := by
    unfold partA
    rw [hp]
    cases hb : c.1.val.testBit i
    · simp only [Bool.false_eq_true, if_false]
      congr 2
      refine c_bits (fun k => ?_) (fun k => rfl)
      rw [(out_bits c i k hi).1, (fright_bits h k).1]
      by_cases e : i = k
      · subst e; simp [hb]
      · simp [e]
    · simp only [if_true]
      rw [meet_one]
      congr 2
      refine c_bits (fun k => ?_) (fun k => ?_)
      · rw [(meet_bits _ _ k).1, (out_bits c i k hi).1, (posB_bits i k hi).1]
        have := (fright_bits h k).1
        by_cases e : i = k
        · subst e; simp [hb, hi]
        · simp [e, this]
      · rw [(meet_bits _ _ k).2, (out_bits c i k hi).2, (posB_bits i k hi).2]
        by_cases e : k < 24 <;> simp [e]
  unfold partF
  rw [eA, hn]
  simp only [if_true]
  cases hb : c.2.val.testBit i
  · simp only [Bool.false_eq_true, if_false]
    congr 2
    refine c_bits (fun k => rfl) (fun k => ?_)
    show (outC c (i : Int)).2.val.testBit k = _
    rw [(out_bits c i k hi).2, (fright_bits h k).2]
    by_cases e : i = k
    · subst e; simp [hb]
    · simp [e]
  · simp only [if_true]
    rw [meet_one]
    congr 2
    refine c_bits (fun k => ?_) (fun k => ?_)
    · rw [(meet_bits _ _ k).1, (negB_bits i k hi).1]
      simp [(fright_bits h k).1]
    · rw [(meet_bits _ _ k).2, (negB_bits i k hi).2]
      show (decide (k < 24) && ((outC c (i : Int)).2.val.testBit k || decide (i = k))) = _
      rw [(out_bits c i k hi).2]
      have := (fright_bits h k).2
      by_cases e : i = k
      · subst e; simp [hb, hi]
      · simp [e, this]
theorem put_self {f : List C} {i : Nat} (hi : i < 24) (hf : rightF f = true) : putF f (i : Int) [posB i] = (f, 0) := by
  rw [putF_ok hf (rightF_one (posB_right i)) (isDimB_nat hi)]
  unfold putR
  rw [not_posB hi]
  exact putS_keeps hf (fun c hc => part_self hi (List.all_eq_true.1 (rightF_all hf) c hc))

/-! ### what has not a dimension -/
def freeC (k : Nat) (c : C) : Prop := c.1.val.testBit k = false ∧ c.2.val.testBit k = false
def freeL (k : Nat) (l : List C) : Prop := ∀ c ∈ l, freeC k c
theorem freeL.least {k : Nat} {l : List C} (h : freeL k l) : freeL k (leastF l).1 := fun c hc => h c (leastF_sub c hc)
theorem freeL.pairs {k : Nat} {f g : List C} (hf : freeL k f) (hg : freeL k g) : freeL k (pairsC f g) := fun c hc => by
  obtain ⟨a, ha, hx⟩ := List.mem_flatMap.1 hc
  obtain ⟨b, hb, rfl⟩ := List.mem_map.1 hx
  have h1 := hf a ha
  have h2 := hg b hb
  exact ⟨by rw [(meet_bits a b k).1, h1.1, h2.1]; simp, by rw [(meet_bits a b k).2, h1.2, h2.2]; simp⟩
theorem freeL.append {k : Nat} {f g : List C} (hf : freeL k f) (hg : freeL k g) : freeL k (f ++ g) := fun c hc => (List.mem_append.1 hc).elim (hf c) (hg c)
theorem freeL.nil (k : Nat) : freeL k [] := fun c hc => by simp at hc
theorem freeL.opp {k : Nat} {d : C} (h : freeC k d) : freeL k (oppC d) := fun c hc => by
  rcases List.mem_append.1 hc with hc | hc
  · obtain ⟨j, hj, rfl⟩ := List.mem_map.1 hc
    obtain ⟨h1, h2⟩ := mem_dimsOf.1 hj
    have hne : j ≠ k := by rintro rfl; rw [h.1] at h2; simp at h2
    exact ⟨(negB_bits j k h1).1, by rw [(negB_bits j k h1).2]; simp [hne]⟩
  · obtain ⟨j, hj, rfl⟩ := List.mem_map.1 hc
    obtain ⟨h1, h2⟩ := mem_dimsOf.1 hj
    have hne : j ≠ k := by rintro rfl; rw [h.2] at h2; simp at h2
    exact ⟨by rw [(posB_bits j k h1).1]; simp [hne], (posB_bits j k h1).2⟩
theorem freeL.not {k : Nat} {r : List C} (h : freeL k r) : freeL k (notR r).1 := by
  induction r using snoc_ind with
  | nil => intro c hc; obtain rfl : c = top0 := by simpa [notR] using hc
           exact ⟨by simp [top0], by simp [top0]⟩
  | snoc r c ih =>
    rw [notR_snoc]
    have h1 := ih (fun x hx => h x (by simp [hx]))
    unfold stepN
    split
    · exact ((freeL.pairs h1 (freeL.opp (h c (by simp))).least)).least
    · exact h1
theorem out_free {c : C} {i : Nat} (hi : i < 24) : freeL i [outC c (i : Int)] := fun x hx => by
  rw [List.mem_singleton.1 hx]
  exact ⟨by rw [(out_bits c i i hi).1]; simp, by rw [(out_bits c i i hi).2]; simp⟩
theorem freeL.partA {i : Nat} (hi : i < 24) {c : C} {r : List C} (h : freeL i r) : freeL i (partA c (i : Int) r).1 := by
  unfold Proofs.Ytkklmioejgpknaa.partA
  split
  · exact (freeL.pairs (out_free hi) h).least
  · exact out_free hi
theorem freeL.part {i : Nat} (hi : i < 24) {c : C} {r : List C} {s : List C × Int} (h : freeL i r) (hs : freeL i s.1) : freeL i (partF c (i : Int) r s).1 := by
  unfold partF
  split
  · split
    · split
      · exact (freeL.pairs (freeL.partA hi h) hs).least
      · exact freeL.nil i
    · exact freeL.partA hi h
  · exact freeL.partA hi h
theorem freeL.put {i : Nat} (hi : i < 24) {f r : List C} {s : List C × Int} (h : freeL i r) (hs : freeL i s.1) : freeL i (putS f (i : Int) r s).1 := by
  induction f using snoc_ind with
  | nil => exact freeL.nil i
  | snoc f c ih =>
    rw [putS_snoc]
    unfold stepP
    split
    · split
      · exact (freeL.append ih (freeL.part hi h hs)).least
      · exact freeL.nil i
    · exact ih
theorem put_free {i : Nat} (hi : i < 24) {f r : List C} (h : freeL i r) : freeL i (putF f (i : Int) r).1 := by
  unfold putF
  split
  · exact freeL.put hi h h.not
  · exact freeL.nil i
theorem put_same {i : Nat} (hi : i < 24) {f r : List C} (hf : rightF f = true) (hr : rightF r = true) (h : freeL i f) : putF f (i : Int) r = (f, 0) := by
  rw [putF_ok hf hr (isDimB_nat hi)]
  refine putS_keeps hf (fun c hc => ?_)
  have hh := h c hc
  have hp : hasB c.1.val (i : Int) = false := (hasB_nat hi).trans hh.1
  have hn : hasB c.2.val (i : Int) = false := (hasB_nat hi).trans hh.2
  have hrc := List.all_eq_true.1 (rightF_all hf) c hc
  have e : outC c (i : Int) = c := by
    refine c_bits (fun k => ?_) (fun k => ?_)
    · rw [(out_bits c i k hi).1, (fright_bits hrc k).1]
      by_cases e : i = k
      · subst e; simp [hh.1]
      · simp [e]
    · rw [(out_bits c i k hi).2, (fright_bits hrc k).2]
      by_cases e : i = k
      · subst e; simp [hh.2]
      · simp [e]
  unfold partF partA
  simp [hp, hn, e]

/-! ### the dimensions -/
def stepD (a : Nat) (c : C) : Nat := a ||| ((c.1.val ||| c.2.val) &&& 16777215)
def dimsN (f : List C) : Nat := f.foldl stepD 0
theorem dimsN_snoc (f : List C) (c : C) : dimsN (f ++ [c]) = stepD (dimsN f) c := by simp [dimsN]
def inF (f : List C) (k : Nat) : Bool := f.any (fun c => c.1.val.testBit k || c.2.val.testBit k)
theorem inF_snoc (f : List C) (c : C) (k : Nat) : inF (f ++ [c]) k = (inF f k || (c.1.val.testBit k || c.2.val.testBit k)) := by simp [inF]
theorem dimsN_bit (f : List C) (k : Nat) : (dimsN f).testBit k = (decide (k < 24) && inF f k) := by
  induction f using snoc_ind with
  | nil => simp [dimsN, inF]
  | snoc f c ih =>
    rw [dimsN_snoc, stepD, Nat.testBit_or, ih, testBit_low, Nat.testBit_or, inF_snoc]
    cases decide (k < 24) <;> simp
theorem dimsN_lt (f : List C) : dimsN f < 16777216 := by
  have : dimsN f = dimsN f &&& 16777215 := by
    apply Nat.eq_of_testBit_eq
    intro k
    rw [testBit_low, dimsN_bit]
    cases decide (k < 24) <;> simp
  rw [this]; exact low_lt _
theorem dimsN_orAll (f : List C) : orAll ((List.range 24).filter (fun k => inF f k)) = dimsN f := by
  apply Nat.eq_of_testBit_eq
  intro k
  rw [testBit_orAll, dimsN_bit]
  rw [Bool.eq_iff_iff]
  simp
theorem free_iff {f : List C} {i : Nat} (hi : i < 24) : dimsN f &&& 2 ^ i = 0 ↔ freeL i f := by
  have h1 : dimsN f &&& 2 ^ i = 0 ↔ (dimsN f).testBit i = false := by
    constructor
    · intro h
      have := congrArg (fun x => Nat.testBit x i) h
      simpa [Nat.testBit_and, Nat.testBit_two_pow] using this
    · intro h
      apply Nat.eq_of_testBit_eq
      intro k
      rw [Nat.testBit_and, Nat.testBit_two_pow, Nat.zero_testBit]
      by_cases e : i = k
      · subst e; simp [h]
      · simp [e]
  rw [h1, dimsN_bit]
  simp only [hi, decide_true, Bool.true_and]
  unfold inF
  rw [List.any_eq_false]
  constructor
  · intro h c hc
    have := h c hc
    simp only [Bool.or_eq_true, not_or, Bool.not_eq_true] at this
    exact this
  · intro h c hc
    have := h c hc
    simp [this.1, this.2]
end Go.Proofs.Ytkklmioejgpknaa
