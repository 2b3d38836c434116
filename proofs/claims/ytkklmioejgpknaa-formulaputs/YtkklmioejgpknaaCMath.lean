/- Plain mathematics for the layer clause: a clause as two numbers of 32 bits, the order, being below, and the least rows. Nothing of the program is imported. -/
import Derived.Test.YtkklmioejgpknaaMathB
namespace Go.Proofs.Ytkklmioejgpknaa
set_option linter.unusedVariables false
set_option linter.unusedSimpArgs false

/-- A clause: its two numbers. -/
abbrev C := Fin 4294967296 × Fin 4294967296
def top0 : C := (0, 0)

def rightC (c : C) : Bool := rightB c.1.val && rightB c.2.val
def clashC (c : C) : Bool := decide (c.1.val &&& c.2.val &&& 16777215 ≠ 0)
def meetP (a b : C) : Nat := (a.1.val ||| b.1.val) &&& 16777215
def meetN (a b : C) : Nat := (a.2.val ||| b.2.val) &&& 16777215
theorem meetP_lt (a b : C) : meetP a b < 4294967296 := Nat.lt_trans (low_lt _) (by decide)
theorem meetN_lt (a b : C) : meetN a b < 4294967296 := Nat.lt_trans (low_lt _) (by decide)
def meetC (a b : C) : C := (⟨meetP a b, meetP_lt a b⟩, ⟨meetN a b, meetN_lt a b⟩)
def sub24 (y x : Nat) : Bool := decide (andNot32 y x &&& 16777215 = 0)
def belP (a b : C) : Bool := sub24 b.1.val a.1.val
def belN (a b : C) : Bool := sub24 b.2.val a.2.val
/-- a is below b. -/
def belC (a b : C) : Bool := belP a b && belN a b
def cmpN (x y : Nat) : Int := if x < y then -1 else if y < x then 1 else 0
def cmpC (a b : C) : Int := if cmpN a.1.val b.1.val ≠ 0 then cmpN a.1.val b.1.val else cmpN a.2.val b.2.val
/-- The order. -/
def ltC (a b : C) : Bool := decide (a.1.val < b.1.val) || (decide (a.1.val = b.1.val) && decide (a.2.val < b.2.val))

theorem c_ext {a b : C} (h1 : a.1.val = b.1.val) (h2 : a.2.val = b.2.val) : a = b := Prod.ext (Fin.ext h1) (Fin.ext h2)
theorem ltC_irrefl (a : C) : ltC a a = false := by simp [ltC]
theorem ltC_trans {a b c : C} (h1 : ltC a b = true) (h2 : ltC b c = true) : ltC a c = true := by
  simp only [ltC, Bool.or_eq_true, Bool.and_eq_true, decide_eq_true_eq] at *; omega
theorem ltC_total {a b : C} (h1 : ltC a b = false) (h2 : ltC b a = false) : a = b := by
  simp only [ltC, Bool.or_eq_false_iff, Bool.and_eq_false_iff, decide_eq_false_iff_not] at *
  exact c_ext (by omega) (by omega)
theorem ltC_asymm {a b : C} (h1 : ltC a b = true) : ltC b a = false := by
  cases h : ltC b a
  · rfl
  · have := ltC_trans h1 h; rw [ltC_irrefl] at this; exact absurd this (by simp)
theorem ltC_ne {a b : C} (h1 : ltC a b = true) : a ≠ b := by rintro rfl; rw [ltC_irrefl] at h1; exact absurd h1 (by simp)
theorem cmpN_cases (x y : Nat) : (x < y ∧ cmpN x y = -1) ∨ (y < x ∧ cmpN x y = 1) ∨ (x = y ∧ cmpN x y = 0) := by
  unfold cmpN
  by_cases h : x < y
  · exact .inl ⟨h, by simp [h]⟩
  · by_cases h2 : y < x
    · exact .inr (.inl ⟨h2, by simp [h, h2]⟩)
    · exact .inr (.inr ⟨by omega, by simp [h, h2]⟩)
theorem cmpC_cases (a b : C) : (ltC a b = true ∧ cmpC a b = -1) ∨ (ltC b a = true ∧ cmpC a b = 1) ∨ (a = b ∧ cmpC a b = 0) := by
  unfold cmpC
  rcases cmpN_cases a.1.val b.1.val with ⟨h, e⟩ | ⟨h, e⟩ | ⟨h, e⟩
  · exact .inl ⟨by simp [ltC, h], by simp [e]⟩
  · exact .inr (.inl ⟨by simp [ltC, h], by simp [e]⟩)
  · rcases cmpN_cases a.2.val b.2.val with ⟨h2, e2⟩ | ⟨h2, e2⟩ | ⟨h2, e2⟩
    · exact .inl ⟨by simp [ltC, h, h2], by simp [e, e2]⟩
    · exact .inr (.inl ⟨by simp [ltC, h, h2], by simp [e, e2]⟩)
    · exact .inr (.inr ⟨c_ext h h2, by simp [e, e2]⟩)
theorem cmpC_lt (a b : C) : decide (cmpC a b < 0) = ltC a b := by
  rcases cmpC_cases a b with ⟨h, e⟩ | ⟨h, e⟩ | ⟨h, e⟩
  · rw [h, e]; rfl
  · rw [ltC_asymm h, e]; rfl
  · subst h; rw [ltC_irrefl, e]; rfl

/-! ### being below -/
theorem sub24_iff {y x : Nat} (hy : y < 4294967296) : sub24 y x = true ↔ ∀ k, k < 24 → y.testBit k = true → x.testBit k = true := by
  unfold sub24
  rw [decide_eq_true_eq]
  constructor
  · intro h k hk hb
    have h2 : (andNot32 y x &&& 16777215).testBit k = false := by rw [h]; simp
    rw [testBit_low, testBit_andNot32 _ _ _ hy] at h2
    simp [hk, hb] at h2
    exact h2
  · intro h
    apply Nat.eq_of_testBit_eq
    intro k
    rw [testBit_low, testBit_andNot32 _ _ _ hy, Nat.zero_testBit]
    by_cases hk : k < 24
    · cases hb : y.testBit k
      · simp
      · simp [h k hk hb]
    · simp [hk]
theorem belC_iff {a b : C} : belC a b = true ↔ (∀ k, k < 24 → b.1.val.testBit k = true → a.1.val.testBit k = true) ∧ (∀ k, k < 24 → b.2.val.testBit k = true → a.2.val.testBit k = true) := by
  unfold belC belP belN
  rw [Bool.and_eq_true, sub24_iff b.1.isLt, sub24_iff b.2.isLt]
theorem belC_refl (a : C) : belC a a = true := belC_iff.2 ⟨fun _ _ h => h, fun _ _ h => h⟩
theorem belC_trans {a b c : C} (h1 : belC a b = true) (h2 : belC b c = true) : belC a c = true := by
  rw [belC_iff] at *
  exact ⟨fun k hk h => h1.1 k hk (h2.1 k hk h), fun k hk h => h1.2 k hk (h2.2 k hk h)⟩
theorem rightC_iff {c : C} : rightC c = true ↔ c.1.val < 16777216 ∧ c.2.val < 16777216 := by simp [rightC, rightB]
theorem bit_lt24 {x k : Nat} (h : x < 16777216) (hb : x.testBit k = true) : k < 24 := by
  rcases Nat.lt_or_ge k 24 with h1 | h1
  · exact h1
  · have : x < 2 ^ k := Nat.lt_of_lt_of_le h (Nat.pow_le_pow_right (n := 2) (by decide) h1)
    rw [Nat.testBit_lt_two_pow this] at hb
    exact absurd hb (by simp)
theorem sub_or {x y : Nat} (hy : y < 16777216) (h : ∀ k, k < 24 → y.testBit k = true → x.testBit k = true) : x ||| y = x := by
  apply Nat.eq_of_testBit_eq
  intro k
  rw [Nat.testBit_or]
  cases hb : y.testBit k
  · simp
  · simp [h k (bit_lt24 hy hb) hb]
theorem sub_le {x y : Nat} (hy : y < 16777216) (h : ∀ k, k < 24 → y.testBit k = true → x.testBit k = true) : y ≤ x := by
  rw [← sub_or hy h]; exact Nat.right_le_or
/-- Of clauses that may be: the document's word for being below. -/
theorem or_sub {x y : Nat} (h : x ||| y = x) : ∀ k, k < 24 → y.testBit k = true → x.testBit k = true := by
  intro k _ hb
  have := congrArg (fun z => Nat.testBit z k) h
  simp [Nat.testBit_or, hb] at this
  exact this
def belRP (a b : C) : Bool := decide (a.1.val ||| b.1.val = a.1.val)
def belRN (a b : C) : Bool := decide (a.2.val ||| b.2.val = a.2.val)
def belR (a b : C) : Bool := belRP a b && belRN a b
theorem belR_eq {a b : C} (hb : rightC b = true) : belR a b = belC a b := by
  rw [Bool.eq_iff_iff, belC_iff]
  have hb := rightC_iff.1 hb
  simp only [belR, belRP, belRN, Bool.and_eq_true, decide_eq_true_eq]
  exact ⟨fun h => ⟨or_sub h.1, or_sub h.2⟩, fun h => ⟨sub_or hb.1 h.1, sub_or hb.2 h.2⟩⟩
theorem bel_lt {a b : C} (hb : rightC b = true) (h : belC a b = true) (hne : a ≠ b) : ltC b a = true := by
  have hb := rightC_iff.1 hb
  rw [belC_iff] at h
  have h1 := sub_le hb.1 h.1
  have h2 := sub_le hb.2 h.2
  simp only [ltC, Bool.or_eq_true, Bool.and_eq_true, decide_eq_true_eq]
  rcases Nat.lt_or_eq_of_le h1 with h3 | h3
  · exact .inl h3
  · rcases Nat.lt_or_eq_of_le h2 with h4 | h4
    · exact .inr ⟨h3, h4⟩
    · exact absurd (c_ext h3.symm h4.symm) hne
theorem bel_antisymm {a b : C} (ha : rightC a = true) (hb : rightC b = true) (h1 : belC a b = true) (h2 : belC b a = true) : a = b := by
  by_cases e : a = b
  · exact e
  · have x := bel_lt hb h1 e
    have y := bel_lt ha h2 (fun h => e h.symm)
    rw [ltC_asymm x] at y; exact absurd y (by simp)

/-! ### rows that rise -/
def risesC (l : List C) : Prop := l.Pairwise (fun a b => ltC a b = true)
theorem rises_ext : ∀ {l m : List C}, risesC l → risesC m → (∀ k, k ∈ l ↔ k ∈ m) → l = m
  | [], [], _, _, _ => rfl
  | [], b :: m, _, _, h => absurd ((h b).2 (by simp)) (by simp)
  | a :: l, [], _, _, h => absurd ((h a).1 (by simp)) (by simp)
  | a :: l, b :: m, hl, hm, h => by
    have hl' := List.pairwise_cons.1 hl
    have hm' := List.pairwise_cons.1 hm
    have hab : a = b := by
      rcases List.mem_cons.1 ((h a).1 (by simp)) with e | e
      · exact e
      · rcases List.mem_cons.1 ((h b).2 (by simp)) with f | f
        · exact f.symm
        · have x := hm'.1 a e; have y := hl'.1 b f; rw [ltC_asymm x] at y; exact absurd y (by simp)
    subst hab
    congr 1
    refine rises_ext hl'.2 hm'.2 (fun k => ⟨fun hk => ?_, fun hk => ?_⟩)
    · rcases List.mem_cons.1 ((h k).1 (List.mem_cons_of_mem _ hk)) with e | e
      · exact absurd e.symm (ltC_ne (hl'.1 k hk))
      · exact e
    · rcases List.mem_cons.1 ((h k).2 (List.mem_cons_of_mem _ hk)) with e | e
      · exact absurd e.symm (ltC_ne (hm'.1 k hk))
      · exact e

/-! ### the least row -/
def neededB (l : List C) (c : C) : Bool := l.all (fun d => decide (d = c) || !belC c d)
theorem needed_iff {l : List C} {c : C} : neededB l c = true ↔ ∀ d ∈ l, belC c d = true → d = c := by
  simp only [neededB, List.all_eq_true, Bool.or_eq_true, decide_eq_true_eq, Bool.not_eq_true']
  exact ⟨fun h d hd hb => (h d hd).resolve_right (by simp [hb]), fun h d hd => by
    cases hb : belC c d
    · exact .inr rfl
    · exact .inl (h d hd hb)⟩
/-- M is the least row of l. -/
structure IsLeast (l M : List C) : Prop where
  rises : risesC M
  mem : ∀ c, c ∈ M ↔ c ∈ l ∧ neededB l c = true
theorem IsLeast.unique {l M N : List C} (h1 : IsLeast l M) (h2 : IsLeast l N) : M = N :=
  rises_ext h1.rises h2.rises (fun k => by rw [h1.mem, h2.mem])

theorem snoc_ind {α : Type} {motive : List α → Prop} (nil : motive []) (snoc : ∀ (o : List α) (c : α), motive o → motive (o ++ [c])) (l : List α) : motive l := by
  have h : ∀ r : List α, motive r.reverse := fun r => by
    induction r with
    | nil => exact nil
    | cons c r ih => rw [List.reverse_cons]; exact snoc _ _ ih
  have := h l.reverse
  rwa [List.reverse_reverse] at this

/-- What the loop over the ordered row keeps. -/
def keep (acc : List C) (c : C) : List C := if acc.any (fun b => belC c b) then acc else acc ++ [c]
def keepAll (o : List C) : List C := o.foldl keep []
theorem keepAll_snoc (o : List C) (c : C) : keepAll (o ++ [c]) = keep (keepAll o) c := by simp [keepAll]
theorem keep_sub {acc : List C} {c x : C} (h : x ∈ acc) : x ∈ keep acc c := by unfold keep; split <;> simp [h]
theorem keepAll_mem_of {o : List C} : ∀ x ∈ keepAll o, x ∈ o := by
  induction o using snoc_ind with
  | nil => intro x h; simp [keepAll] at h
  | snoc o c ih =>
    intro x h
    rw [keepAll_snoc] at h
    unfold keep at h
    split at h
    · exact List.mem_append_left _ (ih x h)
    · rcases List.mem_append.1 h with h | h
      · exact List.mem_append_left _ (ih x h)
      · exact List.mem_append_right _ h
theorem keepAll_covers {o : List C} : ∀ x ∈ o, ∃ d ∈ keepAll o, belC x d = true := by
  induction o using snoc_ind with
  | nil => intro x h; simp at h
  | snoc o c ih =>
    intro x h
    rw [keepAll_snoc]
    rcases List.mem_append.1 h with h | h
    · obtain ⟨d, hd, hb⟩ := ih x h
      exact ⟨d, keep_sub hd, hb⟩
    · obtain rfl : x = c := by simpa using h
      unfold keep
      split
      · rename_i ha
        obtain ⟨d, hd, hb⟩ := List.any_eq_true.1 ha
        exact ⟨d, hd, hb⟩
      · exact ⟨x, by simp, belC_refl x⟩
theorem keepAll_sublist {o : List C} : (keepAll o).Sublist o := by
  induction o using snoc_ind with
  | nil => simp [keepAll]
  | snoc o c ih =>
    rw [keepAll_snoc]
    unfold keep
    split
    · exact ih.trans (List.sublist_append_left _ _)
    · exact ih.append (List.Sublist.refl _)
theorem keepAll_length_mono (o r : List C) : (keepAll o).length ≤ (keepAll (o ++ r)).length := by
  induction r generalizing o with
  | nil => simp
  | cons c r ih =>
    have e : o ++ c :: r = (o ++ [c]) ++ r := by simp
    rw [e]
    refine Nat.le_trans ?_ (ih (o ++ [c]))
    rw [keepAll_snoc]
    unfold keep
    split <;> simp
theorem keepAll_needed {o : List C} (hr : ∀ c ∈ o, rightC c = true) (hs : risesC o) : ∀ x, x ∈ keepAll o ↔ x ∈ o ∧ neededB o x = true := by
  induction o using snoc_ind with
  | nil => intro x; simp [keepAll]
  | snoc o c ih =>
    have hro : ∀ c ∈ o, rightC c = true := fun x hx => hr x (List.mem_append_left _ hx)
    have hso : risesC o := (List.pairwise_append.1 hs).1
    have hlt : ∀ d ∈ o, ltC d c = true := fun d hd => (List.pairwise_append.1 hs).2.2 d hd c (by simp)
    have hrc : rightC c = true := hr c (by simp)
    intro x
    rw [keepAll_snoc]
    have hold : ∀ x ∈ o, neededB (o ++ [c]) x = neededB o x := fun x hx => by
      rw [Bool.eq_iff_iff, needed_iff, needed_iff]
      constructor
      · intro h d hd; exact h d (List.mem_append_left _ hd)
      · intro h d hd hb
        rcases List.mem_append.1 hd with hd | hd
        · exact h d hd hb
        · obtain rfl : d = c := by simpa using hd
          have h1 := hlt x hx
          by_cases e : x = d
          · exact e.symm
          · have := bel_lt hrc hb e
            rw [ltC_asymm h1] at this; exact absurd this (by simp)
    have hnew : neededB (o ++ [c]) c = true ↔ (keepAll o).any (fun b => belC c b) = false := by
      rw [needed_iff, List.any_eq_false]
      constructor
      · intro h d hd hb
        have hdo := keepAll_mem_of d hd
        have := h d (List.mem_append_left _ hdo) (by simpa using hb)
        exact absurd this (ltC_ne (hlt d hdo))
      · intro h d hd hb
        rcases List.mem_append.1 hd with hd | hd
        · obtain ⟨d2, hd2, hb2⟩ := keepAll_covers d hd
          exact absurd (belC_trans hb hb2) (by simpa using h d2 hd2)
        · simpa using hd
    have hcn : c ∉ o := fun h => absurd (hlt c h) (by rw [ltC_irrefl]; simp)
    unfold keep
    split
    · rename_i ha
      rw [ih hro hso x]
      constructor
      · rintro ⟨h1, h2⟩; exact ⟨List.mem_append_left _ h1, by rw [hold x h1]; exact h2⟩
      · rintro ⟨h1, h2⟩
        rcases List.mem_append.1 h1 with h1 | h1
        · exact ⟨h1, by rw [hold x h1] at h2; exact h2⟩
        · obtain rfl : x = c := by simpa using h1
          rw [hnew.1 h2] at ha; exact absurd ha (by simp)
    · rename_i ha
      have ha : (keepAll o).any (fun b => belC c b) = false := by simpa using ha
      rw [List.mem_append, ih hro hso x]
      constructor
      · rintro (⟨h1, h2⟩ | h1)
        · exact ⟨List.mem_append_left _ h1, by rw [hold x h1]; exact h2⟩
        · obtain rfl : x = c := by simpa using h1
          exact ⟨by simp, hnew.2 ha⟩
      · rintro ⟨h1, h2⟩
        rcases List.mem_append.1 h1 with h1 | h1
        · exact .inl ⟨h1, by rw [hold x h1] at h2; exact h2⟩
        · exact .inr h1
theorem needed_congr {l m : List C} (h : ∀ c, c ∈ l ↔ c ∈ m) (c : C) : neededB l c = neededB m c := by
  rw [Bool.eq_iff_iff, needed_iff, needed_iff]
  exact ⟨fun hh d hd => hh d ((h d).2 hd), fun hh d hd => hh d ((h d).1 hd)⟩
/-- The code's least row: of the ordered row what is kept. -/
theorem isLeast_keepAll {l o : List C} (hr : ∀ c ∈ l, rightC c = true) (hs : risesC o) (hm : ∀ c, c ∈ o ↔ c ∈ l) : IsLeast l (keepAll o) where
  rises := hs.sublist keepAll_sublist
  mem c := by
    rw [keepAll_needed (fun c hc => hr c ((hm c).1 hc)) hs c, hm c, needed_congr hm c]
end Go.Proofs.Ytkklmioejgpknaa
