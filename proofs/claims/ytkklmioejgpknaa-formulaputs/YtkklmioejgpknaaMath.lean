/- Plain mathematics for the layer mask: a set of dimensions as a number, its list of dimensions, sums and joins of powers of two. Nothing of the program is imported. -/
import Derived.Laws.BitsLemmas
namespace Go.Proofs.Ytkklmioejgpknaa

/-- The dimensions of a number, rising. -/
def dimsOf (s : Nat) : List Nat := (List.range 24).filter (fun k => s.testBit k)
/-- Powers of two, joined bit by bit. -/
def orFrom (a : Nat) (l : List Nat) : Nat := l.foldl (fun a k => a ||| 2 ^ k) a
def orAll (l : List Nat) : Nat := orFrom 0 l
/-- Powers of two, summed. -/
def sumFrom (a : Nat) (l : List Nat) : Nat := l.foldl (fun a k => a + 2 ^ k) a
def sumAll (l : List Nat) : Nat := sumFrom 0 l

theorem testBit_orFrom (l : List Nat) : ∀ (a k : Nat), (orFrom a l).testBit k = (a.testBit k || decide (k ∈ l)) := by
  induction l with
  | nil => intro a k; simp [orFrom]
  | cons x l ih =>
    intro a k
    have h : orFrom a (x :: l) = orFrom (a ||| 2 ^ x) l := rfl
    rw [h, ih, Nat.testBit_or, Nat.testBit_two_pow]
    by_cases e : x = k
    · subst e; simp
    · have e' : ¬ k = x := fun h => e h.symm
      simp [e, e']
theorem testBit_orAll (l : List Nat) (k : Nat) : (orAll l).testBit k = decide (k ∈ l) := by
  rw [orAll, testBit_orFrom]; simp
theorem orAll_snoc (l : List Nat) (k : Nat) : orAll (l ++ [k]) = orAll l ||| 2 ^ k := by simp [orAll, orFrom]
theorem sumAll_snoc (l : List Nat) (k : Nat) : sumAll (l ++ [k]) = sumAll l + 2 ^ k := by simp [sumAll, sumFrom]
theorem orAll_lt {l : List Nat} (h : ∀ k ∈ l, k < 24) : orAll l < 16777216 := by
  have : orAll l < 2 ^ 24 := Nat.lt_pow_two_of_testBit _ (fun i hi => by
    rw [testBit_orAll]
    exact decide_eq_false (fun hm => by have := h i hm; omega))
  exact this
theorem mem_dimsOf {s k : Nat} : k ∈ dimsOf s ↔ k < 24 ∧ s.testBit k = true := by simp [dimsOf]
theorem dimsOf_lt {s : Nat} : ∀ k ∈ dimsOf s, k < 24 := fun _ h => (mem_dimsOf.1 h).1
theorem dimsOf_sorted (s : Nat) : (dimsOf s).Pairwise (· < ·) := List.Pairwise.filter _ List.pairwise_lt_range
theorem dimsOf_length_le (s : Nat) : (dimsOf s).length ≤ 24 := by
  have := List.length_filter_le (fun k => s.testBit k) (List.range 24)
  simpa [dimsOf] using this

theorem sorted_ext : ∀ {l m : List Nat}, l.Pairwise (· < ·) → m.Pairwise (· < ·) → (∀ k, k ∈ l ↔ k ∈ m) → l = m
  | [], [], _, _, _ => rfl
  | [], b :: m, _, _, h => absurd ((h b).2 (by simp)) (by simp)
  | a :: l, [], _, _, h => absurd ((h a).1 (by simp)) (by simp)
  | a :: l, b :: m, hl, hm, h => by
    have hl' := List.pairwise_cons.1 hl
    have hm' := List.pairwise_cons.1 hm
    have hab : a = b := by
      rcases List.mem_cons.1 ((h a).1 (by simp)) with e | e
      · exact e
      · rcases List.mem_cons.1 ((h b).2 (by simp)) with f | f
        · exact f.symm
        · have := hm'.1 a e; have := hl'.1 b f; omega
    subst hab
    congr 1
    refine sorted_ext hl'.2 hm'.2 (fun k => ⟨fun hk => ?_, fun hk => ?_⟩)
    · rcases List.mem_cons.1 ((h k).1 (List.mem_cons_of_mem _ hk)) with e | e
      · have := hl'.1 k hk; omega
      · exact e
    · rcases List.mem_cons.1 ((h k).2 (List.mem_cons_of_mem _ hk)) with e | e
      · have := hm'.1 k hk; omega
      · exact e

theorem dimsOf_of {x : Nat} {l : List Nat} (hs : l.Pairwise (· < ·)) (h24 : ∀ k ∈ l, k < 24) (hb : ∀ k, k < 24 → x.testBit k = decide (k ∈ l)) : dimsOf x = l := by
  refine sorted_ext (dimsOf_sorted x) hs (fun k => ?_)
  rw [mem_dimsOf]
  constructor
  · rintro ⟨h1, h2⟩; rw [hb k h1] at h2; exact of_decide_eq_true h2
  · intro h; exact ⟨h24 k h, by rw [hb k (h24 k h)]; exact decide_eq_true h⟩
theorem dimsOf_orAll {l : List Nat} (hs : l.Pairwise (· < ·)) (h24 : ∀ k ∈ l, k < 24) : dimsOf (orAll l) = l :=
  dimsOf_of hs h24 (fun k _ => testBit_orAll l k)
theorem orAll_eq {l m : List Nat} (h : ∀ k, k ∈ l ↔ k ∈ m) : orAll l = orAll m := by
  apply Nat.eq_of_testBit_eq
  intro k; rw [testBit_orAll, testBit_orAll]; exact decide_eq_decide.2 (h k)

theorem add_pow_eq_or {a k : Nat} (h : a.testBit k = false) : a + 2 ^ k = a ||| 2 ^ k := by
  have hand : a &&& 2 ^ k = 0 := by
    apply Nat.eq_of_testBit_eq
    intro i
    rw [Nat.testBit_and, Nat.testBit_two_pow, Nat.zero_testBit]
    by_cases e : k = i
    · subst e; simp [h]
    · simp [e]
  obtain ⟨n, hlt⟩ : ∃ n, a + 2 ^ k < 2 ^ n := ⟨a + 2 ^ k, Nat.lt_two_pow_self⟩
  have ha : a < 2 ^ n := Nat.lt_of_le_of_lt (Nat.le_add_right _ _) hlt
  have hb : 2 ^ k < 2 ^ n := Nat.lt_of_le_of_lt (Nat.le_add_left _ _) hlt
  have hbv := BitVec.add_eq_or_of_and_eq_zero (BitVec.ofNat n a) (BitVec.ofNat n (2 ^ k)) (by
    apply BitVec.eq_of_toNat_eq
    rw [BitVec.toNat_and, BitVec.toNat_ofNat, BitVec.toNat_ofNat, Nat.mod_eq_of_lt ha, Nat.mod_eq_of_lt hb, hand]; simp)
  have := congrArg BitVec.toNat hbv
  rw [BitVec.toNat_add, BitVec.toNat_or, BitVec.toNat_ofNat, BitVec.toNat_ofNat, Nat.mod_eq_of_lt ha, Nat.mod_eq_of_lt hb, Nat.mod_eq_of_lt hlt] at this
  exact this

theorem sumFrom_eq : ∀ (l : List Nat) (a : Nat), l.Nodup → (∀ k ∈ l, a.testBit k = false) → sumFrom a l = orFrom a l
  | [], _, _, _ => rfl
  | x :: l, a, hn, h => by
    have hn' := List.nodup_cons.1 hn
    have e1 : sumFrom a (x :: l) = sumFrom (a + 2 ^ x) l := rfl
    have e2 : orFrom a (x :: l) = orFrom (a ||| 2 ^ x) l := rfl
    rw [e1, e2, add_pow_eq_or (h x (by simp))]
    refine sumFrom_eq l _ hn'.2 (fun k hk => ?_)
    rw [Nat.testBit_or, h k (List.mem_cons_of_mem _ hk), Nat.testBit_two_pow]
    simp only [Bool.false_or, decide_eq_false_iff_not]
    rintro rfl; exact hn'.1 hk
theorem sumAll_eq {l : List Nat} (hn : l.Nodup) : sumAll l = orAll l := sumFrom_eq l 0 hn (by simp)
theorem sumFrom_le (l : List Nat) (h : ∀ k ∈ l, k < 24) : ∀ a, sumFrom a l ≤ a + l.length * 16777216 := by
  induction l with
  | nil => intro a; simp [sumFrom]
  | cons x l ih =>
    intro a
    have e : sumFrom a (x :: l) = sumFrom (a + 2 ^ x) l := rfl
    have hx := h x (by simp)
    have hp : 2 ^ x ≤ 2 ^ 23 := Nat.pow_le_pow_right (by decide) (by omega)
    have := ih (fun k hk => h k (List.mem_cons_of_mem _ hk)) (a + 2 ^ x)
    rw [e]; simp only [List.length_cons]; omega
theorem sorted_nodup {l : List Nat} (h : l.Pairwise (· < ·)) : l.Nodup := h.imp (fun h => Nat.ne_of_lt h)

/-- A number without the bits above the 23rd. -/
theorem testBit_low (s k : Nat) : (s &&& 16777215).testBit k = (decide (k < 24) && s.testBit k) := by
  have e : (16777215 : Nat) = 2 ^ 24 - 1 := by decide
  rw [e, Nat.and_two_pow_sub_one_eq_mod, Nat.testBit_mod_two_pow]
theorem low_lt (s : Nat) : s &&& 16777215 < 16777216 := by
  have e : (16777215 : Nat) = 2 ^ 24 - 1 := by decide
  rw [e, Nat.and_two_pow_sub_one_eq_mod]; exact Nat.mod_lt _ (by decide)
theorem low_eq (s : Nat) : s &&& 16777215 = orAll (dimsOf s) := by
  apply Nat.eq_of_testBit_eq
  intro k; rw [testBit_low, testBit_orAll, Bool.eq_iff_iff]; simp [mem_dimsOf]
theorem low_of_lt {s : Nat} (h : s < 16777216) : s &&& 16777215 = s := by
  have e : (16777215 : Nat) = 2 ^ 24 - 1 := by decide
  rw [e, Nat.and_two_pow_sub_one_eq_mod]; exact Nat.mod_eq_of_lt h

/-- What Go's '&^' makes of two 32 bit numbers. -/
def andNot32 (a b : Nat) : Nat := (BitVec.ofNat 32 a &&& ~~~ BitVec.ofNat 32 b).toNat
theorem andNot32_lt (a b : Nat) : andNot32 a b < 4294967296 := (BitVec.ofNat 32 a &&& ~~~ BitVec.ofNat 32 b).isLt
theorem testBit_andNot32 (a b k : Nat) (ha : a < 4294967296) : (andNot32 a b).testBit k = (a.testBit k && !b.testBit k) := by
  have h : (andNot32 a b).testBit k = (BitVec.ofNat 32 a &&& ~~~ BitVec.ofNat 32 b).getLsbD k := rfl
  rw [h, BitVec.getLsbD_and, BitVec.getLsbD_not, BitVec.getLsbD_ofNat, BitVec.getLsbD_ofNat]
  by_cases hk : k < 32
  · simp [hk]
  · have hp : 2 ^ 32 ≤ 2 ^ k := Nat.pow_le_pow_right (by decide) (by omega)
    have : a.testBit k = false := Nat.testBit_lt_two_pow (Nat.lt_of_lt_of_le ha hp)
    simp [this]

theorem wraps_u32 (n : Int) (h₀ : 0 ≤ n) (h₁ : n < 2 ^ 32) : IntKind.u32.wrap n = n := by rw [IntKind.wrap_u32]; omega
theorem bits_and32 (a b : Nat) (ha : a < 4294967296) (hb : b < 4294967296) : bits .and .u32 a b = ((a &&& b : Nat) : Int) :=
  (bits_nat .u32 32 (by decide) wraps_u32 a b (by omega) (by omega)).1
theorem bits_or32 (a b : Nat) (ha : a < 4294967296) (hb : b < 4294967296) : bits .or .u32 a b = ((a ||| b : Nat) : Int) :=
  (bits_nat .u32 32 (by decide) wraps_u32 a b (by omega) (by omega)).2
theorem bits_andNot32 (a b : Nat) : bits .andNot .u32 a b = ((andNot32 a b : Nat) : Int) := by
  show IntKind.u32.wrap ((BitVec.ofInt 32 (a : Int) &&& ~~~ BitVec.ofInt 32 (b : Int)).toNat : Int) = _
  rw [BitVec.ofInt_natCast, BitVec.ofInt_natCast]
  exact wraps_u32 _ (Int.natCast_nonneg _) (by have := andNot32_lt a b; unfold andNot32 at this; omega)
theorem pow_mod32 (i : Nat) (hi : i < 24) : ((2 : Int) ^ i % 4294967296) = ((2 ^ i : Nat) : Int) := by
  have : (2 : Nat) ^ i < 2 ^ 24 := Nat.pow_lt_pow_right (by decide) hi
  have e : ((2 : Int) ^ i) = ((2 ^ i : Nat) : Int) := by simp
  rw [e]
  generalize (2 : Nat) ^ i = x at *
  omega
theorem pow_lt (i : Nat) (hi : i < 24) : 2 ^ i < 4294967296 := by
  have : (2 : Nat) ^ i < 2 ^ 24 := Nat.pow_lt_pow_right (by decide) hi
  omega

/-! What each function of the layer answers. -/
def rightB (s : Nat) : Bool := decide (s < 16777216)
def isDimB (i : Int) : Bool := decide (0 ≤ i) && decide (i < 24)
def hasB (s : Nat) (i : Int) : Bool := isDimB i && s.testBit i.toNat
def withN (s : Nat) (i : Int) : Nat := if isDimB i then (s &&& 16777215) ||| 2 ^ i.toNat else s &&& 16777215
def withoutN (s : Nat) (i : Int) : Nat := if isDimB i then andNot32 (s &&& 16777215) (2 ^ i.toNat) else s &&& 16777215
def countN (s : Nat) : Nat := (dimsOf s).length
def freeI (s : Nat) : Int := match (List.range 24).find? (fun k => !s.testBit k) with
  | some k => (k : Int)
  | none => -1
def badK (from_ by_ : Int) (k : Nat) : Bool := decide (from_ ≤ (k : Int)) && decide (24 - (k : Int) ≤ by_)
def upK (from_ by_ : Int) (k : Nat) : Nat := if (k : Int) < from_ then k else k + by_.toNat
def liftBad (from_ by_ : Int) (l : List Nat) : Bool := l.any (badK from_ by_)
/-- Is it another number than i? -/
def notI (i : Int) (k : Nat) : Bool := decide (i ≠ (k : Int))
def downK (i k : Nat) : Nat := if k < i then k else k - 1
def argB (from_ by_ : Int) : Bool := decide (from_ < 0) || decide (by_ < 0)
def liftN (s : Nat) (from_ by_ : Int) : Nat := if argB from_ by_ then 0 else if liftBad from_ by_ (dimsOf s) then 0 else orAll ((dimsOf s).map (upK from_ by_))
def liftE (s : Nat) (from_ by_ : Int) : Int := if argB from_ by_ then 2 else if liftBad from_ by_ (dimsOf s) then 10 else 0
def dropN (s : Nat) (i : Int) : Nat := if isDimB i then orAll (((dimsOf s).filter (notI i)).map (downK i.toNat)) else s &&& 16777215

theorem isDimB_yes {i : Int} (h0 : 0 ≤ i) (h1 : i < 24) : isDimB i = true := by simp [isDimB, h0, h1]
theorem isDimB_nat {k : Nat} (h : k < 24) : isDimB (k : Int) = true := isDimB_yes (by omega) (by omega)
theorem isDimB_lo {i : Int} (h0 : i < 0) : isDimB i = false := by simp [isDimB]; omega
theorem isDimB_hi {i : Int} (h0 : 24 ≤ i) : isDimB i = false := by simp [isDimB]; omega
theorem hasB_nat {s k : Nat} (h : k < 24) : hasB s (k : Int) = s.testBit k := by simp [hasB, isDimB_nat h]
theorem hasB_no {s : Nat} {i : Int} (h : isDimB i = false) : hasB s i = false := by simp [hasB, h]
theorem withN_lt (s : Nat) (i : Int) : withN s i < 16777216 := by
  unfold withN
  split
  · rename_i h
    have h' : 0 ≤ i ∧ i < 24 := by simpa [isDimB] using h
    have h2 : (2 : Nat) ^ i.toNat < 2 ^ 24 := Nat.pow_lt_pow_right (by decide) (by omega)
    have h3 := low_lt s
    exact Nat.or_lt_two_pow (n := 24) h3 h2
  · exact low_lt s
theorem testBit_withoutN_nat (s i k : Nat) (hi : i < 24) : (withoutN s (i : Int)).testBit k = ((decide (k < 24) && s.testBit k) && !decide (i = k)) := by
  unfold withoutN
  rw [isDimB_nat hi]
  simp only [if_true, Int.toNat_natCast]
  rw [testBit_andNot32 _ _ _ (by have := low_lt s; omega), testBit_low, Nat.testBit_two_pow]
theorem testBit_withN_nat (s i k : Nat) (hi : i < 24) : (withN s (i : Int)).testBit k = ((decide (k < 24) && s.testBit k) || decide (i = k)) := by
  unfold withN
  rw [isDimB_nat hi]
  simp only [if_true, Int.toNat_natCast]
  rw [Nat.testBit_or, testBit_low, Nat.testBit_two_pow]
theorem withoutN_lt (s : Nat) (i : Int) : withoutN s i < 16777216 := by
  unfold withoutN
  split
  · rename_i h
    have h' : 0 ≤ i ∧ i < 24 := by simpa [isDimB] using h
    exact Nat.lt_pow_two_of_testBit (n := 24) _ (fun k hk => by
      rw [testBit_andNot32 _ _ _ (by have := low_lt s; omega), testBit_low]
      have : ¬ k < 24 := by omega
      simp [this])
  · exact low_lt s
theorem withN_no {s : Nat} {i : Int} (h : isDimB i = false) : withN s i = s &&& 16777215 := by simp [withN, h]
theorem withoutN_no {s : Nat} {i : Int} (h : isDimB i = false) : withoutN s i = s &&& 16777215 := by simp [withoutN, h]
/-- One dimension more, put into what was gathered. -/
theorem withN_orAll {l : List Nat} {k : Nat} (h : ∀ k ∈ l, k < 24) (hk : k < 24) : withN (orAll l) (k : Int) = orAll (l ++ [k]) := by
  unfold withN
  rw [isDimB_nat hk]
  simp only [if_true, Int.toNat_natCast]
  rw [orAll_snoc, low_of_lt (orAll_lt h)]
theorem dimsOf_withoutN (s : Nat) (i : Int) : dimsOf (withoutN s i) = (dimsOf s).filter (notI i) := by
  refine dimsOf_of (List.Pairwise.filter _ (dimsOf_sorted s)) (fun k hk => dimsOf_lt k (List.mem_filter.1 hk).1) (fun k hk => ?_)
  by_cases h : isDimB i = true
  · have h' : 0 ≤ i ∧ i < 24 := by simpa [isDimB] using h
    obtain ⟨j, rfl⟩ := Int.eq_ofNat_of_zero_le h'.1
    have hj : j < 24 := by omega
    have e := testBit_withoutN_nat s j k hj
    rw [e, Bool.eq_iff_iff]
    simp [mem_dimsOf, hk, notI]
    omega
  · have h : isDimB i = false := by simpa using h
    have hik : i ≠ (k : Int) := by rintro rfl; rw [isDimB_nat hk] at h; cases h
    rw [withoutN_no h, testBit_low, Bool.eq_iff_iff]
    simp [mem_dimsOf, hk, hik, notI]
theorem orAll_dims_withoutN (s : Nat) (i : Int) : orAll ((dimsOf s).filter (notI i)) = withoutN s i := by
  rw [← dimsOf_withoutN, ← low_eq, low_of_lt (withoutN_lt s i)]
end Go.Proofs.Ytkklmioejgpknaa
