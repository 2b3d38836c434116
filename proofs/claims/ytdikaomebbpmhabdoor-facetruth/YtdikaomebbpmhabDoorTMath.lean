/- Plain mathematics for the layer truth: the four values as pairs of truths, a formula's value, rows of values in their order. Nothing of the program is imported. -/
import Derived.Test.YtdikaomebbpmhabDoorMathAll
namespace Go.Proofs.YtdikaomebbpmhabDoor
set_option linter.unusedVariables false
set_option linter.unusedSimpArgs false

/-! ### the four values -/
def pA (a : Int) : Bool := decide (a % 4 = 1) || decide (a % 4 = 2)
def pB (a : Int) : Bool := decide (a % 4 = 1) || decide (a % 4 = 3)
def vOf (x y : Bool) : Int := if x then (if y then 1 else 2) else (if y then 3 else 0)
def mtV (a b : Int) : Int := vOf (pA a && pA b) (pB a && pB b)
def jnV (a b : Int) : Int := vOf (pA a || pA b) (pB a || pB b)
def ntV (a : Int) : Int := vOf (!pB a) (!pA a)
theorem pA_vOf (x y : Bool) : pA (vOf x y) = x := by cases x <;> cases y <;> decide
theorem pB_vOf (x y : Bool) : pB (vOf x y) = y := by cases x <;> cases y <;> decide
theorem vOf_bd (x y : Bool) : 0 ≤ vOf x y ∧ vOf x y ≤ 3 := by cases x <;> cases y <;> decide
theorem vOf_inj {x y x' y' : Bool} (h : vOf x y = vOf x' y') : x = x' ∧ y = y' := by
  have h1 := congrArg pA h
  have h2 := congrArg pB h
  rw [pA_vOf, pA_vOf] at h1
  rw [pB_vOf, pB_vOf] at h2
  exact ⟨h1, h2⟩
theorem mtV_bd (a b : Int) : 0 ≤ mtV a b ∧ mtV a b ≤ 3 := vOf_bd _ _
theorem jnV_bd (a b : Int) : 0 ≤ jnV a b ∧ jnV a b ≤ 3 := vOf_bd _ _
theorem ntV_bd (a : Int) : 0 ≤ ntV a ∧ ntV a ≤ 3 := vOf_bd _ _

/-! ### a clause's value, a formula's value -/
def stepA (c : C) (v : Nat → Int) (a : Int) (i : Nat) : Int := if c.1.val.testBit i then mtV a (v i) else a
def stepB (c : C) (v : Nat → Int) (a : Int) (i : Nat) : Int := if c.2.val.testBit i then mtV a (ntV (v i)) else a
def stepE (c : C) (v : Nat → Int) (a : Int) (i : Nat) : Int := stepB c v (stepA c v a i) i
def evC (c : C) (v : Nat → Int) (ds : List Nat) : Int := ds.foldl (stepE c v) 1
def stepF (v : Nat → Int) (ds : List Nat) (a : Int) (c : C) : Int := jnV a (evC c v ds)
def evF (f : List C) (v : Nat → Int) (ds : List Nat) : Int := f.foldl (stepF v ds) 0
theorem evC_snoc (c : C) (v : Nat → Int) (ds : List Nat) (i : Nat) : evC c v (ds ++ [i]) = stepE c v (evC c v ds) i := by simp [evC]
theorem evF_snoc (f : List C) (c : C) (v : Nat → Int) (ds : List Nat) : evF (f ++ [c]) v ds = stepF v ds (evF f v ds) c := by simp [evF]
def litA (c : C) (v : Nat → Int) (i : Nat) : Bool := (!c.1.val.testBit i || pA (v i)) && (!c.2.val.testBit i || !pB (v i))
def litB (c : C) (v : Nat → Int) (i : Nat) : Bool := (!c.1.val.testBit i || pB (v i)) && (!c.2.val.testBit i || !pA (v i))
theorem stepE_vOf (c : C) (v : Nat → Int) (x y : Bool) (i : Nat) : stepE c v (vOf x y) i = vOf (x && litA c v i) (y && litB c v i) := by
  unfold stepE stepB stepA litA litB
  cases c.1.val.testBit i <;> cases c.2.val.testBit i <;> simp [mtV, ntV, pA_vOf, pB_vOf, Bool.and_assoc]
theorem evC_eq (c : C) (v : Nat → Int) (ds : List Nat) : evC c v ds = vOf (ds.all (litA c v)) (ds.all (litB c v)) := by
  induction ds using snoc_ind with
  | nil => rfl
  | snoc ds i ih => rw [evC_snoc, ih, stepE_vOf]; simp
theorem evF_eq (f : List C) (v : Nat → Int) (ds : List Nat) : evF f v ds = vOf (f.any (fun c => ds.all (litA c v))) (f.any (fun c => ds.all (litB c v))) := by
  induction f using snoc_ind with
  | nil => rfl
  | snoc f c ih => rw [evF_snoc, ih, stepF, evC_eq]; simp [jnV, pA_vOf, pB_vOf]
theorem evC_bd (c : C) (v : Nat → Int) (ds : List Nat) : 0 ≤ evC c v ds ∧ evC c v ds ≤ 3 := by rw [evC_eq]; exact vOf_bd _ _
theorem evF_bd (f : List C) (v : Nat → Int) (ds : List Nat) : 0 ≤ evF f v ds ∧ evF f v ds ≤ 3 := by rw [evF_eq]; exact vOf_bd _ _

/-- Only the dimensions that stand in the list count. -/
theorem evF_at {f : List C} {v v' : Nat → Int} {ds : List Nat} (h : ∀ i ∈ ds, v i = v' i) : evF f v ds = evF f v' ds := by
  have hA : ∀ c : C, ds.all (litA c v) = ds.all (litA c v') := fun c => by
    rw [Bool.eq_iff_iff, List.all_eq_true, List.all_eq_true]
    exact ⟨fun hh i hi => by have := hh i hi; unfold litA at *; rwa [← h i hi], fun hh i hi => by have := hh i hi; unfold litA at *; rwa [h i hi]⟩
  have hB : ∀ c : C, ds.all (litB c v) = ds.all (litB c v') := fun c => by
    rw [Bool.eq_iff_iff, List.all_eq_true, List.all_eq_true]
    exact ⟨fun hh i hi => by have := hh i hi; unfold litB at *; rwa [← h i hi], fun hh i hi => by have := hh i hi; unfold litB at *; rwa [h i hi]⟩
  rw [evF_eq, evF_eq]
  simp only [hA, hB]

/-! ### values by what is below a formula -/
theorem mk_lt (p : Nat → Bool) : orAll ((List.range 24).filter p) < 4294967296 :=
  Nat.lt_trans (orAll_lt (fun k hk => by simpa using (List.mem_filter.1 hk).1)) (by decide)
/-- The clause whose dimensions are told by two truths. -/
def mkC (p q : Nat → Bool) : C := (⟨orAll ((List.range 24).filter p), mk_lt p⟩, ⟨orAll ((List.range 24).filter q), mk_lt q⟩)
theorem mk_bit1 (p q : Nat → Bool) (k : Nat) (hk : k < 24) : (mkC p q).1.val.testBit k = p k := by
  show (orAll ((List.range 24).filter p)).testBit k = _
  rw [testBit_orAll, Bool.eq_iff_iff]; simp [hk]
theorem mk_bit2 (p q : Nat → Bool) (k : Nat) (hk : k < 24) : (mkC p q).2.val.testBit k = q k := by
  show (orAll ((List.range 24).filter q)).testBit k = _
  rw [testBit_orAll, Bool.eq_iff_iff]; simp [hk]
def cA (v : Nat → Int) : C := mkC (fun i => pA (v i)) (fun i => !pB (v i))
def cB (v : Nat → Int) : C := mkC (fun i => pB (v i)) (fun i => !pA (v i))
theorem bel_mk {p q : Nat → Bool} {c : C} : belC (mkC p q) c = true ↔ ∀ i, i < 24 → (c.1.val.testBit i = true → p i = true) ∧ (c.2.val.testBit i = true → q i = true) := by
  rw [belC_iff]
  constructor
  · intro h i hi
    exact ⟨fun h1 => by rw [← mk_bit1 p q i hi]; exact h.1 i hi h1, fun h1 => by rw [← mk_bit2 p q i hi]; exact h.2 i hi h1⟩
  · intro h
    exact ⟨fun i hi h1 => by rw [mk_bit1 p q i hi]; exact (h i hi).1 h1, fun i hi h1 => by rw [mk_bit2 p q i hi]; exact (h i hi).2 h1⟩
theorem lit_true {x p y q : Bool} : ((!x || p) && (!y || q)) = true ↔ (x = true → p = true) ∧ (y = true → q = true) := by
  cases x <;> cases p <;> cases y <;> cases q <;> simp
/-- A list that has all dimensions of a clause. -/
def hasAll (ds : List Nat) (c : C) : Prop := ∀ i, i < 24 → (c.1.val.testBit i = true ∨ c.2.val.testBit i = true) → i ∈ ds
theorem all_litA {c : C} {v : Nat → Int} {ds : List Nat} (h24 : ∀ i ∈ ds, i < 24) (h : hasAll ds c) : ds.all (litA c v) = true ↔ belC (cA v) c = true := by
  rw [cA, bel_mk, List.all_eq_true]
  constructor
  · intro hh i hi
    by_cases hm : c.1.val.testBit i = true ∨ c.2.val.testBit i = true
    · exact lit_true.1 (hh i (h i hi hm))
    · exact ⟨fun h1 => absurd (.inl h1) hm, fun h1 => absurd (.inr h1) hm⟩
  · intro hh i hi
    exact lit_true.2 (hh i (h24 i hi))
theorem all_litB {c : C} {v : Nat → Int} {ds : List Nat} (h24 : ∀ i ∈ ds, i < 24) (h : hasAll ds c) : ds.all (litB c v) = true ↔ belC (cB v) c = true := by
  rw [cB, bel_mk, List.all_eq_true]
  constructor
  · intro hh i hi
    by_cases hm : c.1.val.testBit i = true ∨ c.2.val.testBit i = true
    · exact lit_true.1 (hh i (h i hi hm))
    · exact ⟨fun h1 => absurd (.inl h1) hm, fun h1 => absurd (.inr h1) hm⟩
  · intro hh i hi
    exact lit_true.2 (hh i (h24 i hi))
theorem any_bel {f : List C} {p : C → Bool} {c : C} (h : ∀ d ∈ f, (p d = true ↔ belC c d = true)) : f.any p = true ↔ dn f c := by
  rw [List.any_eq_true]
  exact ⟨fun ⟨d, hd, hp⟩ => ⟨d, hd, (h d hd).1 hp⟩, fun ⟨d, hd, hb⟩ => ⟨d, hd, (h d hd).2 hb⟩⟩
theorem pA_evF {f : List C} {v : Nat → Int} {ds : List Nat} (h24 : ∀ i ∈ ds, i < 24) (h : ∀ c ∈ f, hasAll ds c) : pA (evF f v ds) = true ↔ dn f (cA v) := by
  rw [evF_eq, pA_vOf]; exact any_bel (fun d hd => all_litA h24 (h d hd))
theorem pB_evF {f : List C} {v : Nat → Int} {ds : List Nat} (h24 : ∀ i ∈ ds, i < 24) (h : ∀ c ∈ f, hasAll ds c) : pB (evF f v ds) = true ↔ dn f (cB v) := by
  rw [evF_eq, pB_vOf]; exact any_bel (fun d hd => all_litB h24 (h d hd))
/-- A formula's value: over all dimensions. -/
def valF (f : List C) (v : Nat → Int) : Int := evF f v (List.range 24)
theorem all24 (c : C) : hasAll (List.range 24) c := fun i hi _ => by simpa using hi
theorem lt24 : ∀ i ∈ List.range 24, i < 24 := fun i hi => by simpa using hi
theorem pA_val (f : List C) (v : Nat → Int) : pA (valF f v) = true ↔ dn f (cA v) := pA_evF lt24 (fun c _ => all24 c)
theorem pB_val (f : List C) (v : Nat → Int) : pB (valF f v) = true ↔ dn f (cB v) := pB_evF lt24 (fun c _ => all24 c)
theorem val_ext {a b : Int} {x y x' y' : Bool} (ha : a = vOf x y) (hb : b = vOf x' y') (hA : pA a = pA b) (hB : pB a = pB b) : a = b := by
  subst ha hb
  rw [pA_vOf, pA_vOf] at hA
  rw [pB_vOf, pB_vOf] at hB
  rw [hA, hB]
theorem evF_val {f : List C} {v : Nat → Int} {ds : List Nat} (h24 : ∀ i ∈ ds, i < 24) (h : ∀ c ∈ f, hasAll ds c) : evF f v ds = valF f v :=
  val_ext (evF_eq _ _ _) (evF_eq _ _ _) (by rw [Bool.eq_iff_iff, pA_evF h24 h]; exact (pA_val f v).symm) (by rw [Bool.eq_iff_iff, pB_evF h24 h]; exact (pB_val f v).symm)
theorem hasAll_dims {f : List C} {s : Nat} (hs : ∀ i, i < 24 → inF f i = true → s.testBit i = true) : ∀ c ∈ f, hasAll (dimsOf s) c := fun c hc i hi hm =>
  mem_dimsOf.2 ⟨hi, hs i hi (by unfold inF; rw [List.any_eq_true]; exact ⟨c, hc, by rcases hm with h | h <;> simp [h]⟩)⟩
theorem hasAll_own (f : List C) : ∀ c ∈ f, hasAll (dimsOf (dimsN f)) c := hasAll_dims (fun i hi h => by rw [dimsN_bit]; simp [hi, h])
theorem hasAll_l (f g : List C) : ∀ c ∈ f, hasAll (dimsOf (dimsN f ||| dimsN g)) c := hasAll_dims (fun i hi h => by rw [Nat.testBit_or, dimsN_bit]; simp [hi, h])
theorem hasAll_r (f g : List C) : ∀ c ∈ g, hasAll (dimsOf (dimsN f ||| dimsN g)) c := hasAll_dims (fun i hi h => by rw [Nat.testBit_or, dimsN_bit, dimsN_bit]; simp [hi, h])
theorem evF_own (f : List C) (v : Nat → Int) : evF f v (dimsOf (dimsN f)) = valF f v := evF_val dimsOf_lt (hasAll_own f)
theorem evF_l (f g : List C) (v : Nat → Int) : evF f v (dimsOf (dimsN f ||| dimsN g)) = valF f v := evF_val dimsOf_lt (hasAll_l f g)
theorem evF_r (f g : List C) (v : Nat → Int) : evF g v (dimsOf (dimsN f ||| dimsN g)) = valF g v := evF_val dimsOf_lt (hasAll_r f g)

/-! ### what two formulas make -/
theorem val_vOf (f : List C) (v : Nat → Int) : valF f v = vOf (f.any (fun c => (List.range 24).all (litA c v))) (f.any (fun c => (List.range 24).all (litB c v))) := evF_eq _ _ _
theorem pA_jn (a b : Int) : pA (jnV a b) = (pA a || pA b) := pA_vOf _ _
theorem pB_jn (a b : Int) : pB (jnV a b) = (pB a || pB b) := pB_vOf _ _
theorem pA_mt (a b : Int) : pA (mtV a b) = (pA a && pA b) := pA_vOf _ _
theorem pB_mt (a b : Int) : pB (mtV a b) = (pB a && pB b) := pB_vOf _ _
theorem pA_nt (a : Int) : pA (ntV a) = !pB a := pA_vOf _ _
theorem pB_nt (a : Int) : pB (ntV a) = !pA a := pB_vOf _ _
theorem val_join {f g : List C} (h : (joinF f g).2 = 0) (v : Nat → Int) : valF (joinF f g).1 v = jnV (valF f v) (valF g v) := by
  refine val_ext (val_vOf _ _) rfl ?_ ?_
  · rw [pA_jn, Bool.eq_iff_iff, pA_val, joinF_dn h, Bool.or_eq_true, pA_val, pA_val]
  · rw [pB_jn, Bool.eq_iff_iff, pB_val, joinF_dn h, Bool.or_eq_true, pB_val, pB_val]
theorem val_meet {f g : List C} (h : (meetF f g).2 = 0) (v : Nat → Int) : valF (meetF f g).1 v = mtV (valF f v) (valF g v) := by
  refine val_ext (val_vOf _ _) rfl ?_ ?_
  · rw [pA_mt, Bool.eq_iff_iff, pA_val, meetF_dn h, Bool.and_eq_true, pA_val, pA_val]
  · rw [pB_mt, Bool.eq_iff_iff, pB_val, meetF_dn h, Bool.and_eq_true, pB_val, pB_val]
theorem hit_cA {v : Nat → Int} {d : C} : hit (cA v) d ↔ belC (cB v) d = false := by
  rw [← hit_coC]
  unfold hit
  have e : ∀ k, k < 24 → (cA v).1.val.testBit k = (coC (cB v)).1.val.testBit k ∧ (cA v).2.val.testBit k = (coC (cB v)).2.val.testBit k := fun k hk => by
    rw [(coC_bits _ k hk).1, (coC_bits _ k hk).2]
    unfold cA cB
    rw [mk_bit1 _ _ k hk, mk_bit2 _ _ k hk, mk_bit1 _ _ k hk, mk_bit2 _ _ k hk]
    simp
  constructor
  · rintro ⟨k, hk, h⟩
    exact ⟨k, hk, by rw [← (e k hk).1, ← (e k hk).2]; exact h⟩
  · rintro ⟨k, hk, h⟩
    exact ⟨k, hk, by rw [(e k hk).1, (e k hk).2]; exact h⟩
theorem hit_cB {v : Nat → Int} {d : C} : hit (cB v) d ↔ belC (cA v) d = false := by
  rw [← hit_coC]
  unfold hit
  have e : ∀ k, k < 24 → (cB v).1.val.testBit k = (coC (cA v)).1.val.testBit k ∧ (cB v).2.val.testBit k = (coC (cA v)).2.val.testBit k := fun k hk => by
    rw [(coC_bits _ k hk).1, (coC_bits _ k hk).2]
    unfold cA cB
    rw [mk_bit1 _ _ k hk, mk_bit2 _ _ k hk, mk_bit1 _ _ k hk, mk_bit2 _ _ k hk]
    simp
  constructor
  · rintro ⟨k, hk, h⟩
    exact ⟨k, hk, by rw [← (e k hk).1, ← (e k hk).2]; exact h⟩
  · rintro ⟨k, hk, h⟩
    exact ⟨k, hk, by rw [(e k hk).1, (e k hk).2]; exact h⟩
theorem none_dn {f : List C} {c : C} : (∀ d ∈ f, belC c d = false) ↔ ¬ dn f c := by
  constructor
  · rintro h ⟨d, hd, hb⟩; rw [h d hd] at hb; exact absurd hb (by simp)
  · intro h d hd
    cases hb : belC c d
    · rfl
    · exact absurd ⟨d, hd, hb⟩ h
theorem notR_cA {f : List C} (h : (notR f).2 = 0) (v : Nat → Int) : dn (notR f).1 (cA v) ↔ ¬ dn f (cB v) := by
  rw [notR_dn h, ← none_dn]
  exact ⟨fun hh d hd => hit_cA.1 (hh d hd), fun hh d hd => hit_cA.2 (hh d hd)⟩
theorem notR_cB {f : List C} (h : (notR f).2 = 0) (v : Nat → Int) : dn (notR f).1 (cB v) ↔ ¬ dn f (cA v) := by
  rw [notR_dn h, ← none_dn]
  exact ⟨fun hh d hd => hit_cB.1 (hh d hd), fun hh d hd => hit_cB.2 (hh d hd)⟩
theorem val_not {f : List C} (h : (notF f).2 = 0) (v : Nat → Int) : valF (notF f).1 v = ntV (valF f v) := by
  have e := (notF_told h).2
  rw [e] at h ⊢
  refine val_ext (val_vOf _ _) rfl ?_ ?_
  · rw [pA_nt, Bool.eq_iff_iff, pA_val, notR_cA h, Bool.not_eq_true', ← Bool.not_eq_true, pB_val]
  · rw [pB_nt, Bool.eq_iff_iff, pB_val, notR_cB h, Bool.not_eq_true', ← Bool.not_eq_true, pA_val]

/-! ### Put -/
theorem meetR_dn {f g : List C} (h : (meetR f g).2 = 0) (c : C) : dn (meetR f g).1 c ↔ dn f c ∧ dn g c := by
  unfold meetR at *
  rw [leastF_dn h, dn_pairs]
theorem joinR_dn {f g : List C} (h : (joinR f g).2 = 0) (c : C) : dn (joinR f g).1 c ↔ dn f c ∨ dn g c := by
  unfold joinR at *
  rw [leastF_dn h, dn_append]
theorem dn_one {c d : C} : dn [d] c ↔ belC c d = true := by
  constructor
  · rintro ⟨x, hx, hb⟩
    obtain rfl : x = d := by simpa using hx
    exact hb
  · intro h; exact ⟨d, by simp, h⟩
theorem partF_dn {c d : C} {i : Int} {r : List C} {s : List C × Int} (h : (partF d i r s).2 = 0) :
    dn (partF d i r s).1 c ↔ belC c (outC d i) = true ∧ (hasB d.1.val i = true → dn r c) ∧ (hasB d.2.val i = true → s.2 = 0 ∧ dn s.1 c) := by
  have hA : ∀ (h : (partA d i r).2 = 0), dn (partA d i r).1 c ↔ belC c (outC d i) = true ∧ (hasB d.1.val i = true → dn r c) := by
    intro h
    unfold partA at *
    cases hp : hasB d.1.val i
    · rw [hp] at h; simp [dn_one]
    · rw [hp] at h
      simp only [if_true] at h ⊢
      rw [meetR_dn h, dn_one]; simp
  by_cases h0 : (partA d i r).2 = 0
  · unfold partF at *
    rw [if_pos h0] at h ⊢
    cases hn : hasB d.2.val i
    · rw [hn] at h
      simp only [Bool.false_eq_true, if_false] at h ⊢
      rw [hA h0]; simp
    · rw [hn] at h
      simp only [if_true] at h ⊢
      by_cases hs : s.2 = 0
      · rw [if_pos hs] at h ⊢
        rw [meetR_dn h, hA h0]; simp [hs, and_assoc]
      · rw [if_neg hs] at h; exact absurd h hs
  · unfold partF at h
    rw [if_neg h0] at h; exact absurd h h0
theorem putS_dn {i : Int} {r : List C} {s : List C × Int} {c : C} : ∀ {f : List C}, (putS f i r s).2 = 0 → (dn (putS f i r s).1 c ↔ ∃ d ∈ f, (partF d i r s).2 = 0 ∧ dn (partF d i r s).1 c) := by
  intro f
  induction f using snoc_ind with
  | nil => intro _; simp [putS, dn]
  | snoc f d ih =>
    intro h
    rw [putS_snoc] at h ⊢
    by_cases h1 : (putS f i r s).2 = 0
    · unfold stepP at h ⊢
      rw [if_pos h1] at h ⊢
      by_cases h2 : (partF d i r s).2 = 0
      · rw [if_pos h2] at h ⊢
        rw [joinR_dn h, ih h1]
        constructor
        · rintro (⟨x, hx, hh⟩ | hh)
          · exact ⟨x, by simp [hx], hh⟩
          · exact ⟨d, by simp, h2, hh⟩
        · rintro ⟨x, hx, hh⟩
          rcases List.mem_append.1 hx with hx | hx
          · exact .inl ⟨x, hx, hh⟩
          · obtain rfl : x = d := by simpa using hx
            exact .inr hh.2
      · rw [if_neg h2] at h; exact absurd h h2
    · unfold stepP at h
      rw [if_neg h1] at h; exact absurd h h1
theorem putS_parts {i : Int} {r : List C} {s : List C × Int} : ∀ {f : List C}, (putS f i r s).2 = 0 → ∀ d ∈ f, (partF d i r s).2 = 0 := by
  intro f
  induction f using snoc_ind with
  | nil => intro _ d hd; simp at hd
  | snoc f x ih =>
    intro h d hd
    rw [putS_snoc] at h
    by_cases h1 : (putS f i r s).2 = 0
    · unfold stepP at h
      rw [if_pos h1] at h
      by_cases h2 : (partF x i r s).2 = 0
      · rcases List.mem_append.1 hd with hd | hd
        · exact ih h1 d hd
        · obtain rfl : d = x := by simpa using hd
          exact h2
      · rw [if_neg h2] at h; exact absurd h h2
    · unfold stepP at h
      rw [if_neg h1] at h; exact absurd h h1
theorem partF_neg {d : C} {i : Int} {r : List C} {s : List C × Int} (h : (partF d i r s).2 = 0) (hn : hasB d.2.val i = true) : s.2 = 0 := by
  unfold partF at h
  by_cases h0 : (partA d i r).2 = 0
  · rw [if_pos h0, hn] at h
    simp only [if_true] at h
    by_cases hs : s.2 = 0
    · exact hs
    · rw [if_neg hs] at h; exact absurd h hs
  · rw [if_neg h0] at h; exact absurd h h0
/-- The values, with another one in a dimension's place. -/
def putV (v : Nat → Int) (i : Nat) (a : Int) : Nat → Int := fun k => if k = i then a else v k
theorem bel_put {p q p' q' : Nat → Bool} {d : C} {i : Nat} (hi : i < 24) (hp : ∀ k, k ≠ i → p' k = p k) (hq : ∀ k, k ≠ i → q' k = q k) :
    belC (mkC p' q') d = true ↔ belC (mkC p q) (outC d (i : Int)) = true ∧ (hasB d.1.val (i : Int) = true → p' i = true) ∧ (hasB d.2.val (i : Int) = true → q' i = true) := by
  rw [bel_mk, bel_mk, hasB_nat hi, hasB_nat hi]
  constructor
  · intro h
    refine ⟨fun k hk => ?_, (h i hi).1, (h i hi).2⟩
    rw [(out_bits d i k hi).1, (out_bits d i k hi).2]
    by_cases e : i = k
    · subst e; simp
    · have hne : k ≠ i := fun x => e x.symm
      have := h k hk
      rw [hp k hne, hq k hne] at this
      simpa [e, hk] using this
  · rintro ⟨h, h1, h2⟩ k hk
    by_cases e : i = k
    · subst e; exact ⟨h1, h2⟩
    · have hne : k ≠ i := fun x => e x.symm
      have := h k hk
      rw [(out_bits d i k hi).1, (out_bits d i k hi).2] at this
      rw [hp k hne, hq k hne]
      simpa [e, hk] using this
theorem val_put {f r : List C} {i : Nat} (hi : i < 24) (h : (putF f (i : Int) r).2 = 0) (v : Nat → Int) : valF (putF f (i : Int) r).1 v = valF f (putV v i (valF r v)) := by
  have hok : putF f (i : Int) r = putS f (i : Int) r (notR r) := by
    unfold putF at h ⊢
    split
    · rfl
    · rename_i hc; rw [if_neg hc] at h; exact absurd h (by decide)
  rw [hok] at h ⊢
  have hparts := putS_parts h
  refine val_ext (val_vOf _ _) (val_vOf _ _) ?_ ?_
  · rw [Bool.eq_iff_iff, pA_val, pA_val, putS_dn h]
    constructor
    · rintro ⟨d, hd, h0, hh⟩
      rw [partF_dn h0] at hh
      refine ⟨d, hd, ?_⟩
      unfold cA at hh ⊢
      refine (bel_put hi (p := fun i => pA (v i)) (q := fun i => !pB (v i)) (fun k hk => by simp [putV, hk]) (fun k hk => by simp [putV, hk])).2 ⟨hh.1, fun x => ?_, fun x => ?_⟩
      · have := (pA_val r v).2 (hh.2.1 x)
        simpa [putV] using this
      · have := (notR_cA (hh.2.2 x).1 v).1 (hh.2.2 x).2
        rw [← pB_val] at this
        simpa [putV] using this
    · rintro ⟨d, hd, hb⟩
      refine ⟨d, hd, hparts d hd, ?_⟩
      rw [partF_dn (hparts d hd)]
      unfold cA at hb ⊢
      obtain ⟨h1, h2, h3⟩ := (bel_put hi (p := fun i => pA (v i)) (q := fun i => !pB (v i)) (fun k hk => by simp [putV, hk]) (fun k hk => by simp [putV, hk])).1 hb
      refine ⟨h1, fun x => (pA_val r v).1 (by simpa [putV] using h2 x), fun x => ?_⟩
      have hs := partF_neg (hparts d hd) x
      exact ⟨hs, (notR_cA hs v).2 (by rw [← pB_val]; simpa [putV] using h3 x)⟩
  · rw [Bool.eq_iff_iff, pB_val, pB_val, putS_dn h]
    constructor
    · rintro ⟨d, hd, h0, hh⟩
      rw [partF_dn h0] at hh
      refine ⟨d, hd, ?_⟩
      unfold cB at hh ⊢
      refine (bel_put hi (p := fun i => pB (v i)) (q := fun i => !pA (v i)) (fun k hk => by simp [putV, hk]) (fun k hk => by simp [putV, hk])).2 ⟨hh.1, fun x => ?_, fun x => ?_⟩
      · have := (pB_val r v).2 (hh.2.1 x)
        simpa [putV] using this
      · have := (notR_cB (hh.2.2 x).1 v).1 (hh.2.2 x).2
        rw [← pA_val] at this
        simpa [putV] using this
    · rintro ⟨d, hd, hb⟩
      refine ⟨d, hd, hparts d hd, ?_⟩
      rw [partF_dn (hparts d hd)]
      unfold cB at hb ⊢
      obtain ⟨h1, h2, h3⟩ := (bel_put hi (p := fun i => pB (v i)) (q := fun i => !pA (v i)) (fun k hk => by simp [putV, hk]) (fun k hk => by simp [putV, hk])).1 hb
      refine ⟨h1, fun x => (pB_val r v).1 (by simpa [putV] using h2 x), fun x => ?_⟩
      have hs := partF_neg (hparts d hd) x
      exact ⟨hs, (notR_cB hs v).2 (by rw [← pA_val]; simpa [putV] using h3 x)⟩
end Go.Proofs.YtdikaomebbpmhabDoor
