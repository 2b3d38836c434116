/- Plain mathematics for the layer formula: the laws of joining and meeting, and the opposite. Nothing of the program is imported. -/
import Derived.Test.YtkklmioejgpknaaFMathA
namespace Go.Proofs.Ytkklmioejgpknaa
set_option linter.unusedVariables false
set_option linter.unusedSimpArgs false

theorem joinF_comm (f g : List C) : joinF f g = joinF g f := by
  unfold joinF
  rw [Bool.and_comm]
  split
  · unfold joinR; exact leastF_congr (fun c => by simp only [List.mem_append]; exact Or.comm)
  · rfl
theorem meetF_comm (f g : List C) : meetF f g = meetF g f := by
  unfold meetF
  rw [Bool.and_comm]
  split
  · unfold meetR
    exact leastF_ext (pairs_right f g) (pairs_right g f) (fun c _ => by rw [dn_pairs, dn_pairs]; exact And.comm)
  · rfl
theorem absorb_meet {f g : List C} (h1 : (joinF f g).2 = 0) (h2 : (meetF f (joinF f g).1).2 = 0) : (meetF f (joinF f g).1).1 = f := by
  refine rightF_ext (meetF_right _ _) (joinF_told h1).1 (fun c _ => ?_)
  rw [meetF_dn h2, joinF_dn h1]
  exact ⟨fun h => h.1, fun h => ⟨h, .inl h⟩⟩
theorem absorb_join {f g : List C} (h1 : (meetF f g).2 = 0) (h2 : (joinF f (meetF f g).1).2 = 0) : (joinF f (meetF f g).1).1 = f := by
  refine rightF_ext (joinF_right _ _) (meetF_told h1).1 (fun c _ => ?_)
  rw [joinF_dn h2, meetF_dn h1]
  exact ⟨fun h => h.elim id (fun h => h.1), .inl⟩
theorem distrib {f g h : List C} (h1 : (joinF g h).2 = 0) (h2 : (meetF f (joinF g h).1).2 = 0) (h3 : (meetF f g).2 = 0) (h4 : (meetF f h).2 = 0) (h5 : (joinF (meetF f g).1 (meetF f h).1).2 = 0) : (meetF f (joinF g h).1).1 = (joinF (meetF f g).1 (meetF f h).1).1 := by
  refine rightF_ext (meetF_right _ _) (joinF_right _ _) (fun c _ => ?_)
  rw [meetF_dn h2, joinF_dn h1, joinF_dn h5, meetF_dn h3, meetF_dn h4]
  exact ⟨fun ⟨a, b⟩ => b.elim (fun b => .inl ⟨a, b⟩) (fun b => .inr ⟨a, b⟩), fun h => h.elim (fun h => ⟨h.1, .inl h.2⟩) (fun h => ⟨h.1, .inr h.2⟩)⟩
theorem assoc {f g h : List C} (h1 : (joinF g h).2 = 0) (h2 : (joinF f (joinF g h).1).2 = 0) (h3 : (joinF f g).2 = 0) (h4 : (joinF (joinF f g).1 h).2 = 0) : (joinF f (joinF g h).1).1 = (joinF (joinF f g).1 h).1 := by
  refine rightF_ext (joinF_right _ _) (joinF_right _ _) (fun c _ => ?_)
  rw [joinF_dn h2, joinF_dn h1, joinF_dn h4, joinF_dn h3, or_assoc]

/-! ### the opposite -/
def bitF (k : Nat) : Fin 4294967296 := if h : k < 24 then ⟨2 ^ k, pow_lt k h⟩ else 0
theorem bitF_val {k : Nat} (h : k < 24) : (bitF k).val = 2 ^ k := by simp [bitF, h]
theorem bitF_lt (k : Nat) : (bitF k).val < 16777216 := by
  unfold bitF
  split
  · rename_i h
    exact Nat.lt_of_le_of_lt (Nat.pow_le_pow_right (by decide) (by omega : k ≤ 23)) (by decide)
  · decide
def negB (k : Nat) : C := (0, bitF k)
def posB (k : Nat) : C := (bitF k, 0)
theorem negB_right (k : Nat) : rightC (negB k) = true := rightC_iff.2 ⟨(show (0:Nat) < 16777216 by decide), bitF_lt k⟩
theorem posB_right (k : Nat) : rightC (posB k) = true := rightC_iff.2 ⟨bitF_lt k, (show (0:Nat) < 16777216 by decide)⟩
/-- The opposites of a clause's literals. -/
def oppC (c : C) : List C := (dimsOf c.1.val).map negB ++ (dimsOf c.2.val).map posB
theorem opp_right (c : C) : (oppC c).all rightC = true := by
  rw [List.all_eq_true]
  intro x hx
  rcases List.mem_append.1 hx with hx | hx
  · obtain ⟨k, _, rfl⟩ := List.mem_map.1 hx; exact negB_right k
  · obtain ⟨k, _, rfl⟩ := List.mem_map.1 hx; exact posB_right k
theorem opp_length (c : C) : (oppC c).length ≤ 48 := by
  have h1 := dimsOf_length_le c.1.val
  have h2 := dimsOf_length_le c.2.val
  simp [oppC]; omega
def turnF (c : C) : List C := (leastF (oppC c)).1
theorem turn_told (c : C) : leastF (oppC c) = (turnF c, 0) := by
  have h := leastF_small (opp_right c) (by have := opp_length c; omega)
  unfold turnF; rw [h]
theorem turn_right (c : C) : rightF (turnF c) = true := leastF_right _
theorem turn_len (c : C) : (turnF c).length ≤ 64 := rightF_len (turn_right c)
/-- The clause c has a literal whose opposite d has. -/
def hit (c d : C) : Prop := ∃ k, k < 24 ∧ ((d.1.val.testBit k = true ∧ c.2.val.testBit k = true) ∨ (d.2.val.testBit k = true ∧ c.1.val.testBit k = true))
theorem bit_testBit {k j : Nat} (hk : k < 24) : (bitF k).val.testBit j = decide (k = j) := by rw [bitF_val hk, Nat.testBit_two_pow]
theorem bel_negB {c : C} {k : Nat} (hk : k < 24) : belC c (negB k) = true ↔ c.2.val.testBit k = true := by
  rw [belC_iff]
  constructor
  · intro h; exact h.2 k hk (by show (bitF k).val.testBit k = true; rw [bit_testBit hk]; simp)
  · intro h
    refine ⟨fun j _ hj => ?_, fun j _ hj => ?_⟩
    · have : (0 : Nat).testBit j = true := hj
      simp at this
    · have hj : (bitF k).val.testBit j = true := hj
      rw [bit_testBit hk] at hj
      have : k = j := by simpa using hj
      rw [← this]; exact h
theorem bel_posB {c : C} {k : Nat} (hk : k < 24) : belC c (posB k) = true ↔ c.1.val.testBit k = true := by
  rw [belC_iff]
  constructor
  · intro h; exact h.1 k hk (by show (bitF k).val.testBit k = true; rw [bit_testBit hk]; simp)
  · intro h
    refine ⟨fun j _ hj => ?_, fun j _ hj => ?_⟩
    · have hj : (bitF k).val.testBit j = true := hj
      rw [bit_testBit hk] at hj
      have : k = j := by simpa using hj
      rw [← this]; exact h
    · have : (0 : Nat).testBit j = true := hj
      simp at this
theorem dn_opp {c d : C} : dn (oppC d) c ↔ hit c d := by
  constructor
  · rintro ⟨x, hx, hb⟩
    rcases List.mem_append.1 hx with hx | hx
    · obtain ⟨k, hk, rfl⟩ := List.mem_map.1 hx
      obtain ⟨hk1, hk2⟩ := mem_dimsOf.1 hk
      exact ⟨k, hk1, .inl ⟨hk2, (bel_negB hk1).1 hb⟩⟩
    · obtain ⟨k, hk, rfl⟩ := List.mem_map.1 hx
      obtain ⟨hk1, hk2⟩ := mem_dimsOf.1 hk
      exact ⟨k, hk1, .inr ⟨hk2, (bel_posB hk1).1 hb⟩⟩
  · rintro ⟨k, hk, ⟨h1, h2⟩ | ⟨h1, h2⟩⟩
    · exact ⟨negB k, List.mem_append_left _ (List.mem_map.2 ⟨k, mem_dimsOf.2 ⟨hk, h1⟩, rfl⟩), (bel_negB hk).2 h2⟩
    · exact ⟨posB k, List.mem_append_right _ (List.mem_map.2 ⟨k, mem_dimsOf.2 ⟨hk, h1⟩, rfl⟩), (bel_posB hk).2 h2⟩
theorem dn_turn {c d : C} : dn (turnF d) c ↔ hit c d := by
  rw [← dn_opp]
  exact leastF_dn (by rw [turn_told]) c
theorem dn_top (c : C) : dn [top0] c := ⟨top0, by simp, belC_iff.2 ⟨fun k _ h => by simp [top0] at h, fun k _ h => by simp [top0] at h⟩⟩
def stepN (a : List C × Int) (c : C) : List C × Int := if a.2 = 0 then meetR a.1 (turnF c) else a
def notR (f : List C) : List C × Int := f.foldl stepN ([top0], 0)
def notF (f : List C) : List C × Int := if rightF f then notR f else ([], 2)
theorem notR_snoc (f : List C) (c : C) : notR (f ++ [c]) = stepN (notR f) c := by simp [notR]
theorem notR_cases (f : List C) : ((notR f).2 = 0 ∧ rightF (notR f).1 = true) ∨ notR f = ([], 3) := by
  induction f using snoc_ind with
  | nil => exact .inl ⟨rfl, rightF_one top_right⟩
  | snoc f c ih =>
    rw [notR_snoc]
    unfold stepN
    rcases ih with ⟨h, _⟩ | h
    · rw [if_pos h]
      rcases leastF_cases (pairs_right (notR f).1 (turnF c)) with ⟨h1, _⟩ | h1
      · exact .inl ⟨h1, leastF_right _⟩
      · exact .inr h1
    · rw [if_neg (by rw [h]; simp)]
      exact .inr h
theorem notR_right (f : List C) : rightF (notR f).1 = true := by
  rcases notR_cases f with h | h
  · exact h.2
  · rw [h]; exact rightF_nil
theorem notR_len (f : List C) : (notR f).1.length ≤ 64 := rightF_len (notR_right f)
theorem notF_right (f : List C) : rightF (notF f).1 = true := by
  unfold notF
  split
  · exact notR_right f
  · exact rightF_nil
theorem notF_len (f : List C) : (notF f).1.length ≤ 64 := rightF_len (notF_right f)
theorem notF_told {f : List C} (h : (notF f).2 = 0) : rightF f = true ∧ notF f = notR f := by
  unfold notF at h ⊢
  split at h
  · rename_i h2; exact ⟨h2, by rw [if_pos h2]⟩
  · simp at h
theorem notR_dn : ∀ {f : List C}, (notR f).2 = 0 → ∀ c, dn (notR f).1 c ↔ ∀ d ∈ f, hit c d := by
  intro f
  induction f using snoc_ind with
  | nil => intro _ c; exact ⟨fun _ d hd => by simp at hd, fun _ => dn_top c⟩
  | snoc f x ih =>
    intro h c
    rw [notR_snoc] at h ⊢
    unfold stepN at h ⊢
    rcases notR_cases f with ⟨h1, _⟩ | h1
    · rw [if_pos h1] at h ⊢
      unfold meetR at h ⊢
      rw [leastF_dn h, dn_pairs, ih h1 c, dn_turn]
      constructor
      · rintro ⟨a, b⟩ d hd
        rcases List.mem_append.1 hd with hd | hd
        · exact a d hd
        · rw [List.mem_singleton.1 hd]; exact b
      · intro a
        exact ⟨fun d hd => a d (by simp [hd]), a x (by simp)⟩
    · rw [if_neg (by rw [h1]; simp), h1] at h
      simp at h
theorem notF_dn {f : List C} (h : (notF f).2 = 0) (c : C) : dn (notF f).1 c ↔ ∀ d ∈ f, hit c d := by
  obtain ⟨_, e⟩ := notF_told h
  rw [e] at h ⊢
  exact notR_dn h c
theorem hit_mono {c d e : C} (h : hit c e) (hb : belC d e = true) : hit c d := by
  obtain ⟨k, hk, h⟩ := h
  rw [belC_iff] at hb
  exact ⟨k, hk, h.imp (fun h => ⟨hb.1 k hk h.1, h.2⟩) (fun h => ⟨hb.2 k hk h.1, h.2⟩)⟩
theorem hit_mono' {c c' d : C} (h : hit c' d) (hb : belC c c' = true) : hit c d := by
  obtain ⟨k, hk, h⟩ := h
  rw [belC_iff] at hb
  exact ⟨k, hk, h.imp (fun h => ⟨h.1, hb.2 k hk h.2⟩) (fun h => ⟨h.1, hb.1 k hk h.2⟩)⟩
theorem hit_comm {c d : C} : hit c d ↔ hit d c := by
  constructor
  · rintro ⟨k, hk, h⟩
    exact ⟨k, hk, h.elim (fun h => .inr ⟨h.2, h.1⟩) (fun h => .inl ⟨h.2, h.1⟩)⟩
  · rintro ⟨k, hk, h⟩
    exact ⟨k, hk, h.elim (fun h => .inr ⟨h.2, h.1⟩) (fun h => .inl ⟨h.2, h.1⟩)⟩
/-- All that c has not, turned. -/
def coC (c : C) : C := (⟨andNot32 16777215 c.2.val, andNot32_lt _ _⟩, ⟨andNot32 16777215 c.1.val, andNot32_lt _ _⟩)
theorem full_bit (k : Nat) : (16777215 : Nat).testBit k = decide (k < 24) := by
  have e : (16777215 : Nat) = 2 ^ 24 - 1 := by decide
  rw [e, Nat.testBit_two_pow_sub_one]
theorem coC_bits (c : C) (k : Nat) (hk : k < 24) : (coC c).1.val.testBit k = !c.2.val.testBit k ∧ (coC c).2.val.testBit k = !c.1.val.testBit k := by
  constructor
  · show (andNot32 16777215 c.2.val).testBit k = _
    rw [testBit_andNot32 _ _ _ (by decide), full_bit]; simp [hk]
  · show (andNot32 16777215 c.1.val).testBit k = _
    rw [testBit_andNot32 _ _ _ (by decide), full_bit]; simp [hk]
theorem hit_coC {c d : C} : hit (coC c) d ↔ belC c d = false := by
  constructor
  · rintro ⟨k, hk, h⟩
    obtain ⟨e1, e2⟩ := coC_bits c k hk
    cases hb : belC c d
    · rfl
    · rw [belC_iff] at hb
      rcases h with ⟨h1, h2⟩ | ⟨h1, h2⟩
      · rw [e2, hb.1 k hk h1] at h2; simp at h2
      · rw [e1, hb.2 k hk h1] at h2; simp at h2
  · intro h
    apply Classical.byContradiction
    intro hn
    have hb : belC c d = true := by
      rw [belC_iff]
      refine ⟨fun k hk h1 => ?_, fun k hk h1 => ?_⟩
      · cases h2 : c.1.val.testBit k
        · exact absurd ⟨k, hk, .inl ⟨h1, by rw [(coC_bits c k hk).2, h2]; rfl⟩⟩ hn
        · rfl
      · cases h2 : c.2.val.testBit k
        · exact absurd ⟨k, hk, .inr ⟨h1, by rw [(coC_bits c k hk).1, h2]; rfl⟩⟩ hn
        · rfl
    rw [hb] at h; exact absurd h (by simp)
theorem not_hit_coC (c : C) : ¬ hit c (coC c) := fun h => by
  have := hit_coC.1 (hit_comm.1 h)
  rw [belC_refl] at this; exact absurd this (by simp)
theorem not_not {f : List C} (h1 : (notF f).2 = 0) (h2 : (notF (notF f).1).2 = 0) : (notF (notF f).1).1 = f := by
  refine rightF_ext (notF_right _) (notF_told h1).1 (fun c _ => ?_)
  rw [notF_dn h2]
  constructor
  · intro h
    apply Classical.byContradiction
    intro hn
    have h3 : dn (notF f).1 (coC c) := (notF_dn h1 (coC c)).2 (fun d hd => hit_coC.2 (by
      cases hb : belC c d
      · rfl
      · exact absurd ⟨d, hd, hb⟩ hn))
    obtain ⟨e, he, hb⟩ := h3
    exact not_hit_coC c (hit_mono (h e he) hb)
  · rintro ⟨d, hd, hb⟩ e he
    have := (notF_dn h1 e).1 ⟨e, he, belC_refl e⟩ d hd
    exact hit_mono' (hit_comm.1 this) hb
theorem morgan {f g : List C} (hf : (notF f).2 = 0) (hg : (notF g).2 = 0) (h1 : (joinF f g).2 = 0) (h2 : (notF (joinF f g).1).2 = 0) (h3 : (meetF (notF f).1 (notF g).1).2 = 0) : (notF (joinF f g).1).1 = (meetF (notF f).1 (notF g).1).1 := by
  refine rightF_ext (notF_right _) (meetF_right _ _) (fun c _ => ?_)
  rw [notF_dn h2, meetF_dn h3, notF_dn hf, notF_dn hg]
  constructor
  · intro h
    refine ⟨fun d hd => ?_, fun d hd => ?_⟩
    · obtain ⟨e, he, hb⟩ := (joinF_dn h1 d).2 (.inl ⟨d, hd, belC_refl d⟩)
      exact hit_mono (h e he) hb
    · obtain ⟨e, he, hb⟩ := (joinF_dn h1 d).2 (.inr ⟨d, hd, belC_refl d⟩)
      exact hit_mono (h e he) hb
  · rintro ⟨ha, hb⟩ d hd
    rcases (joinF_dn h1 d).1 ⟨d, hd, belC_refl d⟩ with ⟨e, he, hbe⟩ | ⟨e, he, hbe⟩
    · exact hit_mono (ha e he) hbe
    · exact hit_mono (hb e he) hbe
end Go.Proofs.Ytkklmioejgpknaa
