/- Rows lifted by any number: they stand in the same order, nothing of them is needless; two lifts make one. The lemma of substitution: its mathematics. The lemma of substitution. How much a term's nodes hold; how great a term is with another one put in. -/
import Derived.Test.YtocfamcclfhkcaaGreatYLfN
import Derived.Test.YtocfamcclfhkcaaGreatKPe
import Derived.Test.YtocfamcclfhkcaaGreatKPc
import Derived.Test.YtocfamcclfhkcaaGreatKLg
namespace Go.Proofs.YtocfamcclfhkcaaGreat
open Go.RowKit
set_option linter.unusedVariables false
set_option linter.unusedSimpArgs false

theorem top_diffD {x y : Nat} : ∀ n, (∀ k, n ≤ k → x.testBit k = y.testBit k) → x ≠ y → ∃ k, x.testBit k ≠ y.testBit k ∧ ∀ m, k < m → x.testBit m = y.testBit m
  | 0, h, hne => absurd (Nat.eq_of_testBit_eq fun k => h k (Nat.zero_le _)) hne
  | n + 1, h, hne => by
    by_cases hn : x.testBit n = y.testBit n
    · exact top_diffD n (fun k hk => by
        rcases Nat.eq_or_lt_of_le hk with e | e
        · rw [← e]; exact hn
        · exact h k e) hne
    · exact ⟨n, hn, fun m hm => h m hm⟩
theorem lt_bitsD {x y : Nat} (k : Nat) (hx : x.testBit k = false) (hy : y.testBit k = true) (h : ∀ m, k < m → x.testBit m = y.testBit m) : x < y := by
  rw [Nat.testBit_eq_decide_div_mod_eq, decide_eq_false_iff_not] at hx
  rw [Nat.testBit_eq_decide_div_mod_eq, decide_eq_true_iff] at hy
  have e : x / 2 ^ k / 2 = y / 2 ^ k / 2 := by
    rw [Nat.div_div_eq_div_mul, Nat.div_div_eq_div_mul, ← Nat.pow_succ]
    refine Nat.eq_of_testBit_eq fun m => ?_
    rw [Nat.testBit_div_two_pow, Nat.testBit_div_two_pow]
    exact h _ (by omega)
  rcases Nat.lt_or_ge x y with h1 | h1
  · exact h1
  · have := Nat.div_le_div_right (c := 2 ^ k) h1
    omega
theorem lt_topD {x y : Nat} (hx : x < 16777216) (hy : y < 16777216) (h : x < y) : ∃ k, x.testBit k = false ∧ y.testBit k = true ∧ ∀ m, k < m → x.testBit m = y.testBit m := by
  have e1 : ∀ z, z < 16777216 → ∀ m, 24 ≤ m → z.testBit m = false := fun z hz m hm => Nat.testBit_lt_two_pow (Nat.lt_of_lt_of_le hz (Nat.pow_le_pow_right (n := 2) (by omega) hm))
  obtain ⟨k, hk, hm⟩ := top_diffD 24 (fun m hm => by rw [e1 x hx m hm, e1 y hy m hm]) (by omega : x ≠ y)
  cases ha : x.testBit k <;> cases hb : y.testBit k
  · rw [ha, hb] at hk; exact absurd rfl hk
  · exact ⟨k, ha, hb, hm⟩
  · have := lt_bitsD k hb ha (fun m hm' => (hm m hm').symm)
    omega
  · rw [ha, hb] at hk; exact absurd rfl hk
theorem lift_bitsD {s j d : Nat} (h : liftE s (j : Int) (d : Int) = 0) (hs : s < 16777216) (k : Nat) : (liftN s (j : Int) (d : Int)).testBit k = if k < j then s.testBit k else if k < j + d then false else s.testBit (k - d) := by
  have ha : argB (j : Int) (d : Int) = false := by cases ha : argB (j : Int) (d : Int) with | false => rfl | true => rw [(lift_arg ha).2] at h; cases h
  have hb : liftBad (j : Int) (d : Int) (dimsOf s) = false := by cases hb : liftBad (j : Int) (d : Int) (dimsOf s) with | false => rfl | true => rw [(lift_bad ha hb).2] at h; cases h
  have h24 : ∀ z, s.testBit z = true → z < 24 := fun z hz => by
    rcases Nat.lt_or_ge z 24 with h | h
    · exact h
    · rw [Nat.testBit_lt_two_pow (Nat.lt_of_lt_of_le hs (Nat.pow_le_pow_right (n := 2) (by omega) h))] at hz; cases hz
  rw [(lift_ok ha hb).1, testBit_orAll, Bool.eq_iff_iff, decide_eq_true_iff, List.mem_map]
  constructor
  · rintro ⟨z, hz, e⟩
    rw [mem_dimsOf] at hz
    unfold upK at e
    split at e
    · rename_i hzj
      subst e
      rw [if_pos (by omega)]; exact hz.2
    · rename_i hzj
      have e : z + d = k := by simpa using e
      subst e
      rw [if_neg (by omega), if_neg (by omega), Nat.add_sub_cancel]
      exact hz.2
  · intro hk
    split at hk
    · rename_i hkj
      exact ⟨k, by rw [mem_dimsOf]; exact ⟨h24 k hk, hk⟩, by unfold upK; rw [if_pos (by omega)]⟩
    · split at hk
      · cases hk
      · rename_i h1 h2
        exact ⟨k - d, by rw [mem_dimsOf]; exact ⟨h24 _ hk, hk⟩, by unfold upK; rw [if_neg (by omega), Int.toNat_natCast]; omega⟩
theorem lift_ltD {x y j d : Nat} (hx : x < 16777216) (hy : y < 16777216) (ex : liftE x (j : Int) (d : Int) = 0) (ey : liftE y (j : Int) (d : Int) = 0) (h : x < y) : liftN x (j : Int) (d : Int) < liftN y (j : Int) (d : Int) := by
  obtain ⟨k, h1, h2, h3⟩ := lt_topD hx hy h
  have bx := lift_bitsD ex hx
  have by_ := lift_bitsD ey hy
  by_cases hk : k < j
  · refine lt_bitsD k (by rw [bx, if_pos hk, h1]) (by rw [by_, if_pos hk, h2]) (fun m hm => ?_)
    rw [bx, by_]
    split
    · exact h3 m hm
    · split
      · rfl
      · exact h3 (m - d) (by omega)
  · refine lt_bitsD (k + d) (by rw [bx, if_neg (by omega), if_neg (by omega), Nat.add_sub_cancel]; exact h1) (by rw [by_, if_neg (by omega), if_neg (by omega), Nat.add_sub_cancel]; exact h2) (fun m hm => ?_)
    rw [bx, by_]
    split
    · exact h3 m (by omega)
    · split
      · rfl
      · exact h3 (m - d) (by omega)
theorem liftC_okD {c : C} {j d : Nat} (h : liftCE c (j : Int) (d : Int) = 0) : rightC c = true ∧ liftE c.1.val (j : Int) (d : Int) = 0 ∧ liftE c.2.val (j : Int) (d : Int) = 0 := by
  unfold liftCE at h
  split at h
  · split at h
    · exact ⟨‹_›, ‹_›, h⟩
    · exact absurd h ‹_›
  · cases h
theorem right_ltsD {c : C} (h : rightC c = true) : c.1.val < 16777216 ∧ c.2.val < 16777216 := by
  have := rightC_iff.1 h
  exact ⟨by first | exact this.1 | (have := this.1; omega), by first | exact this.2 | (have := this.2; omega)⟩
theorem liftC_eqD {c : C} {j d : Nat} (h : liftCE c (j : Int) (d : Int) = 0) : (liftC c (j : Int) (d : Int)).1.val = liftN c.1.val (j : Int) (d : Int) ∧ (liftC c (j : Int) (d : Int)).2.val = liftN c.2.val (j : Int) (d : Int) := by
  unfold liftC
  rw [if_pos (liftC_okD h)]
  exact ⟨rfl, rfl⟩
theorem ltC_liftD {a b : C} {j d : Nat} (ha : liftCE a (j : Int) (d : Int) = 0) (hb : liftCE b (j : Int) (d : Int) = 0) (h : ltC a b = true) : ltC (liftC a (j : Int) (d : Int)) (liftC b (j : Int) (d : Int)) = true := by
  obtain ⟨ra, a1, a2⟩ := liftC_okD ha
  obtain ⟨rb, b1, b2⟩ := liftC_okD hb
  obtain ⟨la1, la2⟩ := right_ltsD ra
  obtain ⟨lb1, lb2⟩ := right_ltsD rb
  unfold ltC at h ⊢
  rw [(liftC_eqD ha).1, (liftC_eqD ha).2, (liftC_eqD hb).1, (liftC_eqD hb).2]
  simp only [Bool.or_eq_true, Bool.and_eq_true, decide_eq_true_eq] at h ⊢
  rcases h with h | ⟨h, h'⟩
  · exact .inl (lift_ltD la1 lb1 a1 b1 h)
  · exact .inr ⟨by rw [h], lift_ltD la2 lb2 a2 b2 h'⟩
theorem belC_liftD {a b : C} {j d : Nat} (ha : liftCE a (j : Int) (d : Int) = 0) (hb : liftCE b (j : Int) (d : Int) = 0) (h : belC (liftC a (j : Int) (d : Int)) (liftC b (j : Int) (d : Int)) = true) : belC a b = true := by
  obtain ⟨ra, a1, a2⟩ := liftC_okD ha
  obtain ⟨rb, b1, b2⟩ := liftC_okD hb
  obtain ⟨la1, la2⟩ := right_ltsD ra
  obtain ⟨lb1, lb2⟩ := right_ltsD rb
  have h' := belC_iff.1 h
  rw [(liftC_eqD ha).1, (liftC_eqD ha).2, (liftC_eqD hb).1, (liftC_eqD hb).2] at h'
  have gen : ∀ (x y : Nat), x < 16777216 → y < 16777216 → liftE x (j : Int) (d : Int) = 0 → liftE y (j : Int) (d : Int) = 0 → (∀ k, k < 24 → (liftN y (j : Int) (d : Int)).testBit k = true → (liftN x (j : Int) (d : Int)).testBit k = true) → ∀ k, k < 24 → y.testBit k = true → x.testBit k = true := by
    intro x y hx hy ex ey hh k hk hyk
    have bx := lift_bitsD ex hx
    have by_ := lift_bitsD ey hy
    have h24 : ∀ z, (liftN y (j : Int) (d : Int)).testBit z = true → z < 24 := fun z hd => by
      rcases Nat.lt_or_ge z 24 with h | h
      · exact h
      · rw [Nat.testBit_lt_two_pow (Nat.lt_of_lt_of_le (liftN_lt y (j : Int) (d : Int)) (Nat.pow_le_pow_right (n := 2) (by omega) h))] at hd; cases hd
    by_cases hkj : k < j
    · have e : (liftN y (j : Int) (d : Int)).testBit k = true := by rw [by_, if_pos hkj]; exact hyk
      have := hh k (h24 k e) e
      rw [bx, if_pos hkj] at this
      exact this
    · have e : (liftN y (j : Int) (d : Int)).testBit (k + d) = true := by rw [by_, if_neg (by omega), if_neg (by omega), Nat.add_sub_cancel]; exact hyk
      have := hh (k + d) (h24 _ e) e
      rw [bx, if_neg (by omega), if_neg (by omega), Nat.add_sub_cancel] at this
      exact this
  exact belC_iff.2 ⟨gen _ _ la1 lb1 a1 b1 h'.1, gen _ _ la2 lb2 a2 b2 h'.2⟩
theorem liftS_mapD {j d : Nat} (l : List C) : (liftS l (j : Int) (d : Int)).2 = 0 → (liftS l (j : Int) (d : Int)).1 = l.map (fun c => liftC c (j : Int) (d : Int)) ∧ ∀ c ∈ l, liftCE c (j : Int) (d : Int) = 0 := by
  induction l using snoc_ind with
  | nil => intro _; exact ⟨rfl, fun c hc => by cases hc⟩
  | snoc l c ih =>
    intro h
    rw [liftS_snoc] at h ⊢
    unfold stepL at h ⊢
    by_cases h0 : (liftS l (j : Int) (d : Int)).2 = 0
    · rw [if_pos h0] at h ⊢
      by_cases h1 : liftCE c (j : Int) (d : Int) = 0
      · rw [if_pos h1]
        obtain ⟨e, hall⟩ := ih h0
        refine ⟨by rw [List.map_append, ← e]; rfl, fun d hd => ?_⟩
        rcases List.mem_append.1 hd with hd | hd
        · exact hall d hd
        · rw [List.mem_singleton.1 hd]; exact h1
      · rw [if_neg h1] at h; exact absurd h h1
    · rw [if_neg h0] at h; exact absurd h h0
theorem lift_rowD {f : List C} {j d : Nat} (h : (liftFF f (j : Int) (d : Int)).2 = 0) : (liftFF f (j : Int) (d : Int)).1 = f.map (fun c => liftC c (j : Int) (d : Int)) ∧ (∀ c ∈ f, liftCE c (j : Int) (d : Int) = 0) := by
  unfold liftFF at h ⊢
  by_cases hr : rightF f = true
  · rw [if_pos hr] at h ⊢
    by_cases h0 : (liftS f (j : Int) (d : Int)).2 = 0
    · rw [if_pos h0] at h ⊢
      obtain ⟨e, hall⟩ := liftS_mapD f h0
      rw [e] at h ⊢
      obtain ⟨hp, hlen⟩ := rightF_iff.1 hr
      have hP : PreOk (f.map fun c => liftC c (j : Int) (d : Int)) := by
        refine ⟨?_, ?_, ?_⟩
        · rw [List.all_eq_true]
          intro x hx
          obtain ⟨c, hc, rfl⟩ := List.mem_map.1 hx
          rw [rightC_iff, (liftC_eqD (hall c hc)).1, (liftC_eqD (hall c hc)).2]
          exact ⟨liftN_lt _ _ _, liftN_lt _ _ _⟩
        · exact List.pairwise_map.2 (List.Pairwise.imp_of_mem (fun ha hb h => ltC_liftD (hall _ ha) (hall _ hb) h) hp.rises)
        · intro x hx
          obtain ⟨c, hc, rfl⟩ := List.mem_map.1 hx
          rw [needed_iff]
          intro y hy hb
          obtain ⟨d, hd, rfl⟩ := List.mem_map.1 hy
          rw [needed_iff.1 (hp.need c hc) d hd (belC_liftD (hall c hc) (hall d hd) hb)]
      have hR : rightF (f.map fun c => liftC c (j : Int) (d : Int)) = true := rightF_iff.2 ⟨hP, by simpa using hlen⟩
      rw [rightF_eq hR]
      exact ⟨rfl, hall⟩
    · rw [if_neg h0] at h; exact absurd h h0
  · rw [if_neg hr] at h; cases h

theorem liftE_le {s : Nat} {fr by_ : Int} (h : liftE s fr by_ = 0) : liftN s fr by_ < 16777216 := liftN_lt s fr by_
theorem liftN_add {s c e b : Nat} (hs : s < 16777216) (h1 : liftE s (c : Int) (e : Int) = 0) (h2 : liftE (liftN s (c : Int) (e : Int)) ((c + e : Nat) : Int) (b : Int) = 0) (h3 : liftE s (c : Int) ((e + b : Nat) : Int) = 0) :
    liftN (liftN s (c : Int) (e : Int)) ((c + e : Nat) : Int) (b : Int) = liftN s (c : Int) ((e + b : Nat) : Int) := by
  refine Nat.eq_of_testBit_eq fun k => ?_
  rw [lift_bitsD h2 (liftN_lt _ _ _), lift_bitsD h3 hs, lift_bitsD h1 hs, lift_bitsD h1 hs]
  by_cases q1 : k < c
  · rw [if_pos (by omega), if_pos q1, if_pos q1]
  · by_cases q2 : k < c + e
    · rw [if_pos q2, if_neg q1, if_pos q2, if_neg q1, if_pos (by omega)]
    · by_cases q3 : k < c + e + b
      · rw [if_neg q2, if_pos q3, if_neg q1, if_pos (by omega)]
      · rw [if_neg q2, if_neg q3, if_neg (by omega), if_neg (by omega), if_neg q1, if_neg (by omega)]
        congr 1
        omega
theorem liftC_add {x : C} {c e b : Nat} (h1 : liftCE x (c : Int) (e : Int) = 0) (h2 : liftCE (liftC x (c : Int) (e : Int)) ((c + e : Nat) : Int) (b : Int) = 0) (h3 : liftCE x (c : Int) ((e + b : Nat) : Int) = 0) :
    liftC (liftC x (c : Int) (e : Int)) ((c + e : Nat) : Int) (b : Int) = liftC x (c : Int) ((e + b : Nat) : Int) := by
  obtain ⟨r, a1, a2⟩ := liftC_okD h1
  obtain ⟨_, b1, b2⟩ := liftC_okD h2
  obtain ⟨_, c1, c2⟩ := liftC_okD h3
  obtain ⟨l1, l2⟩ := right_ltsD r
  obtain ⟨e1, e2⟩ := liftC_eqD h1
  obtain ⟨f1, f2⟩ := liftC_eqD h2
  obtain ⟨g1, g2⟩ := liftC_eqD h3
  rw [e1] at b1 f1
  rw [e2] at b2 f2
  refine Prod.ext (Fin.ext ?_) (Fin.ext ?_)
  · rw [f1, g1]; exact liftN_add l1 a1 b1 c1
  · rw [f2, g2]; exact liftN_add l2 a2 b2 c2
theorem row_addF {r : List C} {c e b : Nat} (h1 : (liftFF r (c : Int) (e : Int)).2 = 0) (h2 : (liftFF (liftFF r (c : Int) (e : Int)).1 ((c + e : Nat) : Int) (b : Int)).2 = 0) (h3 : (liftFF r (c : Int) ((e + b : Nat) : Int)).2 = 0) :
    (liftFF (liftFF r (c : Int) (e : Int)).1 ((c + e : Nat) : Int) (b : Int)).1 = (liftFF r (c : Int) ((e + b : Nat) : Int)).1 := by
  obtain ⟨p1, p2⟩ := lift_rowD h1
  obtain ⟨q1, q2⟩ := lift_rowD h2
  obtain ⟨s1, s2⟩ := lift_rowD h3
  rw [q1, s1, p1, List.map_map]
  refine List.map_congr_left fun x hx => ?_
  exact liftC_add (p2 x hx) (q2 _ (by rw [p1]; exact List.mem_map.2 ⟨x, hx, rfl⟩)) (s2 x hx)
theorem rowP_ne {v1 v2 : Int} {d c : Nat} {r : List C} (h : d ≠ 0) : rowP ⟨v1, v2, 0, (d : Int)⟩ c r = liftFF r (c : Int) (d : Int) := by
  have e : min (0 : Int) 24 + (c : Int) = (c : Int) := by omega
  unfold rowP
  rw [if_neg (by show ¬ (d : Int) = 0; omega), e]
theorem rowP_any (v1 v2 v3 v4 : Int) (d c : Nat) (r : List C) : (rowP ⟨v1, v2, 0, (d : Int)⟩ c r).1 = (rowP ⟨v3, v4, 0, (d : Int)⟩ c r).1 := rfl
/-- Rows of terms: a lift by dimensions from 0 on. -/
theorem row_add {c e b : Nat} {v1 v2 v3 v4 v5 v6 : Int} {r : List C} (h1 : (rowP ⟨v1, v2, 0, (e : Int)⟩ c r).2 = 0) (h2 : (rowP ⟨v3, v4, 0, (b : Int)⟩ (c + e) (rowP ⟨v1, v2, 0, (e : Int)⟩ c r).1).2 = 0) (h3 : (rowP ⟨v5, v6, 0, ((e + b : Nat) : Int)⟩ c r).2 = 0) :
    (rowP ⟨v3, v4, 0, (b : Int)⟩ (c + e) (rowP ⟨v1, v2, 0, (e : Int)⟩ c r).1).1 = (rowP ⟨v5, v6, 0, ((e + b : Nat) : Int)⟩ c r).1 := by
  by_cases he : e = 0
  · subst he
    have z : ∀ (q : List C), rowP ⟨v1, v2, 0, ((0 : Nat) : Int)⟩ c q = (q, 0) := fun q => rowP_zero rfl c q
    rw [z, Nat.add_zero, Nat.zero_add]
    exact rowP_any _ _ _ _ _ _ _
  · by_cases hb : b = 0
    · subst hb
      have z : ∀ (q : List C), rowP ⟨v3, v4, 0, ((0 : Nat) : Int)⟩ (c + e) q = (q, 0) := fun q => rowP_zero rfl (c + e) q
      rw [z, Nat.add_zero]
      exact rowP_any _ _ _ _ _ _ _
    · rw [rowP_ne he] at h1 h2 ⊢
      rw [rowP_ne hb] at h2 ⊢
      rw [rowP_ne (by omega)] at h3 ⊢
      exact row_addF h1 h2 h3
end Go.Proofs.YtocfamcclfhkcaaGreat

namespace Go.Proofs.YtocfamcclfhkcaaGreat
open Go.RowKit
set_option linter.unusedVariables false
set_option linter.unusedSimpArgs false

/-- Its rows can be lifted by so many. -/
def RK (d : Nat) : Tm → Nat → Prop := Tm.fold fun k _ _ r ks sys bd =>
  (rowP ⟨0, 0, 0, (d : Int)⟩ bd r).2 = 0 ∧ (∀ p ∈ ks.zipIdx, p.1 (bd + bdK k p.2)) ∧ ∀ b ∈ sys, (rowP ⟨0, 0, 0, (d : Int)⟩ bd b.1).2 = 0 ∧ ∀ f ∈ b.2, f (bd + moreK k)
theorem rk_eq (d : Nat) (t : Tm) (bd : Nat) : RK d t bd ↔ ((rowP ⟨0, 0, 0, (d : Int)⟩ bd t.r).2 = 0 ∧ (∀ (i : Nat) (x : Tm), t.kids[i]? = some x → RK d x (bd + bdK t.kind i)) ∧ ∀ b ∈ t.sys, (rowP ⟨0, 0, 0, (d : Int)⟩ bd b.1).2 = 0 ∧ ∀ x ∈ b.2, RK d x (bd + moreK t.kind)) := by
  unfold RK
  rw [fold_mk]
  refine and_congr Iff.rfl (and_congr ⟨fun h i x hx => ?_, fun h p hp => ?_⟩ ⟨fun h b hb => ?_, fun h b hb => ?_⟩)
  · refine h (_, i) ?_
    rw [List.mem_zipIdx_iff_getElem?, List.getElem?_map, hx]
    rfl
  · obtain ⟨g, i⟩ := p
    rw [List.mem_zipIdx_iff_getElem?, List.getElem?_map] at hp
    cases hx : t.kids[i]? with
    | none => rw [hx] at hp; simp at hp
    | some x =>
      rw [hx] at hp
      simp only [Option.map_some, Option.some.injEq] at hp
      subst hp
      exact h i x hx
  · have := h _ (List.mem_map.2 ⟨b, hb, rfl⟩)
    exact ⟨this.1, fun x hx => this.2 _ (List.mem_map.2 ⟨x, hx, rfl⟩)⟩
  · obtain ⟨c, hc, rfl⟩ := List.mem_map.1 hb
    refine ⟨(h c hc).1, fun f hf => ?_⟩
    obtain ⟨x, hx, rfl⟩ := List.mem_map.1 hf
    exact (h c hc).2 x hx
theorem liK_get? (s : Sf) (k : Int) (l : List Tm) (bv bd i : Nat) : (liK s k l bv bd)[i]? = (l[i]?).map fun x => liT s x (bv + bvK k i) (bd + bdK k i) := by
  unfold liK
  rw [List.getElem?_map, List.getElem?_zipIdx]
  cases l[i]? <;> simp
theorem putK_get? (n : Int) (u : Tm) (k : Int) (l : List Tm) (bv bd i : Nat) : (putK n u k l bv bd)[i]? = (l[i]?).map fun x => putT n u x (bv + bvK k i) (bd + bdK k i) := by
  unfold putK
  rw [List.getElem?_map, List.getElem?_zipIdx]
  cases l[i]? <;> simp
theorem rk_of_er {v a : Int} {d : Nat} : ∀ (N : Nat) (t : Tm) (bv bd : Nat), blk t ≤ N → erT ⟨v, a, 0, (d : Int)⟩ t bv bd = 0 → RK d t bd
  | 0, t, bv, bd, h, _ => by have := blk_pos t; omega
  | N + 1, t, bv, bd, h, he => by
    rw [er_eq, firstE_zero] at he
    have h1 := he _ (by simp : (rowP ⟨v, a, 0, (d : Int)⟩ bd t.r).2 ∈ _)
    rw [rk_eq]
    refine ⟨h1, fun i x hx => ?_, fun b hb => ?_⟩
    · refine rk_of_er (v := v) (a := a) N x (bv + bvK t.kind i) _ (by have := blk_kid (List.mem_of_getElem? hx); omega) ?_
      refine he _ (List.mem_cons_of_mem _ (List.mem_cons_of_mem _ (List.mem_append.2 (.inl ?_))))
      exact List.mem_of_getElem? (erK_get hx)
    · have h2 := he _ (List.mem_cons_of_mem _ (List.mem_cons_of_mem _ (List.mem_append.2 (.inr (List.mem_map.2 ⟨b, hb, rfl⟩)))))
      unfold erB at h2
      rw [firstE_zero] at h2
      refine ⟨h2 (rowP ⟨v, a, 0, (d : Int)⟩ bd b.1).2 (.head _), fun x hx => ?_⟩
      exact rk_of_er (v := v) (a := a) N x bv _ (by have := blk_sub hb hx; omega) (h2 _ (List.mem_cons_of_mem _ (List.mem_map.2 ⟨x, hx, rfl⟩)))
theorem rk_li {v a : Int} {d : Nat} : ∀ (N : Nat) (t : Tm) (bv bd bd' : Nat), blk t ≤ N → RK d (liT ⟨v, a, 0, 0⟩ t bv bd) bd' → RK d t bd'
  | 0, t, bv, bd, bd', h, _ => by have := blk_pos t; omega
  | N + 1, t, bv, bd, bd', h, hr => by
    have e0 : ∀ (bd : Nat) (r : List C), rowP ⟨v, a, 0, 0⟩ bd r = (r, 0) := fun bd r => rowP_zero rfl bd r
    rw [li_eq, rk_eq] at hr
    dsimp only at hr
    rw [e0] at hr
    rw [rk_eq]
    refine ⟨hr.1, fun i x hx => ?_, fun b hb => ?_⟩
    · refine rk_li (v := v) (a := a) N x (bv + bvK t.kind i) (bd + bdK t.kind i) _ (by have := blk_kid (List.mem_of_getElem? hx); omega) (hr.2.1 i _ ?_)
      rw [liK_get?, hx]; rfl
    · have h2 := hr.2.2 _ (List.mem_map.2 ⟨b, hb, rfl⟩)
      unfold liB at h2
      rw [e0] at h2
      exact ⟨h2.1, fun x hx => rk_li (v := v) (a := a) N x bv (bd + moreK t.kind) _ (by have := blk_sub hb hx; omega) (h2.2 _ (List.mem_map.2 ⟨x, hx, rfl⟩))⟩
theorem both_li {a d : Nat} {u : Tm} (h : bothE (a : Int) (d : Int) u = 0) : bothT (a : Int) (d : Int) u = liT (sf (a : Int) (d : Int)) u 0 0 ∧ RK d u 0 := by
  have h' := h
  unfold bothE at h'
  by_cases q1 : wrL (d : Int) (a : Int) u = 0
  · rw [if_pos q1] at h'
    by_cases q2 : erT ⟨0, (a : Int), 0, 0⟩ u 0 0 = 0
    · rw [if_pos q2] at h'
      by_cases q3 : (1000000 : Int) < (d : Int)
      · rw [if_pos q3] at h'; omega
      · rw [if_neg q3] at h'
        have hr := rk_li _ u 0 0 0 (Nat.le_refl _) (rk_of_er _ _ 0 0 (Nat.le_refl _) h')
        refine ⟨?_, hr⟩
        unfold bothT
        rw [if_pos h]
        have := li_li (a := (a : Int)) (b := 0) (c := 0) (d := (d : Int)) (by omega) (.inl rfl) _ u 0 0 (Nat.le_refl _)
        rw [Int.add_zero, Int.zero_add] at this
        exact this
    · rw [if_neg q2] at h'; exact absurd h' q2
  · rw [if_neg q1] at h'; exact absurd h' q1
theorem m_add {a e b d : Nat} : ∀ (N : Nat) (t : Tm) (c f : Nat), blk t ≤ N → RK e t f → RK d (liT (sf (a : Int) (e : Int)) t c f) (f + e) → RK (e + d) t f →
    liT (sf (b : Int) (d : Int)) (liT (sf (a : Int) (e : Int)) t c f) (c + a) (f + e) = liT (sf ((a + b : Nat) : Int) ((e + d : Nat) : Int)) t c f
  | 0, t, c, f, h, _, _, _ => by have := blk_pos t; omega
  | N + 1, t, c, f, h, r1, r2, r3 => by
    rw [li_eq, rk_eq] at r2
    rw [rk_eq] at r1 r3
    dsimp only at r2
    have hk : ∀ (i : Nat) (x : Tm), t.kids[i]? = some x → liT (sf (b : Int) (d : Int)) (liT (sf (a : Int) (e : Int)) x (c + bvK t.kind i) (f + bdK t.kind i)) (c + a + bvK t.kind i) (f + e + bdK t.kind i) = liT (sf ((a + b : Nat) : Int) ((e + d : Nat) : Int)) x (c + bvK t.kind i) (f + bdK t.kind i) := fun i x hx => by
      have e1 : c + a + bvK t.kind i = c + bvK t.kind i + a := by omega
      have e2 : f + e + bdK t.kind i = f + bdK t.kind i + e := by omega
      rw [e1, e2]
      refine m_add N x _ _ (by have := blk_kid (List.mem_of_getElem? hx); omega) (r1.2.1 i x hx) ?_ (r3.2.1 i x hx)
      have := r2.2.1 i _ (by rw [liK_get?, hx]; rfl)
      rwa [e2] at this
    have hs : ∀ bb ∈ t.sys, ∀ x ∈ bb.2, liT (sf (b : Int) (d : Int)) (liT (sf (a : Int) (e : Int)) x c (f + moreK t.kind)) (c + a) (f + e + moreK t.kind) = liT (sf ((a + b : Nat) : Int) ((e + d : Nat) : Int)) x c (f + moreK t.kind) := fun bb hb x hx => by
      have e2 : f + e + moreK t.kind = f + moreK t.kind + e := by omega
      rw [e2]
      refine m_add N x _ _ (by have := blk_sub hb hx; omega) ((r1.2.2 bb hb).2 x hx) ?_ ((r3.2.2 bb hb).2 x hx)
      have := (r2.2.2 _ (List.mem_map.2 ⟨bb, hb, rfl⟩)).2 _ (List.mem_map.2 ⟨x, hx, rfl⟩)
      rwa [e2] at this
    rw [li_eq (sf (a : Int) (e : Int)), li_eq (sf (b : Int) (d : Int)), li_eq (sf ((a + b : Nat) : Int) ((e + d : Nat) : Int))]
    dsimp only
    congr 1
    · rw [numV_sf, numV_sf, numV_sf]
      by_cases q : t.kind = 1 ∧ 0 ≤ t.n - (c : Int)
      · rw [if_pos q, if_pos ⟨q.1, by have := q.2; omega⟩, if_pos q]; omega
      · rw [if_neg q, if_neg (fun z => q ⟨z.1, by have := z.2; omega⟩), if_neg q]
    · exact row_add r1.1 r2.1 r3.1
    · refine List.ext_getElem? fun i => ?_
      rw [liK_get?, liK_get?, liK_get?]
      cases hi : t.kids[i]? with
      | none => rfl
      | some x => simp only [Option.map_some]; rw [hk i x hi]
    · rw [List.map_map]
      refine List.map_congr_left fun bb hb => ?_
      show ((rowP (sf (b : Int) (d : Int)) (f + e) (rowP (sf (a : Int) (e : Int)) f bb.1).1).1, (bb.2.map fun x => liT (sf (a : Int) (e : Int)) x c (f + moreK t.kind)).map fun x => liT (sf (b : Int) (d : Int)) x (c + a) (f + e + moreK t.kind)) = liB (sf ((a + b : Nat) : Int) ((e + d : Nat) : Int)) t.kind bb c f
      rw [List.map_map]
      unfold liB
      congr 1
      · exact row_add (r1.2.2 bb hb).1 (r2.2.2 _ (List.mem_map.2 ⟨bb, hb, rfl⟩)).1 (r3.2.2 bb hb).1
      · exact List.map_congr_left fun x hx => hs bb hb x hx
end Go.Proofs.YtocfamcclfhkcaaGreat

namespace Go.Proofs.YtocfamcclfhkcaaGreat
open Go.RowKit
set_option linter.unusedVariables false
set_option linter.unusedSimpArgs false

theorem eP_kid {n : Int} {u t : Tm} {bv bd : Nat} (h : eP n u t bv bd = 0) (hk : t.kind ≠ 1) : (∀ (i : Nat) (x : Tm), t.kids[i]? = some x → eP n u x (bv + bvK t.kind i) (bd + bdK t.kind i) = 0) ∧ ∀ b ∈ t.sys, ∀ x ∈ b.2, eP n u x bv (bd + moreK t.kind) = 0 := by
  rw [eP_eq, if_neg hk, firstE_zero] at h
  refine ⟨fun i x hx => h _ (List.mem_append.2 (.inl (List.mem_of_getElem? (ePK_get hx)))), fun b hb x hx => ?_⟩
  have h2 := h _ (List.mem_append.2 (.inr (List.mem_map.2 ⟨b, hb, rfl⟩)))
  rw [firstE_zero] at h2
  exact h2 _ (List.mem_map.2 ⟨x, hx, rfl⟩)
theorem sys_map {f g : Tm → Tm} {l : List (List C × List Tm)} (h : ∀ b ∈ l, ∀ x ∈ b.2, f x = g x) : l.map (fun b => (b.1, b.2.map f)) = l.map fun b => (b.1, b.2.map g) :=
  List.map_congr_left fun b hb => by rw [List.map_congr_left (h b hb)]
theorem pn_gt {n m : Int} {bv : Nat} (h : n < m - (bv : Int)) : pnV n bv 1 m = m - 1 := by unfold pnV; rw [if_pos ⟨rfl, h⟩]
theorem pn_le {n m : Int} {bv : Nat} (h : ¬ n < m - (bv : Int)) : pnV n bv 1 m = m := by unfold pnV; rw [if_neg (fun z => h z.2)]
theorem nv_ge {a d m : Int} {c : Nat} (h : 0 ≤ m - (c : Int)) : numV (sf a d) c 1 m = m + a := by rw [numV_sf, if_pos ⟨rfl, h⟩]
theorem nv_lt {a d m : Int} {c : Nat} (h : ¬ 0 ≤ m - (c : Int)) : numV (sf a d) c 1 m = m := by rw [numV_sf, if_neg (fun z => h z.2)]
/-- A term that is put goes through a lift of the whole. -/
theorem q_put {n : Int} (hn : 0 ≤ n) {w : Tm} {bv bd : Nat} : ∀ (N : Nat) (u : Tm) (b e : Nat), blk u ≤ N → Fp u → eP n w u b e = 0 → RK bd u e → eP n w (liT (sf (bv : Int) (bd : Int)) u b e) (bv + b) (bd + e) = 0 → RK bd (putT n w u b e) e →
    putT n w (liT (sf (bv : Int) (bd : Int)) u b e) (bv + b) (bd + e) = liT (sf (bv : Int) (bd : Int)) (putT n w u b e) b e
  | 0, u, b, e, h, _, _, _, _, _ => by have := blk_pos u; omega
  | N + 1, u, b, e, h, hf, h1, h2, h3, h4 => by
    obtain ⟨hn0, hvk, hfk, hfs⟩ := (fp_eq u).1 hf
    obtain ⟨k, m, nm, r, kids, sys⟩ := u
    dsimp only at hn0 hvk hfk hfs
    by_cases hk : k = 1
    · obtain ⟨e1, e2⟩ := hvk hk
      subst hk e1 e2
      rw [li_eq] at h3 ⊢
      dsimp only at h3 ⊢
      rw [put_eq n w (.mk 1 m nm r [] [])] at h4 ⊢
      rw [eP_eq] at h1 h3
      dsimp only at h1 h3 h4 ⊢
      rw [if_pos rfl] at h1 h3
      rw [put_eq]
      dsimp only
      by_cases q1 : 0 ≤ m - (b : Int)
      · rw [nv_ge q1] at h3 ⊢
        by_cases q2 : m - (b : Int) = n
        · have q3 : m + (bv : Int) - ((bv + b : Nat) : Int) = n := by omega
          have Q2 : (1 : Int) = 1 ∧ m - (b : Int) = n := ⟨rfl, q2⟩
          have Q3 : (1 : Int) = 1 ∧ m + (bv : Int) - ((bv + b : Nat) : Int) = n := ⟨rfl, q3⟩
          rw [if_pos q2] at h1
          rw [if_pos q3] at h3
          rw [if_pos Q2] at h4
          rw [if_pos Q3, if_pos Q2]
          obtain ⟨p1, p2⟩ := both_li h1
          obtain ⟨p3, p4⟩ := both_li h3
          rw [p1] at h4 ⊢
          rw [p3]
          have ec : bv + b = b + bv := Nat.add_comm _ _
          have ed : bd + e = e + bd := Nat.add_comm _ _
          rw [ec, ed]
          rw [ed] at p4
          have := m_add (a := b) (e := e) (b := bv) (d := bd) _ w 0 0 (Nat.le_refl _) p2 (by rw [Nat.zero_add]; exact h4) p4
          rw [Nat.zero_add, Nat.zero_add] at this
          exact this.symm
        · have Q2 : ¬ ((1 : Int) = 1 ∧ m - (b : Int) = n) := fun z => q2 z.2
          have Q3 : ¬ ((1 : Int) = 1 ∧ m + (bv : Int) - ((bv + b : Nat) : Int) = n) := fun z => q2 (by have := z.2; omega)
          rw [if_neg Q3, if_neg Q2, li_eq]
          dsimp only
          congr 1
          by_cases q4 : n < m - (b : Int)
          · rw [pn_gt q4, pn_gt (by omega), nv_ge (by omega)]; omega
          · rw [pn_le q4, pn_le (by omega), nv_ge q1]
      · rw [nv_lt q1]
        have Q2 : ¬ ((1 : Int) = 1 ∧ m - (b : Int) = n) := fun z => by have := z.2; omega
        have Q3 : ¬ ((1 : Int) = 1 ∧ m - ((bv + b : Nat) : Int) = n) := fun z => by have := z.2; omega
        rw [if_neg Q3, if_neg Q2, li_eq]
        dsimp only
        congr 1
        rw [pn_le (by omega), pn_le (by omega), nv_lt q1]
    · obtain ⟨a1, a2⟩ := eP_kid h1 hk
      have e3 := li_eq (sf (bv : Int) (bd : Int)) (.mk k m nm r kids sys) b e
      dsimp only at e3 a1 a2
      rw [e3] at h3 ⊢
      obtain ⟨a3, a4⟩ := eP_kid h3 hk
      dsimp only at a3 a4
      have e4 := put_eq n w (.mk k m nm r kids sys) b e
      dsimp only at e4
      rw [if_neg (fun z => hk z.1)] at e4
      rw [e4] at h4 ⊢
      rw [rk_eq] at h2 h4
      dsimp only at h2 h4
      have pv : ∀ (b' : Nat) (m' : Int), pnV n b' k m' = m' := fun b' m' => by unfold pnV; rw [if_neg (fun z => hk z.1)]
      have nv : ∀ (b' : Nat) (m' : Int), numV (sf (bv : Int) (bd : Int)) b' k m' = m' := fun b' m' => by rw [numV_sf, if_neg (fun z => hk z.1)]
      rw [put_eq, li_eq]
      dsimp only
      rw [if_neg (fun z => hk z.1)]
      simp only [pv, nv]
      congr 1
      · refine List.ext_getElem? fun i => ?_
        rw [putK_get?, liK_get?, liK_get?, putK_get?]
        cases hi : kids[i]? with
        | none => rfl
        | some x =>
          simp only [Option.map_some]
          have ea : bv + b + bvK k i = bv + (b + bvK k i) := Nat.add_assoc _ _ _
          have eb : bd + e + bdK k i = bd + (e + bdK k i) := Nat.add_assoc _ _ _
          have h3' := a3 i _ (by rw [liK_get?, hi]; rfl)
          rw [ea, eb] at h3' ⊢
          rw [q_put hn N x (b + bvK k i) (e + bdK k i) (by have := blk_kid (t := .mk k m nm r kids sys) (List.mem_of_getElem? hi); omega) (hfk x (List.mem_of_getElem? hi)) (a1 i x hi) (h2.2.1 i x hi) h3' (h4.2.1 i _ (by rw [putK_get?, hi]; rfl))]
      · rw [List.map_map, List.map_map]
        refine List.map_congr_left fun bb hb => ?_
        show putB n w k (liB (sf (bv : Int) (bd : Int)) k bb b e) (bv + b) (bd + e) = liB (sf (bv : Int) (bd : Int)) k (putB n w k bb b e) b e
        unfold putB liB
        dsimp only
        rw [List.map_map, List.map_map]
        congr 1
        refine List.map_congr_left fun x hx => ?_
        show putT n w (liT (sf (bv : Int) (bd : Int)) x b (e + moreK k)) (bv + b) (bd + e + moreK k) = liT (sf (bv : Int) (bd : Int)) (putT n w x b (e + moreK k)) b (e + moreK k)
        have eb : bd + e + moreK k = bd + (e + moreK k) := Nat.add_assoc _ _ _
        have h3' := a4 _ (List.mem_map.2 ⟨bb, hb, rfl⟩) (liT (sf (bv : Int) (bd : Int)) x b (e + moreK k)) (List.mem_map.2 ⟨x, hx, rfl⟩)
        rw [eb] at h3' ⊢
        exact q_put hn N x b (e + moreK k) (by have := blk_sub (t := .mk k m nm r kids sys) hb hx; omega) (hfs bb hb x hx) (a2 bb hb x hx) ((h2.2.2 bb hb).2 x hx) h3' ((h4.2.2 _ (List.mem_map.2 ⟨bb, hb, rfl⟩)).2 _ (List.mem_map.2 ⟨x, hx, rfl⟩))
/-- What was lifted by one more is as it was, whatever is put at 0. -/
theorem r_put {d : Tm} {bv bd : Nat} : ∀ (N : Nat) (w : Tm) (c f : Nat), blk w ≤ N → putT 0 d (liT (sf (1 + (bv : Int)) (bd : Int)) w c f) (bv + c) (bd + f) = liT (sf (bv : Int) (bd : Int)) w c f
  | 0, w, c, f, h => by have := blk_pos w; omega
  | N + 1, w, c, f, h => by
    obtain ⟨k, m, nm, r, kids, sys⟩ := w
    rw [li_eq, li_eq, put_eq]
    dsimp only
    have e1 : ¬ (k = 1 ∧ numV (sf (1 + (bv : Int)) (bd : Int)) c k m - ((bv + c : Nat) : Int) = 0) := by
      rintro ⟨z1, z2⟩
      rw [numV_sf] at z2
      by_cases q : k = 1 ∧ 0 ≤ m - (c : Int)
      · rw [if_pos q] at z2; have := q.2; omega
      · rw [if_neg q] at z2; exact q ⟨z1, by omega⟩
    have e2 : pnV 0 (bv + c) k (numV (sf (1 + (bv : Int)) (bd : Int)) c k m) = numV (sf (bv : Int) (bd : Int)) c k m := by
      rw [numV_sf, numV_sf]
      unfold pnV
      by_cases q : k = 1 ∧ 0 ≤ m - (c : Int)
      · rw [if_pos q, if_pos q, if_pos ⟨q.1, by have := q.2; omega⟩]; omega
      · rw [if_neg q, if_neg q, if_neg (fun z => q ⟨z.1, by have := z.2; omega⟩)]
    rw [if_neg e1, e2]
    congr 1
    · refine List.ext_getElem? fun i => ?_
      rw [putK_get?, liK_get?, liK_get?]
      cases hi : kids[i]? with
      | none => rfl
      | some x =>
        simp only [Option.map_some]
        have ea : bv + c + bvK k i = bv + (c + bvK k i) := Nat.add_assoc _ _ _
        have eb : bd + f + bdK k i = bd + (f + bdK k i) := Nat.add_assoc _ _ _
        rw [ea, eb, r_put N x _ _ (by have := blk_kid (t := .mk k m nm r kids sys) (List.mem_of_getElem? hi); omega)]
    · rw [List.map_map]
      refine List.map_congr_left fun bb hb => ?_
      show putB 0 d k (liB (sf (1 + (bv : Int)) (bd : Int)) k bb c f) (bv + c) (bd + f) = liB (sf (bv : Int) (bd : Int)) k bb c f
      unfold putB liB
      dsimp only
      rw [List.map_map]
      congr 1
      refine List.map_congr_left fun x hx => ?_
      show putT 0 d (liT (sf (1 + (bv : Int)) (bd : Int)) x c (f + moreK k)) (bv + c) (bd + f + moreK k) = _
      have eb : bd + f + moreK k = bd + (f + moreK k) := Nat.add_assoc _ _ _
      rw [eb, r_put N x _ _ (by have := blk_sub (t := .mk k m nm r kids sys) hb hx; omega)]
/-- Putting u at 0 and then w at n is putting w, lifted, at n + 1, and then, at 0, u with w put in it. -/
theorem p_main {n : Int} (hn : 0 ≤ n) {u w : Tm} (hfu : Fp u) (hd : eP n w u 0 0 = 0) : ∀ (N : Nat) (t : Tm) (bv bd : Nat), blk t ≤ N → Fp t → eP 0 u t bv bd = 0 → eP n w (putT 0 u t bv bd) bv bd = 0 → eP (n + 1) (liT (sf 1 0) w 0 0) t bv bd = 0 → eP 0 (putT n w u 0 0) (putT (n + 1) (liT (sf 1 0) w 0 0) t bv bd) bv bd = 0 →
    putT n w (putT 0 u t bv bd) bv bd = putT 0 (putT n w u 0 0) (putT (n + 1) (liT (sf 1 0) w 0 0) t bv bd) bv bd
  | 0, t, bv, bd, h, _, _, _, _, _ => by have := blk_pos t; omega
  | N + 1, t, bv, bd, h, hf, h1, h2, h3, h4 => by
    obtain ⟨hn0, hvk, hfk, hfs⟩ := (fp_eq t).1 hf
    obtain ⟨k, m, nm, r, kids, sys⟩ := t
    dsimp only at hn0 hvk hfk hfs
    by_cases hk : k = 1
    · obtain ⟨e1, e2⟩ := hvk hk
      subst hk e1 e2
      rw [eP_eq] at h1 h3
      dsimp only at h1 h3
      rw [if_pos rfl] at h1 h3
      have p1 := put_eq 0 u (.mk 1 m nm r [] []) bv bd
      have p2 := put_eq (n + 1) (liT (sf 1 0) w 0 0) (.mk 1 m nm r [] []) bv bd
      dsimp only at p1 p2
      by_cases q0 : m - (bv : Int) = 0
      · rw [if_pos q0] at h1
        rw [if_pos ⟨rfl, q0⟩] at p1
        have q1 : ¬ m - (bv : Int) = n + 1 := by omega
        have pn : pnV (n + 1) bv 1 m = m := by unfold pnV; rw [if_neg (fun z => by have := z.2; omega)]
        rw [if_neg (fun z => q1 z.2), pn] at p2
        obtain ⟨b1, b2⟩ := both_li h1
        rw [p1, b1] at h2 ⊢
        rw [p2] at h4 ⊢
        rw [eP_eq] at h4
        dsimp only at h4
        rw [if_pos rfl, if_pos q0] at h4
        obtain ⟨b3, b4⟩ := both_li h4
        rw [put_eq 0 (putT n w u 0 0)]
        dsimp only
        rw [if_pos ⟨rfl, q0⟩, b3]
        have := q_put hn (w := w) (bv := bv) (bd := bd) _ u 0 0 (Nat.le_refl _) hfu hd b2 (by rw [Nat.add_zero, Nat.add_zero]; exact h2) b4
        rw [Nat.add_zero, Nat.add_zero] at this
        exact this
      · rw [if_neg (fun z => q0 z.2)] at p1
        rw [p1] at h2 ⊢
        rw [eP_eq] at h2
        dsimp only at h2
        rw [if_pos rfl] at h2
        rw [put_eq n w]
        dsimp only
        by_cases q1 : m - (bv : Int) = n + 1
        · rw [if_pos q1] at h3
          rw [if_pos ⟨rfl, q1⟩] at p2
          have pn : pnV 0 bv 1 m = m - 1 := by unfold pnV; rw [if_pos ⟨rfl, by omega⟩]
          rw [pn] at h2 ⊢
          have q2 : m - 1 - (bv : Int) = n := by omega
          rw [if_pos q2] at h2
          rw [if_pos ⟨rfl, q2⟩, p2]
          obtain ⟨b1, _⟩ := both_li h3
          obtain ⟨b2, _⟩ := both_li h2
          rw [b1, b2]
          have e5 := li_li (a := 1) (b := 0) (c := (bv : Int)) (d := (bd : Int)) (by omega) (.inl rfl) _ w 0 0 (Nat.le_refl _)
          rw [Int.zero_add] at e5
          rw [e5]
          have := r_put (d := putT n w u 0 0) (bv := bv) (bd := bd) _ w 0 0 (Nat.le_refl _)
          rw [Nat.add_zero, Nat.add_zero] at this
          exact this.symm
        · rw [if_neg (fun z => q1 z.2)] at p2
          rw [p2, put_eq 0 (putT n w u 0 0)]
          dsimp only
          by_cases qa : (0 : Int) < m - (bv : Int)
          · rw [pn_gt qa]
            have g1 : ¬ ((1 : Int) = 1 ∧ m - 1 - (bv : Int) = n) := fun z => q1 (by have := z.2; omega)
            rw [if_neg g1]
            by_cases qb : n + 1 < m - (bv : Int)
            · rw [pn_gt qb]
              have g2 : ¬ ((1 : Int) = 1 ∧ m - 1 - (bv : Int) = 0) := fun z => by have := z.2; omega
              rw [if_neg g2]
              congr 1
              rw [pn_gt (by omega), pn_gt (by omega)]
            · rw [pn_le qb]
              have g2 : ¬ ((1 : Int) = 1 ∧ m - (bv : Int) = 0) := fun z => q0 z.2
              rw [if_neg g2]
              congr 1
              rw [pn_le (by omega), pn_gt qa]
          · rw [pn_le qa, pn_le (n := n + 1) (by omega)]
            have g1 : ¬ ((1 : Int) = 1 ∧ m - (bv : Int) = n) := fun z => by have := z.2; omega
            have g2 : ¬ ((1 : Int) = 1 ∧ m - (bv : Int) = 0) := fun z => q0 z.2
            rw [if_neg g1, if_neg g2]
            congr 1
            rw [pn_le (by omega), pn_le qa]
    · obtain ⟨a1, a2⟩ := eP_kid h1 hk
      obtain ⟨c1, c2⟩ := eP_kid h3 hk
      dsimp only at a1 a2 c1 c2
      have pv : ∀ (n' : Int) (b' : Nat) (m' : Int), pnV n' b' k m' = m' := fun n' b' m' => by unfold pnV; rw [if_neg (fun z => hk z.1)]
      have p1 := put_eq 0 u (.mk k m nm r kids sys) bv bd
      have p2 := put_eq (n + 1) (liT (sf 1 0) w 0 0) (.mk k m nm r kids sys) bv bd
      dsimp only at p1 p2
      rw [if_neg (fun z => hk z.1), pv] at p1 p2
      rw [p1] at h2 ⊢
      rw [p2] at h4 ⊢
      obtain ⟨a3, a4⟩ := eP_kid h2 hk
      obtain ⟨c3, c4⟩ := eP_kid h4 hk
      dsimp only at a3 a4 c3 c4
      rw [put_eq n w, put_eq 0 (putT n w u 0 0)]
      dsimp only
      rw [if_neg (fun z => hk z.1), if_neg (fun z => hk z.1), pv, pv]
      congr 1
      · refine List.ext_getElem? fun i => ?_
        rw [putK_get?, putK_get?, putK_get?, putK_get?]
        cases hi : kids[i]? with
        | none => rfl
        | some x =>
          simp only [Option.map_some]
          rw [p_main hn hfu hd N x _ _ (by have := blk_kid (t := .mk k m nm r kids sys) (List.mem_of_getElem? hi); omega) (hfk x (List.mem_of_getElem? hi)) (a1 i x hi) (a3 i _ (by rw [putK_get?, hi]; rfl)) (c1 i x hi) (c3 i _ (by rw [putK_get?, hi]; rfl))]
      · rw [List.map_map, List.map_map]
        refine List.map_congr_left fun bb hb => ?_
        show putB n w k (putB 0 u k bb bv bd) bv bd = putB 0 (putT n w u 0 0) k (putB (n + 1) (liT (sf 1 0) w 0 0) k bb bv bd) bv bd
        unfold putB
        dsimp only
        rw [List.map_map, List.map_map]
        congr 1
        refine List.map_congr_left fun x hx => ?_
        exact p_main hn hfu hd N x _ _ (by have := blk_sub (t := .mk k m nm r kids sys) hb hx; omega) (hfs bb hb x hx) (a2 bb hb x hx) (a4 _ (List.mem_map.2 ⟨bb, hb, rfl⟩) _ (List.mem_map.2 ⟨x, hx, rfl⟩)) (c2 bb hb x hx) (c4 _ (List.mem_map.2 ⟨bb, hb, rfl⟩) _ (List.mem_map.2 ⟨x, hx, rfl⟩))
end Go.Proofs.YtocfamcclfhkcaaGreat

namespace Go.Proofs.YtocfamcclfhkcaaGreat
open Go.RowKit
set_option linter.unusedVariables false
set_option linter.unusedSimpArgs false

def ownT (t : Tm) : Nat := 1 + t.r.length + t.name.size + (t.sys.map fun b => 1 + b.1.length).sum
/-- No node of it holds more than K. -/
def WtP (K : Nat) : Tm → Prop := Tm.fold fun _ _ s r ks sys => 1 + r.length + s.size + (sys.map fun b => 1 + b.1.length).sum ≤ K ∧ (∀ p ∈ ks, p) ∧ ∀ b ∈ sys, ∀ p ∈ b.2, p
theorem wt_eq (K : Nat) (t : Tm) : WtP K t ↔ (ownT t ≤ K ∧ (∀ x ∈ t.kids, WtP K x) ∧ ∀ b ∈ t.sys, ∀ x ∈ b.2, WtP K x) := by
  unfold WtP ownT
  rw [fold_mk]
  simp only [List.mem_map, forall_exists_index, and_imp, forall_apply_eq_imp_iff₂, List.map_map, Function.comp_def]
theorem sum_pt {α : Type} (l : List α) (f g : α → Nat) : (l.map fun b => f b + g b).sum = (l.map f).sum + (l.map g).sum := by
  induction l with
  | nil => rfl
  | cons a l ih => simp only [List.map_cons, List.sum_cons, ih]; omega
theorem blk_own (t : Tm) : blk t = ownT t + blkL t.kids + (t.sys.map fun b => blkL b.2).sum := by
  rw [blk_eq]
  have e : blkS t.sys = (t.sys.map fun b => 1 + b.1.length).sum + (t.sys.map fun b => blkL b.2).sum := sum_pt t.sys (fun b => 1 + b.1.length) (fun b => blkL b.2)
  rw [e]
  unfold ownT
  omega
theorem wt_of_blk {K : Nat} : ∀ (N : Nat) (t : Tm), blk t ≤ N → blk t ≤ K → WtP K t
  | 0, t, h, _ => by have := blk_pos t; omega
  | N + 1, t, h, hK => by
    rw [wt_eq]
    have := blk_own t
    exact ⟨by omega, fun x hx => wt_of_blk N x (by have := blk_kid hx; omega) (by have := blk_kid hx; omega), fun b hb x hx => wt_of_blk N x (by have := blk_sub hb hx; omega) (by have := blk_sub hb hx; omega)⟩
theorem sum_mul {α : Type} {l : List α} {f g : α → Nat} {K : Nat} (h : ∀ x ∈ l, f x ≤ K * g x) : (l.map f).sum ≤ K * (l.map g).sum := by
  induction l with
  | nil => simp
  | cons a l ih =>
    have h1 := h a (by simp)
    have h2 := ih fun x hx => h x (by simp [hx])
    simp only [List.map_cons, List.sum_cons, Nat.mul_add]
    omega
theorem blk_wt {K : Nat} : ∀ (N : Nat) (t : Tm), blk t ≤ N → WtP K t → blk t ≤ K * sizeT t
  | 0, t, h, _ => by have := blk_pos t; omega
  | N + 1, t, h, hw => by
    rw [wt_eq] at hw
    rw [blk_own, size_eq]
    have h1 : blkL t.kids ≤ K * szL t.kids := sum_mul fun x hx => blk_wt N x (by have := blk_kid hx; omega) (hw.2.1 x hx)
    have h2 : (t.sys.map fun b => blkL b.2).sum ≤ K * szS t.sys := sum_mul fun b hb => sum_mul fun x hx => blk_wt N x (by have := blk_sub hb hx; omega) (hw.2.2 b hb x hx)
    have h3 := hw.1
    simp only [Nat.mul_add, Nat.mul_one]
    omega
theorem wt_li {K : Nat} {s : Sf} : ∀ (N : Nat) (t : Tm) (bv bd : Nat), blk t ≤ N → WtP K t → WtP K (liT s t bv bd)
  | 0, t, bv, bd, h, _ => by have := blk_pos t; omega
  | N + 1, t, bv, bd, h, hw => by
    rw [wt_eq] at hw
    rw [li_eq, wt_eq]
    dsimp only
    refine ⟨?_, fun y hy => ?_, fun b hb y hy => ?_⟩
    · have h1 := hw.1
      unfold ownT at h1 ⊢
      dsimp only
      have h2 := rowP_len s bd t.r
      have h3 : ((t.sys.map fun b => liB s t.kind b bv bd).map fun b => 1 + b.1.length).sum ≤ (t.sys.map fun b => 1 + b.1.length).sum := by
        rw [List.map_map]
        exact sumN_le fun b _ => by show 1 + (rowP s bd b.1).1.length ≤ _; have := rowP_len s bd b.1; omega
      omega
    · obtain ⟨i, x, hx, rfl⟩ := mem_liK hy
      exact wt_li N x _ _ (by have := blk_kid (List.mem_of_getElem? hx); omega) (hw.2.1 x (List.mem_of_getElem? hx))
    · obtain ⟨c, hc, rfl⟩ := List.mem_map.1 hb
      obtain ⟨x, hx, rfl⟩ := List.mem_map.1 hy
      exact wt_li N x _ _ (by have := blk_sub hc hx; omega) (hw.2.2 c hc x hx)
theorem size_li {s : Sf} : ∀ (N : Nat) (t : Tm) (bv bd : Nat), blk t ≤ N → sizeT (liT s t bv bd) = sizeT t
  | 0, t, bv, bd, hn => by have := blk_pos t; omega
  | N + 1, t, bv, bd, hn => by
    have e := size_eq (liT s t bv bd)
    rw [li_eq] at e
    rw [li_eq, e, size_eq t]
    dsimp only
    have h2 : szL (liK s t.kind t.kids bv bd) = szL t.kids := by
      unfold szL
      congr 1
      refine List.ext_getElem? fun i => ?_
      rw [List.getElem?_map, List.getElem?_map, liK_get?]
      cases hi : t.kids[i]? with
      | none => rfl
      | some x => simp only [Option.map_some]; rw [size_li N x _ _ (by have := blk_kid (List.mem_of_getElem? hi); omega)]
    have h3 : szS (t.sys.map fun b => liB s t.kind b bv bd) = szS t.sys := by
      unfold szS
      rw [List.map_map]
      congr 1
      refine List.map_congr_left fun b hb => ?_
      show szL (b.2.map fun x => liT s x bv (bd + moreK t.kind)) = szL b.2
      unfold szL
      rw [List.map_map]
      congr 1
      exact List.map_congr_left fun x hx => size_li N x _ _ (by have := blk_sub hb hx; omega)
    rw [h2, h3]
theorem zero_t : blk zeroT = 1 ∧ sizeT zeroT = 1 := by decide +kernel
theorem wt_zero {K : Nat} (h : 1 ≤ K) : WtP K zeroT := wt_of_blk _ _ (Nat.le_refl _) (by rw [zero_t.1]; exact h)
theorem both_any {a d : Int} {u : Tm} : blk (bothT a d u) ≤ blk u ∧ ∀ K, 1 ≤ K → WtP K u → WtP K (bothT a d u) := by
  unfold bothT
  split
  · refine ⟨Nat.le_trans (blk_li _ _ 0 0 (Nat.le_refl _)) (blk_li _ _ 0 0 (Nat.le_refl _)), fun K hK hw => wt_li _ _ 0 0 (Nat.le_refl _) (wt_li _ _ 0 0 (Nat.le_refl _) hw)⟩
  · exact ⟨by rw [zero_t.1]; exact blk_pos u, fun K hK _ => wt_zero hK⟩
theorem wt_put {K : Nat} (hK : 1 ≤ K) {n : Int} {u : Tm} (hu : WtP K u) : ∀ (N : Nat) (t : Tm) (bv bd : Nat), blk t ≤ N → WtP K t → WtP K (putT n u t bv bd)
  | 0, t, bv, bd, h, _ => by have := blk_pos t; omega
  | N + 1, t, bv, bd, h, hw => by
    rw [put_eq]
    split
    · exact both_any.2 K hK hu
    · rw [wt_eq] at hw ⊢
      dsimp only
      refine ⟨?_, fun y hy => ?_, fun b hb y hy => ?_⟩
      · have h1 := hw.1
        unfold ownT at h1 ⊢
        dsimp only
        rw [List.map_map]
        exact h1
      · obtain ⟨i, hi⟩ := List.mem_iff_getElem?.1 hy
        rw [putK_get?] at hi
        cases hx : t.kids[i]? with
        | none => rw [hx] at hi; cases hi
        | some x =>
          rw [hx] at hi
          cases hi
          exact wt_put hK hu N x _ _ (by have := blk_kid (List.mem_of_getElem? hx); omega) (hw.2.1 x (List.mem_of_getElem? hx))
      · obtain ⟨c, hc, rfl⟩ := List.mem_map.1 hb
        obtain ⟨x, hx, rfl⟩ := List.mem_map.1 hy
        exact wt_put hK hu N x _ _ (by have := blk_sub hc hx; omega) (hw.2.2 c hc x hx)
theorem sum_addmul {α : Type} {l : List α} {f g c : α → Nat} {U : Nat} (h : ∀ x ∈ l, f x ≤ g x + c x * U) : (l.map f).sum ≤ (l.map g).sum + (l.map c).sum * U := by
  induction l with
  | nil => simp
  | cons a l ih =>
    have h1 := h a (by simp)
    have h2 := ih fun x hx => h x (by simp [hx])
    simp only [List.map_cons, List.sum_cons, Nat.add_mul]
    omega
theorem zip_sum (l : List Tm) (f : Tm → Nat → Nat) (i : Nat) : ((l.zipIdx i).map fun p => f p.1 p.2).sum = ((l.zipIdx i).map fun p => f p.1 p.2).sum := rfl
theorem zip_kids {l : List Tm} {f : Tm → Nat} : ((l.zipIdx).map fun p => f p.1) = l.map f := by
  refine List.ext_getElem? fun i => ?_
  rw [List.getElem?_map, List.getElem?_zipIdx, List.getElem?_map]
  cases l[i]? <;> simp
theorem blk_put {n : Int} {u : Tm} : ∀ (N : Nat) (t : Tm) (bv bd : Nat), blk t ≤ N → blk (putT n u t bv bd) ≤ blk t + cnP n t bv * blk u
  | 0, t, bv, bd, h => by have := blk_pos t; omega
  | N + 1, t, bv, bd, h => by
    rw [put_eq, cn_eq]
    by_cases hc : t.kind = 1 ∧ t.n - (bv : Int) = n
    · rw [if_pos hc, if_pos hc]
      have := (both_any (a := (bv : Int)) (d := (bd : Int)) (u := u)).1
      have h2 : 1 * blk u ≤ (1 + ((cnK n t.kind t.kids bv).sum + (t.sys.map fun b => (cnL n b.2 bv).sum).sum)) * blk u := Nat.mul_le_mul_right _ (by omega)
      omega
    · rw [if_neg hc, if_neg hc, blk_own, blk_own t]
      dsimp only
      have h1 : ownT (.mk t.kind (pnV n bv t.kind t.n) t.name t.r (putK n u t.kind t.kids bv bd) (t.sys.map fun b => putB n u t.kind b bv bd)) = ownT t := by
        unfold ownT
        dsimp only
        rw [List.map_map]
        rfl
      have h2 : blkL (putK n u t.kind t.kids bv bd) ≤ blkL t.kids + (cnK n t.kind t.kids bv).sum * blk u := by
        unfold blkL putK cnK
        rw [List.map_map, ← zip_kids (l := t.kids) (f := blk)]
        exact sum_addmul fun p hp => blk_put N p.1 _ _ (by have := blk_kid (zip_mem hp); omega)
      have h3 : ((t.sys.map fun b => putB n u t.kind b bv bd).map fun b => blkL b.2).sum ≤ (t.sys.map fun b => blkL b.2).sum + (t.sys.map fun b => (cnL n b.2 bv).sum).sum * blk u := by
        rw [List.map_map]
        refine sum_addmul fun b hb => ?_
        show blkL (b.2.map fun x => putT n u x bv (bd + moreK t.kind)) ≤ _
        unfold blkL cnL
        rw [List.map_map]
        exact sum_addmul fun x hx => blk_put N x _ _ (by have := blk_sub hb hx; omega)
      rw [h1, Nat.zero_add, Nat.add_mul]
      omega
theorem size_both {a d : Nat} {u : Tm} (h : bothE (a : Int) (d : Int) u = 0) : sizeT (bothT (a : Int) (d : Int) u) = sizeT u := by
  rw [(both_li h).1]
  exact size_li _ u 0 0 (Nat.le_refl _)
theorem sum_eqmul {α : Type} {l : List α} {f g c : α → Nat} {U : Nat} (h : ∀ x ∈ l, f x + c x = g x + c x * U) : (l.map f).sum + (l.map c).sum = (l.map g).sum + (l.map c).sum * U := by
  induction l with
  | nil => simp
  | cons a l ih =>
    have h1 := h a (by simp)
    have h2 := ih fun x hx => h x (by simp [hx])
    simp only [List.map_cons, List.sum_cons, Nat.add_mul]
    omega
theorem size_put {n : Int} {u : Tm} : ∀ (N : Nat) (t : Tm) (bv bd : Nat), blk t ≤ N → Fp t → eP n u t bv bd = 0 → sizeT (putT n u t bv bd) + cnP n t bv = sizeT t + cnP n t bv * sizeT u
  | 0, t, bv, bd, h, _, _ => by have := blk_pos t; omega
  | N + 1, t, bv, bd, h, hf, he => by
    obtain ⟨hn0, hvk, hfk, hfs⟩ := (fp_eq t).1 hf
    rw [put_eq, cn_eq]
    by_cases hk : t.kind = 1
    · obtain ⟨e1, e2⟩ := hvk hk
      have z1 : (cnK n t.kind t.kids bv).sum = 0 := by rw [e1]; rfl
      have z2 : (t.sys.map fun b => (cnL n b.2 bv).sum).sum = 0 := by rw [e2]; rfl
      have z3 : sizeT t = 1 := by rw [size_eq, e1, e2]; rfl
      rw [z1, z2, z3]
      rw [eP_eq, if_pos hk] at he
      by_cases hc : t.n - (bv : Int) = n
      · rw [if_pos hc] at he
        rw [if_pos ⟨hk, hc⟩, if_pos ⟨hk, hc⟩, size_both he]
        omega
      · rw [if_neg (fun z => hc z.2), if_neg (fun z => hc z.2), size_eq]
        dsimp only
        rw [e1, e2]
        show 1 + (szL (putK n u t.kind [] bv bd) + szS []) + _ = _
        have : szL (putK n u t.kind [] bv bd) = 0 := rfl
        have q2 : szS [] = 0 := rfl
        rw [this, q2]
        omega
    · obtain ⟨a1, a2⟩ := eP_kid he hk
      rw [if_neg (fun z => hk z.1), if_neg (fun z => hk z.1), size_eq, size_eq t]
      dsimp only
      have h2 : szL (putK n u t.kind t.kids bv bd) + (cnK n t.kind t.kids bv).sum = szL t.kids + (cnK n t.kind t.kids bv).sum * sizeT u := by
        unfold szL putK cnK
        rw [List.map_map, ← zip_kids (l := t.kids) (f := sizeT)]
        refine sum_eqmul fun p hp => ?_
        have hp' := List.mem_zipIdx_iff_getElem?.1 hp
        exact size_put N p.1 _ _ (by have := blk_kid (zip_mem hp); omega) (hfk _ (zip_mem hp)) (a1 p.2 p.1 hp')
      have h3 : szS (t.sys.map fun b => putB n u t.kind b bv bd) + (t.sys.map fun b => (cnL n b.2 bv).sum).sum = szS t.sys + (t.sys.map fun b => (cnL n b.2 bv).sum).sum * sizeT u := by
        unfold szS
        rw [List.map_map]
        refine sum_eqmul fun b hb => ?_
        show szL (b.2.map fun x => putT n u x bv (bd + moreK t.kind)) + (cnL n b.2 bv).sum = szL b.2 + (cnL n b.2 bv).sum * sizeT u
        unfold szL cnL
        rw [List.map_map]
        exact sum_eqmul fun x hx => size_put N x _ _ (by have := blk_sub hb hx; omega) (hfs b hb x hx) (a2 b hb x hx)
      simp only [Nat.zero_add, Nat.add_mul]
      omega
end Go.Proofs.YtocfamcclfhkcaaGreat

