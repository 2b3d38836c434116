/- Plain mathematics for the layer formula: the least row as a function, formulas that may be, what two make. Nothing of the program is imported. -/
import Derived.Test.YtkklmioejgpknaaCLst
namespace Go.Proofs.Ytkklmioejgpknaa
set_option linter.unusedVariables false
set_option linter.unusedSimpArgs false

/-! ### the least row as a function -/
def insC (c : C) : List C → List C
  | [] => [c]
  | d :: l => if ltC c d then c :: d :: l else if c = d then d :: l else d :: insC c l
theorem mem_insC {c x : C} : ∀ {l : List C}, x ∈ insC c l ↔ x = c ∨ x ∈ l
  | [] => by simp [insC]
  | d :: l => by
    unfold insC
    split
    · simp
    · split
      · rename_i h; subst h; simp
      · rw [List.mem_cons, mem_insC (l := l), List.mem_cons]
        exact ⟨fun h => h.elim (fun h => .inr (.inl h)) (fun h => h.elim .inl (fun h => .inr (.inr h))), fun h => h.elim (fun h => .inr (.inl h)) (fun h => h.elim .inl (fun h => .inr (.inr h)))⟩
theorem rises_insC {c : C} : ∀ {l : List C}, risesC l → risesC (insC c l)
  | [], _ => by simp [insC, risesC]
  | d :: l, h => by
    have h' := List.pairwise_cons.1 h
    unfold insC
    split
    · rename_i hlt
      refine List.pairwise_cons.2 ⟨fun x hx => ?_, h⟩
      rcases List.mem_cons.1 hx with rfl | hx
      · exact hlt
      · exact ltC_trans hlt (h'.1 x hx)
    · rename_i hlt
      split
      · exact h
      · rename_i hne
        refine List.pairwise_cons.2 ⟨fun x hx => ?_, rises_insC h'.2⟩
        rcases mem_insC.1 hx with rfl | hx
        · cases hdc : ltC d x
          · exact absurd (ltC_total (by simpa using hlt) hdc) hne
          · rfl
        · exact h'.1 x hx
def ordC (l : List C) : List C := l.foldr insC []
theorem mem_ordC {x : C} : ∀ {l : List C}, x ∈ ordC l ↔ x ∈ l
  | [] => by simp [ordC]
  | c :: l => by
    show x ∈ insC c (ordC l) ↔ _
    rw [mem_insC, mem_ordC (l := l), List.mem_cons]
theorem rises_ordC : ∀ (l : List C), risesC (ordC l)
  | [] => List.Pairwise.nil
  | c :: l => rises_insC (rises_ordC l)
def lstN (l : List C) : List C := keepAll (ordC l)
theorem lstN_is {l : List C} (hr : l.all rightC = true) : IsLeast l (lstN l) :=
  isLeast_keepAll (fun c hc => List.all_eq_true.1 hr c hc) (rises_ordC l) (fun _ => mem_ordC)
/-- What is told of a row: its least row and 0, or none and why. -/
def leastF (l : List C) : List C × Int := if l.all rightC then (if (lstN l).length ≤ 64 then (lstN l, 0) else ([], 3)) else ([], 2)
theorem leastF_of {l M : List C} {er : Int} (h : LeastIs l M er) : leastF l = (M, er) := by
  unfold leastF
  rcases h with ⟨a, rfl, rfl⟩ | ⟨a, N, hN, hh⟩
  · rw [a]; rfl
  · have e := hN.unique (lstN_is a)
    subst e
    rw [a]
    rcases hh with ⟨b, rfl, rfl⟩ | ⟨b, rfl, rfl⟩
    · simp [b]
    · simp [Nat.not_le.2 b]
theorem leastF_is (l : List C) : LeastIs l (leastF l).1 (leastF l).2 := by
  unfold leastF
  cases h : l.all rightC
  · exact .inl ⟨h, rfl, rfl⟩
  · refine .inr ⟨h, _, lstN_is h, ?_⟩
    by_cases h2 : (lstN l).length ≤ 64
    · simp [h2]
    · simp [h2]; omega
theorem leastF_cases {l : List C} (hr : l.all rightC = true) : ((leastF l).2 = 0 ∧ (leastF l).1 = lstN l ∧ (lstN l).length ≤ 64) ∨ leastF l = ([], 3) := by
  unfold leastF
  rw [hr]
  by_cases h2 : (lstN l).length ≤ 64
  · left; simp [h2]
  · right; simp [h2]
theorem leastF_len (l : List C) : (leastF l).1.length ≤ 64 := (leastF_is l).length_le
theorem leastF_no {l : List C} (h : (leastF l).2 ≠ 0) : (leastF l).1 = [] := ((er_cases (leastF_is l)).resolve_left h).1

/-! ### what is below a row -/
def dn (l : List C) (c : C) : Prop := ∃ d ∈ l, belC c d = true
theorem dn_append {l m : List C} {c : C} : dn (l ++ m) c ↔ dn l c ∨ dn m c := by
  unfold dn
  simp only [List.mem_append]
  exact ⟨fun ⟨d, h, hb⟩ => h.elim (fun h => .inl ⟨d, h, hb⟩) (fun h => .inr ⟨d, h, hb⟩), fun h => h.elim (fun ⟨d, h, hb⟩ => ⟨d, .inl h, hb⟩) (fun ⟨d, h, hb⟩ => ⟨d, .inr h, hb⟩)⟩
theorem dn_mono {l : List C} {c d : C} (hb : belC c d = true) (h : dn l d) : dn l c := by
  obtain ⟨x, hx, hxb⟩ := h
  exact ⟨x, hx, belC_trans hb hxb⟩
theorem IsLeast.dn_iff {l M : List C} (hr : l.all rightC = true) (h : IsLeast l M) (c : C) : dn M c ↔ dn l c := by
  constructor
  · rintro ⟨d, hd, hb⟩
    exact ⟨d, ((h.mem d).1 hd).1, hb⟩
  · rintro ⟨d, hd, hb⟩
    obtain ⟨e, he, hb2⟩ := covers (fun c hc => List.all_eq_true.1 hr c hc) h (meas d + 1) d (Nat.lt_succ_self _) hd
    exact ⟨e, he, belC_trans hb hb2⟩
theorem least_ext {l l' M M' : List C} (hr : l.all rightC = true) (hr' : l'.all rightC = true) (h : IsLeast l M) (h' : IsLeast l' M') (hd : ∀ c, rightC c = true → (dn l c ↔ dn l' c)) : M = M' := by
  have key : ∀ {l l' M M' : List C}, l.all rightC = true → l'.all rightC = true → IsLeast l M → IsLeast l' M' → (∀ c, rightC c = true → (dn l c ↔ dn l' c)) → ∀ c, c ∈ M → c ∈ M' := by
    intro l l' M M' hr hr' h h' hd c hc
    have rM : ∀ x ∈ M, rightC x = true := fun x hx => List.all_eq_true.1 hr x ((h.mem x).1 hx).1
    have rM' : ∀ x ∈ M', rightC x = true := fun x hx => List.all_eq_true.1 hr' x ((h'.mem x).1 hx).1
    obtain ⟨d, hd1, hd2⟩ := (h'.dn_iff hr' c).2 ((hd c (rM c hc)).1 ((h.dn_iff hr c).1 ⟨c, hc, belC_refl c⟩))
    obtain ⟨e, he1, he2⟩ := (h.dn_iff hr d).2 ((hd d (rM' d hd1)).2 ((h'.dn_iff hr' d).1 ⟨d, hd1, belC_refl d⟩))
    have hce : e = c := needed_iff.1 ((h.mem c).1 hc).2 e ((h.mem e).1 he1).1 (belC_trans hd2 he2)
    subst hce
    have := bel_antisymm (rM e hc) (rM' d hd1) hd2 he2
    rwa [this]
  exact rises_ext h.rises h'.rises (fun c => ⟨key hr hr' h h' hd c, key hr' hr h' h (fun c hc => (hd c hc).symm) c⟩)
theorem leastF_ext {l l' : List C} (hr : l.all rightC = true) (hr' : l'.all rightC = true) (hd : ∀ c, rightC c = true → (dn l c ↔ dn l' c)) : leastF l = leastF l' := by
  have e := least_ext hr hr' (lstN_is hr) (lstN_is hr') hd
  unfold leastF
  rw [hr, hr', e]
theorem leastF_congr {l l' : List C} (h : ∀ c, c ∈ l ↔ c ∈ l') : leastF l = leastF l' := by
  have ha : l.all rightC = l'.all rightC := by
    rw [Bool.eq_iff_iff, List.all_eq_true, List.all_eq_true]
    exact ⟨fun hh c hc => hh c ((h c).2 hc), fun hh c hc => hh c ((h c).1 hc)⟩
  cases hr : l.all rightC
  · unfold leastF
    rw [← ha, hr]; rfl
  · refine leastF_ext hr (ha ▸ hr) (fun c _ => ?_)
    exact ⟨fun ⟨d, hd, hb⟩ => ⟨d, (h d).1 hd, hb⟩, fun ⟨d, hd, hb⟩ => ⟨d, (h d).2 hd, hb⟩⟩

/-! ### formulas that may be -/
def rightF (f : List C) : Bool := decide (leastF f = (f, 0))
/-- All of what the code asks, clause by clause. -/
structure PreOk (f : List C) : Prop where
  right : f.all rightC = true
  rises : risesC f
  need : ∀ c ∈ f, neededB f c = true
theorem PreOk.least {f : List C} (h : PreOk f) : IsLeast f f := ⟨h.rises, fun c => ⟨fun hc => ⟨hc, h.need c hc⟩, fun hc => hc.1⟩⟩
theorem PreOk.lst {f : List C} (h : PreOk f) : lstN f = f := (lstN_is h.right).unique h.least
theorem rightF_iff {f : List C} : rightF f = true ↔ PreOk f ∧ f.length ≤ 64 := by
  unfold rightF
  rw [decide_eq_true_eq]
  constructor
  · intro h
    have hi := leastF_is f
    rw [h] at hi
    rcases hi with ⟨_, _, h0⟩ | ⟨a, N, hN, ⟨b, e, _⟩ | ⟨_, _, h0⟩⟩
    · exact absurd (show (0:Int) = 2 from h0) (by decide)
    · have e : f = N := e
      subst e
      exact ⟨⟨a, hN.rises, fun c hc => ((hN.mem c).1 hc).2⟩, b⟩
    · exact absurd (show (0:Int) = 3 from h0) (by decide)
  · rintro ⟨h, hl⟩
    unfold leastF
    rw [h.right, h.lst]
    simp [hl]
theorem rightF_eq {f : List C} (h : rightF f = true) : leastF f = (f, 0) := by simpa [rightF] using h
theorem PreOk.nil : PreOk [] := ⟨rfl, List.Pairwise.nil, fun c hc => by simp at hc⟩
theorem PreOk.snoc {f : List C} {c : C} : PreOk (f ++ [c]) ↔ PreOk f ∧ rightC c = true ∧ (∀ d, f.getLast? = some d → ltC d c = true) ∧ f.any (fun b => belC c b) = false := by
  constructor
  · intro h
    have hr := List.all_eq_true.1 h.right
    have hp := List.pairwise_append.1 h.rises
    have hlt : ∀ d ∈ f, ltC d c = true := fun d hd => hp.2.2 d hd c (by simp)
    refine ⟨⟨List.all_eq_true.2 (fun x hx => hr x (by simp [hx])), hp.1, fun x hx => ?_⟩, hr c (by simp), fun d hd => hlt d (List.mem_of_getLast? hd), ?_⟩
    · have := needed_iff.1 (h.need x (by simp [hx]))
      exact needed_iff.2 (fun d hd hb => this d (by simp [hd]) hb)
    · rw [List.any_eq_false]
      intro b hb hbel
      have := needed_iff.1 (h.need c (by simp)) b (by simp [hb]) (by simpa using hbel)
      exact absurd this (ltC_ne (hlt b hb))
  · rintro ⟨h, hc, hl, ha⟩
    have hlt : ∀ d ∈ f, ltC d c = true := by
      intro d hd
      rcases List.eq_nil_or_concat f with rfl | ⟨g, x, rfl⟩
      · simp at hd
      · simp only [List.concat_eq_append] at *
        have hx := hl x (by simp)
        rcases List.mem_append.1 hd with hd | hd
        · exact ltC_trans ((List.pairwise_append.1 h.rises).2.2 d hd x (by simp)) hx
        · obtain rfl : d = x := by simpa using hd
          exact hx
    rw [List.any_eq_false] at ha
    refine ⟨?_, ?_, ?_⟩
    · rw [List.all_append, h.right]; simp [hc]
    · refine List.pairwise_append.2 ⟨h.rises, List.pairwise_singleton _ _, fun a ha2 b hb => ?_⟩
      rw [List.mem_singleton.1 hb]
      exact hlt a ha2
    · intro x hx
      rw [needed_iff]
      intro d hd hb
      rcases List.mem_append.1 hx with hx | hx
      · rcases List.mem_append.1 hd with hd | hd
        · exact needed_iff.1 (h.need x hx) d hd hb
        · rw [List.mem_singleton.1 hd] at hb ⊢
          by_cases e : x = c
          · exact e.symm
          · have := bel_lt hc hb e
            rw [ltC_asymm (hlt x hx)] at this
            exact absurd this (by simp)
      · rw [List.mem_singleton.1 hx] at hb ⊢
        rcases List.mem_append.1 hd with hd | hd
        · exact absurd hb (ha d hd)
        · exact List.mem_singleton.1 hd
theorem PreOk.take {f : List C} (h : PreOk f) (k : Nat) : PreOk (f.take k) :=
  ⟨List.all_eq_true.2 (fun x hx => List.all_eq_true.1 h.right x (List.mem_of_mem_take hx)), h.rises.sublist (List.take_sublist _ _), fun x hx => needed_iff.2 (fun d hd hb => needed_iff.1 (h.need x (List.mem_of_mem_take hx)) d (List.mem_of_mem_take hd) hb)⟩
theorem PreOk.of_least {l M : List C} (hr : l.all rightC = true) (h : IsLeast l M) : PreOk M :=
  ⟨List.all_eq_true.2 (fun x hx => List.all_eq_true.1 hr x ((h.mem x).1 hx).1), h.rises, fun x hx => needed_iff.2 (fun d hd hb => needed_iff.1 ((h.mem x).1 hx).2 d ((h.mem d).1 hd).1 hb)⟩
theorem rightF_nil : rightF [] = true := rightF_iff.2 ⟨PreOk.nil, by simp⟩
theorem rightF_all {f : List C} (h : rightF f = true) : f.all rightC = true := (rightF_iff.1 h).1.right
theorem rightF_len {f : List C} (h : rightF f = true) : f.length ≤ 64 := (rightF_iff.1 h).2
theorem leastF_right (l : List C) : rightF (leastF l).1 = true := by
  cases h : l.all rightC
  · have : leastF l = ([], 2) := by unfold leastF; rw [h]; rfl
    rw [this]; exact rightF_nil
  · rcases leastF_cases h with ⟨_, e, hl⟩ | e
    · rw [e]; exact rightF_iff.2 ⟨PreOk.of_least h (lstN_is h), hl⟩
    · rw [e]; exact rightF_nil
theorem leastF_all (l : List C) : (leastF l).1.all rightC = true := rightF_all (leastF_right l)
theorem leastF_dn {l : List C} (h : (leastF l).2 = 0) (c : C) : dn (leastF l).1 c ↔ dn l c := by
  rcases leastF_is l with ⟨_, _, e⟩ | ⟨a, N, hN, ⟨_, e, _⟩ | ⟨_, _, e⟩⟩
  · omega
  · rw [e]; exact hN.dn_iff a c
  · omega
theorem leastF_told {l : List C} (h : (leastF l).2 = 0) : l.all rightC = true := by
  rcases leastF_is l with ⟨_, _, e⟩ | ⟨a, _⟩
  · omega
  · exact a
theorem leastF_pair {l : List C} (h : (leastF l).2 = 0) : leastF l = ((leastF l).1, 0) := by rw [← h]
theorem lstN_sub {l : List C} : ∀ c ∈ lstN l, c ∈ l := fun c hc => mem_ordC.1 (keepAll_mem_of c hc)
theorem leastF_sub {l : List C} : ∀ c ∈ (leastF l).1, c ∈ l := fun c hc => by
  unfold leastF at hc
  split at hc
  · split at hc
    · exact lstN_sub c hc
    · simp at hc
  · simp at hc
theorem insC_length (c : C) : ∀ l : List C, (insC c l).length ≤ l.length + 1
  | [] => by simp [insC]
  | d :: l => by
    unfold insC
    split
    · simp
    · split
      · simp
      · have := insC_length c l; simp; omega
theorem ordC_length : ∀ l : List C, (ordC l).length ≤ l.length
  | [] => by simp [ordC]
  | c :: l => by
    have h1 := ordC_length l
    have h2 := insC_length c (ordC l)
    show (insC c (ordC l)).length ≤ l.length + 1
    omega
theorem lstN_length (l : List C) : (lstN l).length ≤ l.length :=
  Nat.le_trans (keepAll_sublist.length_le) (ordC_length l)
theorem leastF_small {l : List C} (hr : l.all rightC = true) (h : l.length ≤ 64) : leastF l = (lstN l, 0) := by
  have := lstN_length l
  unfold leastF
  rw [hr]
  simp [show (lstN l).length ≤ 64 by omega]
theorem leastF_one {c : C} (h : rightC c = true) : leastF [c] = ([c], 0) := by
  have : rightF [c] = true := rightF_iff.2 ⟨(PreOk.snoc (f := [])).2 ⟨PreOk.nil, h, fun d hd => by simp at hd, rfl⟩, by simp⟩
  exact rightF_eq this
theorem top_right : rightC top0 = true := by decide
theorem rightF_one {c : C} (h : rightC c = true) : rightF [c] = true := by
  unfold rightF; rw [leastF_one h]; simp

/-! ### what two make -/
def pairsC (f g : List C) : List C := f.flatMap (fun a => g.map (meetC a))
theorem pairs_right (f g : List C) : (pairsC f g).all rightC = true := by
  rw [List.all_eq_true]
  intro x hx
  obtain ⟨a, _, ha⟩ := List.mem_flatMap.1 hx
  obtain ⟨b, _, rfl⟩ := List.mem_map.1 ha
  exact meet_right a b
theorem pairs_length (f g : List C) : (pairsC f g).length = f.length * g.length := by
  induction f with
  | nil => simp [pairsC]
  | cons a f ih =>
    have e : pairsC (a :: f) g = g.map (meetC a) ++ pairsC f g := rfl
    rw [e, List.length_append, ih, List.length_map, List.length_cons, Nat.succ_mul, Nat.add_comm]
theorem bel_meet {c a b : C} : belC c (meetC a b) = true ↔ belC c a = true ∧ belC c b = true := by
  rw [belC_iff, belC_iff, belC_iff]
  have hp : ∀ k, k < 24 → (meetC a b).1.val.testBit k = (a.1.val.testBit k || b.1.val.testBit k) := fun k hk => by
    show (meetP a b).testBit k = _
    unfold meetP
    rw [testBit_low, Nat.testBit_or]; simp [hk]
  have hn : ∀ k, k < 24 → (meetC a b).2.val.testBit k = (a.2.val.testBit k || b.2.val.testBit k) := fun k hk => by
    show (meetN a b).testBit k = _
    unfold meetN
    rw [testBit_low, Nat.testBit_or]; simp [hk]
  constructor
  · rintro ⟨h1, h2⟩
    exact ⟨⟨fun k hk h => h1 k hk (by rw [hp k hk, h]; rfl), fun k hk h => h2 k hk (by rw [hn k hk, h]; rfl)⟩, ⟨fun k hk h => h1 k hk (by rw [hp k hk, h]; simp), fun k hk h => h2 k hk (by rw [hn k hk, h]; simp)⟩⟩
  · rintro ⟨⟨h1, h2⟩, ⟨h3, h4⟩⟩
    refine ⟨fun k hk h => ?_, fun k hk h => ?_⟩
    · rw [hp k hk, Bool.or_eq_true] at h
      exact h.elim (h1 k hk) (h3 k hk)
    · rw [hn k hk, Bool.or_eq_true] at h
      exact h.elim (h2 k hk) (h4 k hk)
theorem dn_pairs {f g : List C} {c : C} : dn (pairsC f g) c ↔ dn f c ∧ dn g c := by
  constructor
  · rintro ⟨x, hx, hb⟩
    obtain ⟨a, ha, hx⟩ := List.mem_flatMap.1 hx
    obtain ⟨b, hb', rfl⟩ := List.mem_map.1 hx
    have := bel_meet.1 hb
    exact ⟨⟨a, ha, this.1⟩, ⟨b, hb', this.2⟩⟩
  · rintro ⟨⟨a, ha, h1⟩, ⟨b, hb, h2⟩⟩
    exact ⟨meetC a b, List.mem_flatMap.2 ⟨a, ha, List.mem_map.2 ⟨b, hb, rfl⟩⟩, bel_meet.2 ⟨h1, h2⟩⟩
def joinR (f g : List C) : List C × Int := leastF (f ++ g)
def meetR (f g : List C) : List C × Int := leastF (pairsC f g)
def joinF (f g : List C) : List C × Int := if rightF f && rightF g then joinR f g else ([], 2)
def meetF (f g : List C) : List C × Int := if rightF f && rightF g then meetR f g else ([], 2)
theorem joinF_ok {f g : List C} (hf : rightF f = true) (hg : rightF g = true) : joinF f g = joinR f g := by simp [joinF, hf, hg]
theorem meetF_ok {f g : List C} (hf : rightF f = true) (hg : rightF g = true) : meetF f g = meetR f g := by simp [meetF, hf, hg]
theorem joinF_told {f g : List C} (h : (joinF f g).2 = 0) : rightF f = true ∧ rightF g = true := by
  unfold joinF at h
  split at h
  · rename_i h2; simpa using h2
  · simp at h
theorem meetF_told {f g : List C} (h : (meetF f g).2 = 0) : rightF f = true ∧ rightF g = true := by
  unfold meetF at h
  split at h
  · rename_i h2; simpa using h2
  · simp at h
theorem joinF_right (f g : List C) : rightF (joinF f g).1 = true := by
  unfold joinF
  split
  · exact leastF_right _
  · exact rightF_nil
theorem meetF_right (f g : List C) : rightF (meetF f g).1 = true := by
  unfold meetF
  split
  · exact leastF_right _
  · exact rightF_nil
theorem joinF_len (f g : List C) : (joinF f g).1.length ≤ 64 := rightF_len (joinF_right f g)
theorem meetF_len (f g : List C) : (meetF f g).1.length ≤ 64 := rightF_len (meetF_right f g)
theorem append_right {f g : List C} (hf : rightF f = true) (hg : rightF g = true) : (f ++ g).all rightC = true := by
  rw [List.all_append, rightF_all hf, rightF_all hg]; rfl
theorem joinF_dn {f g : List C} (h : (joinF f g).2 = 0) (c : C) : dn (joinF f g).1 c ↔ dn f c ∨ dn g c := by
  obtain ⟨hf, hg⟩ := joinF_told h
  rw [joinF_ok hf hg] at h ⊢
  rw [← dn_append]
  exact leastF_dn h c
theorem meetF_dn {f g : List C} (h : (meetF f g).2 = 0) (c : C) : dn (meetF f g).1 c ↔ dn f c ∧ dn g c := by
  obtain ⟨hf, hg⟩ := meetF_told h
  rw [meetF_ok hf hg] at h ⊢
  rw [← dn_pairs]
  exact leastF_dn h c
/-- Two formulas with the same below them are the same. -/
theorem rightF_ext {f g : List C} (hf : rightF f = true) (hg : rightF g = true) (h : ∀ c, rightC c = true → (dn f c ↔ dn g c)) : f = g :=
  least_ext (rightF_all hf) (rightF_all hg) (rightF_iff.1 hf).1.least (rightF_iff.1 hg).1.least h
end Go.Proofs.Ytkklmioejgpknaa
