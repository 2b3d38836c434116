/- The plain mathematics of layer 6, further: a line feed and one byte more behind a text; the table of signs; the document's way to tell whole scalar values. -/
import Derived.Test.YtahnbigkdfmpbaaDoorLMathB
namespace Go.Proofs.YtahnbigkdfmpbaaDoor
set_option linter.unusedVariables false
set_option linter.unusedSimpArgs false

/-! ### one byte more -/
theorem dash_app (t r : Bs) : dash (t ++ 10 :: r) = dash t := by
  cases t with
  | nil => rfl
  | cons d t => rfl
theorem passN_app (m : Bool) (l r : Bs) : passN m (l ++ 10 :: r) = if passN m l < l.length then passN m l else l.length + 1 + passN false r := by
  induction l generalizing m with
  | nil => cases m <;> simp [passN, blankB]
  | cons c t ih =>
    cases m
    · by_cases hb : blankB c = true
      · rw [List.cons_append, passN_blank hb, passN_blank hb, ih false, List.length_cons]
        split <;> split <;> omega
      · have hb : blankB c = false := by simpa using hb
        by_cases hd : c.toNat = 45 ∧ dash t = true
        · have e : ∀ u, dash u = true → passN false (c :: u) = 1 + passN true u := fun u hu => by simp [passN, hb, hd.1, hu]
          rw [List.cons_append, e _ (by rw [dash_app]; exact hd.2), e _ hd.2, ih true, List.length_cons]
          split <;> split <;> omega
        · rw [List.cons_append, passN_stop hb (by rw [dash_app]; exact hd), passN_stop hb hd]
          simp
    · have e : ∀ u, passN true (c :: u) = 1 + passN (!decide (c.toNat = 10)) u := fun _ => rfl
      rw [List.cons_append, e, e, ih, List.length_cons]
      by_cases hq : passN (!decide (c.toNat = 10)) t < t.length
      · rw [if_pos hq, if_pos (by omega)]
      · rw [if_neg hq, if_neg (by omega)]; omega
theorem word_app (t r : Bs) : wordN (t ++ 10 :: r) = wordN t := by
  induction t with
  | nil => simp [wordN, letterB, digitB]
  | cons c t ih => simp only [List.cons_append, wordN, ih]
theorem two_app (c : UInt8) (t r : Bs) : twoB c (t ++ 10 :: r) = twoB c t := by
  cases t with
  | nil => simp [twoB]
  | cons d t => rfl
theorem tok_app (l r : Bs) (h : l ≠ []) : tokN (l ++ 10 :: r) = tokN l := by
  cases l with
  | nil => exact absurd rfl h
  | cons c t =>
    have e1 : nameN (c :: t ++ 10 :: r) = nameN (c :: t) := by simp only [List.cons_append, nameN, word_app]
    have e2 : signN (c :: t ++ 10 :: r) = signN (c :: t) := by simp only [List.cons_append, signN, two_app]
    rw [tokN, tokN, e1, e2]
def knownB (c : UInt8) : Bool := blankB c || decide (tokN [c] ≠ 0)
theorem scan_last (f q : Nat) (c : UInt8) : (knownB c = true → ∃ ts, scanQ (f + 2) q [c] = .inr ts) ∧ (knownB c = false → scanQ (f + 2) q [c] = .inl q) := by
  by_cases hb : blankB c = true
  · have hp : passN false [c] = 1 := by rw [passN_blank hb]; rfl
    refine ⟨fun _ => ⟨_, by rw [scanQ, hp]; exact scanP_nil _ _⟩, fun h => by simp [knownB, hb] at h⟩
  · have hb : blankB c = false := by simpa using hb
    have hp : passN false [c] = 0 := passN_stop hb (by simp [dash])
    have hk : knownB c = decide (tokN [c] ≠ 0) := by simp [knownB, hb]
    rw [scanQ, hp, List.drop_zero, Nat.add_zero, hk]
    have hle := tokN_le [c]
    refine ⟨fun h => ?_, fun h => scanP_bad _ _ _ (by simp) (by simpa using h)⟩
    have hn : tokN [c] ≠ 0 := by simpa using h
    have h1 : tokN [c] = 1 := by simp at hle; omega
    rw [scanP_tok _ _ _ (by simp) hn, h1]
    have e : scanQ (f + 1) (q + 1) (List.drop 1 [c]) = .inr [⟨0, [], q + 1⟩] := rfl
    rw [e]
    exact ⟨_, rfl⟩
theorem scan_more (c : UInt8) : ∀ (n : Nat) (l : Bs) (f g p : Nat) (ts : List Tok), l.length ≤ n → scanQ f p l = .inr ts → l.length + 2 < g →
    (knownB c = true → ∃ us, scanQ g p (l ++ [10, c]) = .inr us) ∧ (knownB c = false → scanQ g p (l ++ [10, c]) = .inl (p + l.length + 1)) := by
  intro n
  induction n with
  | zero =>
    intro l f g p ts hl h hg
    obtain rfl : l = [] := List.length_eq_zero_iff.1 (by omega)
    have e : scanQ g p ([] ++ [10, c]) = scanQ g (p + 1) [c] := by
      rw [List.nil_append, scanQ, scanQ, passN_blank (c := 10) (by decide)]
      rw [Nat.add_comm 1, List.drop_succ_cons]
      congr 1; omega
    rw [e]
    obtain ⟨g, rfl⟩ : ∃ k, g = k + 2 := ⟨g - 2, by omega⟩
    have := scan_last g (p + 1) c
    simpa using this
  | succ n ih =>
    intro l f g p ts hl h hg
    by_cases hp : passN false l < l.length
    · have ha := passN_app false l [c]
      rw [if_pos hp] at ha
      rw [scanQ, ha, List.drop_append_of_le_length (by omega)]
      rw [scanQ] at h
      have hne : l.drop (passN false l) ≠ [] := by
        intro h0
        have := congrArg List.length h0
        simp at this; omega
      have hdl : (l.drop (passN false l)).length = l.length - passN false l := by simp
      generalize l.drop (passN false l) = u at *
      obtain ⟨g, rfl⟩ : ∃ k, g = k + 1 := ⟨g - 1, by omega⟩
      have hul := tokN_le u
      cases f with
      | zero => simp [scanP] at h
      | succ f =>
        by_cases hn : tokN u = 0
        · rw [scanP_bad f _ u hne hn] at h; simp at h
        · rw [scanP_tok f _ u hne hn] at h
          obtain ⟨v, hv, _⟩ := finR_right h
          have ht := tok_app u [c] hne
          rw [scanP_tok g _ (u ++ [10, c]) (by simp) (by rw [ht]; exact hn), ht, List.drop_append_of_le_length hul]
          obtain ⟨h1, h2⟩ := ih (u.drop (tokN u)) f g (p + passN false l + tokN u) v (by simp; omega) hv (by simp; omega)
          refine ⟨fun hk => ?_, fun hk => ?_⟩
          · obtain ⟨us, hus⟩ := h1 hk
            exact ⟨_, by rw [hus]; rfl⟩
          · rw [h2 hk]
            show Sum.inl _ = _
            congr 1
            simp; omega
    · have ha := passN_app false l [c]
      rw [if_neg hp] at ha
      have e : scanQ g p (l ++ [10, c]) = scanQ g (p + l.length + 1) [c] := by
        rw [scanQ, scanQ, ha]
        have : (l ++ [10, c]).drop (l.length + 1 + passN false [c]) = [c].drop (passN false [c]) := by
          rw [Nat.add_assoc, ← List.drop_drop, List.drop_left, Nat.add_comm, List.drop_succ_cons]
        rw [this]
        congr 1
        omega
      rw [e]
      obtain ⟨g, rfl⟩ : ∃ k, g = k + 2 := ⟨g - 2, by omega⟩
      exact scan_last g _ c
theorem stepM_form (n b0 b1 b2 b3 : Nat) : stepM n b0 b1 b2 b3 =
    if b0 < 128 then 1
    else if b0 / 32 = 6 ∧ (1 < n ∧ b1 / 64 = 2) then (if 128 ≤ b0 % 32 * 64 + b1 % 64 then 2 else 0)
    else if b0 / 16 = 14 ∧ (1 < n ∧ b1 / 64 = 2) ∧ (2 < n ∧ b2 / 64 = 2) then
      (if 2048 ≤ b0 % 16 * 4096 + b1 % 64 * 64 + b2 % 64 ∧ (b0 % 16 * 4096 + b1 % 64 * 64 + b2 % 64 < 55296 ∨ (57344 ≤ b0 % 16 * 4096 + b1 % 64 * 64 + b2 % 64 ∧ b0 % 16 * 4096 + b1 % 64 * 64 + b2 % 64 ≤ 1114111)) then 3 else 0)
    else if b0 / 8 = 30 ∧ (1 < n ∧ b1 / 64 = 2) ∧ (2 < n ∧ b2 / 64 = 2) ∧ (3 < n ∧ b3 / 64 = 2) then
      (if 65536 ≤ b0 % 8 * 262144 + b1 % 64 * 4096 + b2 % 64 * 64 + b3 % 64 ∧ b0 % 8 * 262144 + b1 % 64 * 4096 + b2 % 64 * 64 + b3 % 64 ≤ 1114111 then 4 else 0)
    else 0 := by
  unfold stepM Lib.decodeN
  by_cases h1 : b0 < 128
  · simp only [h1, if_true]; rw [if_neg (by omega)]
  · simp only [h1, if_false]
    by_cases h2 : b0 / 32 = 6 ∧ (1 < n ∧ b1 / 64 = 2)
    · simp only [h2, if_true, and_self, true_and]
      by_cases h : 128 ≤ b0 % 32 * 64 + b1 % 64
      · simp [h]
      · simp [h]
    · simp only [h2, if_false]
      by_cases h3 : b0 / 16 = 14 ∧ (1 < n ∧ b1 / 64 = 2) ∧ (2 < n ∧ b2 / 64 = 2)
      · rw [if_pos h3, if_pos h3]
        generalize b0 % 16 * 4096 + b1 % 64 * 64 + b2 % 64 = v
        by_cases h : v ≥ 2048 ∧ (v < 55296 ∨ 57344 ≤ v ∧ v ≤ 1114111)
        · rw [if_pos h, if_pos h]; simp
        · rw [if_neg h, if_neg h]; simp
      · rw [if_neg h3, if_neg h3]
        by_cases h4 : b0 / 8 = 30 ∧ (1 < n ∧ b1 / 64 = 2) ∧ (2 < n ∧ b2 / 64 = 2) ∧ (3 < n ∧ b3 / 64 = 2)
        · rw [if_pos h4, if_pos h4]
          generalize b0 % 8 * 262144 + b1 % 64 * 4096 + b2 % 64 * 64 + b3 % 64 = v
          by_cases h : v ≥ 65536 ∧ (v < 55296 ∨ 57344 ≤ v ∧ v ≤ 1114111)
          · rw [if_pos h]
            have h' : 65536 ≤ v ∧ v ≤ 1114111 := ⟨h.1, by omega⟩
            simp [h']
          · rw [if_neg h]
            have h' : ¬ (65536 ≤ v ∧ v ≤ 1114111) := fun h' => h ⟨h'.1, .inr ⟨by omega, h'.2⟩⟩
            rw [if_neg h']
            simp
        · rw [if_neg h4, if_neg h4]; simp
theorem stepM_ext (n n' b0 b1 b2 b3 c1 c2 c3 : Nat) (hn : n ≤ n') (h1 : 1 < n → c1 = b1) (h2 : 2 < n → c2 = b2) (h3 : 3 < n → c3 = b3) (h : stepM n b0 b1 b2 b3 ≠ 0) : stepM n' b0 c1 c2 c3 = stepM n b0 b1 b2 b3 := by
  rw [stepM_form] at h ⊢
  rw [stepM_form]
  by_cases ha : b0 < 128
  · simp [ha]
  · rw [if_neg ha] at h ⊢
    rw [if_neg ha]
    by_cases hb : b0 / 32 = 6 ∧ (1 < n ∧ b1 / 64 = 2)
    · rw [if_pos hb] at h ⊢
      rw [h1 hb.2.1, if_pos (by omega)]
    · rw [if_neg hb] at h ⊢
      by_cases hc : b0 / 16 = 14 ∧ (1 < n ∧ b1 / 64 = 2) ∧ (2 < n ∧ b2 / 64 = 2)
      · rw [if_pos hc] at h ⊢
        rw [h1 hc.2.1.1, h2 hc.2.2.1, if_neg (by omega), if_pos (by omega)]
      · rw [if_neg hc] at h ⊢
        by_cases hd : b0 / 8 = 30 ∧ (1 < n ∧ b1 / 64 = 2) ∧ (2 < n ∧ b2 / 64 = 2) ∧ (3 < n ∧ b3 / 64 = 2)
        · rw [if_pos hd] at h ⊢
          rw [h1 hd.2.1.1, h2 hd.2.2.1.1, h3 hd.2.2.2.1, if_neg (by omega), if_neg (by omega), if_pos (by omega)]
        · rw [if_neg hd] at h; exact absurd rfl h
theorem decodeN_pos (n b0 b1 b2 b3 : Nat) : 1 ≤ (Lib.decodeN n b0 b1 b2 b3).2 := by
  unfold Lib.decodeN
  repeat' split
  all_goals simp
theorem getD_app (l r : Bs) (i : Nat) (h : i < l.length) : (l ++ r).getD i 0 = l.getD i 0 := by
  simp [List.getD, List.getElem?_append_left h]
theorem stepN_app (l r : Bs) (hl : 1 ≤ l.length) (h : stepN l ≠ 0) : stepN (l ++ r) = stepN l := by
  unfold stepN at h ⊢
  rw [getD_app l r 0 (by omega)]
  exact stepM_ext _ _ _ _ _ _ _ _ _ (by simp) (fun h1 => by rw [getD_app l r 1 h1]) (fun h1 => by rw [getD_app l r 2 h1]) (fun h1 => by rw [getD_app l r 3 h1]) h
/-- A text that is whole, and one behind it. -/
theorem utf_app (r : Bs) (R : Nat) (m : Nat) (hR : ∀ k, m ≤ k → utfP k r = R) : ∀ (n : Nat) (l : Bs) (f g : Nat), l.length ≤ n → utfP f l = l.length → l.length + m ≤ g → l.length < f → utfP g (l ++ r) = l.length + R := by
  intro n
  induction n with
  | zero =>
    intro l f g hl h hg hf
    obtain rfl : l = [] := List.length_eq_zero_iff.1 (by omega)
    rw [List.nil_append, hR g (by simp at hg; omega)]; simp
  | succ n ih =>
    intro l f g hl h hg hf
    cases l with
    | nil => rw [List.nil_append, hR g (by simp at hg; omega)]; simp
    | cons c t =>
      obtain ⟨f, rfl⟩ : ∃ k, f = k + 1 := ⟨f - 1, by omega⟩
      simp only [utfP] at h
      by_cases hs : stepN (c :: t) = 0
      · simp [hs] at h
      · rw [if_neg hs] at h
        have hle := stepN_le (c :: t) (by simp)
        have hd : ((c :: t).drop (stepN (c :: t))).length = (c :: t).length - stepN (c :: t) := by simp
        have hsa := stepN_app (c :: t) r (by simp) hs
        cases g with
        | zero => simp at hg
        | succ g =>
          rw [List.cons_append]
          simp only [utfP]
          rw [← List.cons_append, hsa, if_neg hs, List.drop_append_of_le_length hle]
          have := ih ((c :: t).drop (stepN (c :: t))) f g (by omega) (by omega) (by omega) (by omega)
          omega
theorem utf_last (k : Nat) (c : UInt8) (hk : 3 ≤ k) : utfP k [10, c] = if c.toNat < 128 then 2 else 1 := by
  obtain ⟨k, rfl⟩ : ∃ j, k = j + 3 := ⟨k - 3, by omega⟩
  have h1 : stepN [10, c] = 1 := by
    rw [stepN, stepM_form]; simp
  have h2 : stepN [c] = if c.toNat < 128 then 1 else 0 := by
    rw [stepN, stepM_form]
    simp
  have e : List.drop 1 [10, c] = [c] := rfl
  by_cases hc : c.toNat < 128
  · rw [if_pos hc] at h2 ⊢
    simp only [utfP, h1, h2, e]
    rfl
  · rw [if_neg hc] at h2 ⊢
    simp only [utfP, h1, h2, e]
    rfl
/-- What LexBytes asks. -/
theorem scanF_more {s : Bs} (h : (scanF s).2.2 = 0) (hl : s.length < 65535) (c : UInt8) :
    (¬ c.toNat < 128 → (scanF (s ++ [10, c])).2 = (s.length + 1, 60)) ∧ (c.toNat < 128 → knownB c = true → (scanF (s ++ [10, c])).2.2 = 0) ∧ (c.toNat < 128 → knownB c = false → (scanF (s ++ [10, c])).2 = (s.length + 1, 61)) := by
  obtain ⟨_, hu, hq, _⟩ := scanF_ok h
  have hlen : (s ++ [10, c]).length = s.length + 2 := by simp
  have hU := utf_app [10, c] _ 3 (fun k hk => utf_last k c hk) s.length s (s.length + 1) ((s ++ [10, c]).length + 1) (Nat.le_refl _) hu (by omega) (by omega)
  obtain ⟨k1, k2⟩ := scan_more c s.length s (s.length + 1) ((s ++ [10, c]).length + 1) 0 _ (Nat.le_refl _) hq (by omega)
  have hqq : scanQ ((s ++ [10, c]).length + 1) 0 (s ++ [10, c]) = scanP ((s ++ [10, c]).length + 1) (passN false (s ++ [10, c])) ((s ++ [10, c]).drop (passN false (s ++ [10, c]))) := by rw [scanQ, Nat.zero_add]
  refine ⟨fun hc => ?_, fun hc hk => ?_, fun hc hk => ?_⟩
  · rw [if_neg hc] at hU
    unfold scanF
    rw [if_neg (by omega), if_pos (by omega), hU]
  · rw [if_pos hc] at hU
    obtain ⟨us, hus⟩ := k1 hk
    unfold scanF
    rw [if_neg (by omega), if_neg (by omega), ← hqq, hus]
    rfl
  · rw [if_pos hc] at hU
    have hus := k2 hk
    unfold scanF
    rw [if_neg (by omega), if_neg (by omega), ← hqq, hus]
    simp [ansOf]

/-! ### the table of signs -/
def signTab : List Bs := [[45, 62], [47, 92], [92, 47], [40], [41], [91], [93], [44], [46], [58], [59], [61], [92], [60], [62], [64], [126], [42], [48], [49]]
def firstF (l : Bs) : Nat × Bs := if tokN l = 0 then (0, []) else (kindN l, l.take (tokN l))
theorem u8_of {c : UInt8} {k : Nat} (h : c.toNat = k) : c = UInt8.ofNat k := by rw [← h]; simp
theorem beqc (k c : UInt8) : (k == c) = decide (c.toNat = k.toNat) := by
  rw [Bool.eq_iff_iff]
  simp only [beq_iff_eq, decide_eq_true_eq]
  exact ⟨fun h => by rw [h], fun h => (UInt8.toNat_inj.1 h).symm⟩
theorem find_sign (l : Bs) : signTab.find? (fun p => p.isPrefixOf l) = if signN l = 0 then none else some (l.take (signN l)) := by
  cases l with
  | nil => rfl
  | cons c t =>
    cases t with
    | nil =>
      by_cases h : oneB c = true
      · have h' := h
        simp only [oneB, decide_eq_true_eq, List.mem_cons, List.mem_nil_iff, or_false] at h
        rcases h with h | h | h | h | h | h | h | h | h | h | h | h | h | h | h | h | h
        all_goals
          obtain rfl := u8_of h
          decide
      · have h' : oneB c = false := by simpa using h
        have hs : signN [c] = 0 := by simp [signN, twoB, h']
        rw [hs, if_pos rfl, List.find?_eq_none]
        simp only [oneB, decide_eq_true_eq, List.mem_cons, List.mem_nil_iff, or_false] at h
        intro p hp
        simp only [signTab, List.mem_cons, List.mem_nil_iff, or_false] at hp
        rcases hp with rfl | rfl | rfl | rfl | rfl | rfl | rfl | rfl | rfl | rfl | rfl | rfl | rfl | rfl | rfl | rfl | rfl | rfl | rfl | rfl
        all_goals
          simp only [List.isPrefixOf, beqc, Bool.and_true, Bool.and_false, Bool.false_eq_true, not_false_eq_true, decide_eq_true_eq]
        all_goals (intro hh; apply h; rw [hh]; decide)
    | cons d t =>
      by_cases h2 : twoB c (d :: t) = true
      · have h' := h2
        simp only [twoB, decide_eq_true_eq] at h2
        rcases h2 with ⟨h, h3⟩ | ⟨h, h3⟩ | ⟨h, h3⟩
        all_goals
          obtain rfl := u8_of h
          obtain rfl := u8_of h3
          rfl
      · have h2' : twoB c (d :: t) = false := by simpa using h2
        by_cases h : oneB c = true
        · have h' := h
          have hs : signN (c :: d :: t) = 1 := by simp [signN, h2', h']
          rw [hs]
          simp only [twoB, decide_eq_true_eq] at h2
          simp only [oneB, decide_eq_true_eq, List.mem_cons, List.mem_nil_iff, or_false] at h
          simp only [signTab, List.find?_cons, List.isPrefixOf, beqc, Bool.and_true, UInt8.reduceToNat]
          rcases h with h | h | h | h | h | h | h | h | h | h | h | h | h | h | h | h | h
          all_goals
            have hd : c.toNat = 92 → d.toNat ≠ 47 := fun a b => h2 (.inr (.inr ⟨a, b⟩))
            clear h2 h2' hs h'
            obtain rfl := u8_of h
            first
              | rfl
              | (rw [show decide (d.toNat = 47) = false from decide_eq_false (hd rfl)]; rfl)
        · have h' : oneB c = false := by simpa using h
          have hs : signN (c :: d :: t) = 0 := by simp [signN, h2', h']
          rw [hs, if_pos rfl, List.find?_eq_none]
          simp only [oneB, decide_eq_true_eq, List.mem_cons, List.mem_nil_iff, or_false] at h
          simp only [twoB, decide_eq_true_eq] at h2
          intro p hp
          simp only [signTab, List.mem_cons, List.mem_nil_iff, or_false] at hp
          rcases hp with rfl | rfl | rfl | rfl | rfl | rfl | rfl | rfl | rfl | rfl | rfl | rfl | rfl | rfl | rfl | rfl | rfl | rfl | rfl | rfl
          all_goals
            simp only [List.isPrefixOf, beqc, Bool.and_true, Bool.and_eq_true, decide_eq_true_eq, UInt8.reduceToNat]
            omega
theorem firstF_name {l : Bs} (h : 0 < nameN l) : firstF l = (1, l.take (nameN l)) := by
  have ht : tokN l = nameN l := by simp [tokN, h]
  rw [firstF, ht, if_neg (by omega)]
  simp [kindN, h]
def signR : Option Bs → Nat × Bs
  | none => (0, [])
  | some p => (2, p)
theorem firstF_sign {l : Bs} (h : ¬ 0 < nameN l) : firstF l = signR (signTab.find? (fun p => p.isPrefixOf l)) := by
  have ht : tokN l = signN l := by simp [tokN, h]
  have hk : kindN l = 2 := by simp [kindN, h]
  rw [find_sign, firstF, ht, hk]
  by_cases hs : signN l = 0
  · simp [hs, signR]
  · simp [hs, signR]
theorem cmtN_index (l : Bs) : (Lib.indexByte l 10 = -1 → cmtN l = l.length) ∧ (Lib.indexByte l 10 ≠ -1 → (cmtN l : Int) = Lib.indexByte l 10) := by
  induction l with
  | nil => simp [Lib.indexByte, cmtN]
  | cons c t ih =>
    simp only [Lib.indexByte, cmtN]
    by_cases h : c.toNat = 10
    · obtain rfl := u8_of h
      simp
    · have hb : (c == 10) = false := by
        simp only [beq_eq_false_iff_ne]; rintro rfl; exact h rfl
      simp only [h, hb, if_false]
      by_cases h2 : Lib.indexByte t 10 = -1
      · simp [h2, ih.1 h2]; omega
      · have := Lib.indexByte_ge t 10
        have h3 := ih.2 h2
        simp [h2]; constructor
        · intro hh; omega
        · omega
end Go.Proofs.YtahnbigkdfmpbaaDoor
