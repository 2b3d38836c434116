/- The tokens of texts that are put together. -/
import Derived.Test.YtahnbigkdfmpbaaDoorPShift
namespace Go.Proofs.YtahnbigkdfmpbaaDoor
set_option linter.unusedVariables false
set_option linter.unusedSimpArgs false

/-! ### what the tokens are -/
def SUp : Ts → Prop
  | [] => True
  | t :: R => (∀ u ∈ R, t.at_ < u.at_) ∧ SUp R
def TokG (t : Tok) : Prop := (t.kind = 1 ∨ t.kind = 2) ∧ t.text ≠ [] ∧ (t.kind = 1 → ∃ c l, t.text = c :: l ∧ letterB c = true)
theorem tok_good (l : Bs) (p : Nat) (h : tokN l ≠ 0) : TokG ⟨kindN l, l.take (tokN l), p⟩ := by
  have hle := tokN_le l
  refine ⟨?_, ?_, ?_⟩
  · show kindN l = 1 ∨ kindN l = 2
    unfold kindN; split <;> simp
  · show l.take (tokN l) ≠ []
    intro h2
    have := congrArg List.length h2
    simp at this
    rcases this with h3 | h3
    · exact h h3
    · subst h3; simp [tokN, nameN, signN] at h
  · intro hk
    have hk' : kindN l = 1 := hk
    have hn : 0 < nameN l := by
      unfold kindN at hk'
      split at hk'
      · assumption
      · omega
    obtain ⟨c, t, rfl, hc⟩ := (nameN_pos l).1 hn
    obtain ⟨m, hm⟩ : ∃ m, tokN (c :: t) = m + 1 := ⟨tokN (c :: t) - 1, by omega⟩
    exact ⟨c, t.take m, by show (c :: t).take _ = _; rw [hm, List.take_succ_cons], hc⟩
theorem scanP_toks : ∀ (f p : Nat) (l : Bs) (ts : List Tok), scanP f p l = .inr ts → ∃ A, ts = A ++ [⟨0, [], p + l.length⟩] ∧ (∀ t ∈ A, TokG t ∧ p ≤ t.at_ ∧ t.at_ < p + l.length) ∧ SUp A := by
  intro f
  induction f with
  | zero => intro p l ts h; simp [scanP] at h
  | succ f ih =>
    intro p l ts h
    by_cases hz : l = []
    · subst hz
      simp only [scanP_nil, Sum.inr.injEq] at h
      subst h
      exact ⟨[], rfl, fun t ht => by simp at ht, trivial⟩
    · by_cases hn : tokN l = 0
      · rw [scanP_bad f p l hz hn] at h; simp at h
      · rw [scanP_tok f p l hz hn] at h
        obtain ⟨u, hu, rfl⟩ := finR_right h
        unfold scanQ at hu
        obtain ⟨A, rfl, hA, hS⟩ := ih _ _ u hu
        have hle := tokN_le l
        have hpl := passN_le false (l.drop (tokN l))
        have hl0 : l.length ≠ 0 := fun h0 => hz (List.length_eq_zero_iff.1 h0)
        have hlen : p + tokN l + passN false (l.drop (tokN l)) + ((l.drop (tokN l)).drop (passN false (l.drop (tokN l)))).length = p + l.length := by
          simp at hpl ⊢; omega
        rw [hlen] at hA ⊢
        refine ⟨⟨kindN l, l.take (tokN l), p⟩ :: A, by simp, ?_, ?_, hS⟩
        · intro t ht
          rcases List.mem_cons.1 ht with rfl | ht
          · exact ⟨tok_good l p hn, Nat.le_refl _, by show p < _; omega⟩
          · obtain ⟨h1, h2, h3⟩ := hA t ht
            exact ⟨h1, by omega, h3⟩
        · intro t ht
          obtain ⟨h1, h2, h3⟩ := hA t ht
          show p < _
          omega
/-! ### fuel, and places further on -/
theorem scanP_fuel : ∀ (f g p : Nat) (l : Bs), l.length < f → l.length < g → scanP f p l = scanP g p l := by
  intro f
  induction f with
  | zero => intro g p l h; omega
  | succ f ih =>
    intro g p l hf hg
    obtain ⟨g, rfl⟩ : ∃ k, g = k + 1 := ⟨g - 1, by omega⟩
    by_cases hz : l = []
    · subst hz; rfl
    · by_cases hn : tokN l = 0
      · rw [scanP_bad f p l hz hn, scanP_bad g p l hz hn]
      · have hl0 : l.length ≠ 0 := fun h0 => hz (List.length_eq_zero_iff.1 h0)
        rw [scanP_tok f p l hz hn, scanP_tok g p l hz hn, scanQ, scanQ, ih g]
        · simp; omega
        · simp; omega
theorem scanQ_fuel {f g p : Nat} {l : Bs} (hf : l.length < f) (hg : l.length < g) : scanQ f p l = scanQ g p l := by
  unfold scanQ
  exact scanP_fuel _ _ _ _ (by simp; omega) (by simp; omega)
def shS (d : Nat) : Nat ⊕ List Tok → Nat ⊕ List Tok
  | .inl e => .inl (e + d)
  | .inr ts => .inr (shL d ts)
theorem finR_sh (d : Nat) (acc : List Tok) (r : Nat ⊕ List Tok) : finR (shL d acc) (shS d r) = shS d (finR acc r) := by
  cases r with
  | inl e => rfl
  | inr ts => simp [finR, shS, shL]
theorem scanP_sh (d : Nat) : ∀ (f p : Nat) (l : Bs), scanP f (p + d) l = shS d (scanP f p l) := by
  intro f
  induction f with
  | zero => intro p l; rfl
  | succ f ih =>
    intro p l
    by_cases hz : l = []
    · subst hz; rfl
    · by_cases hn : tokN l = 0
      · rw [scanP_bad f _ l hz hn, scanP_bad f p l hz hn]; rfl
      · rw [scanP_tok f _ l hz hn, scanP_tok f p l hz hn, ← finR_sh]
        congr 1
        unfold scanQ
        rw [← ih]
        congr 1
        omega
theorem scanQ_sh (d f p : Nat) (l : Bs) : scanQ f (p + d) l = shS d (scanQ f p l) := by
  unfold scanQ
  rw [← scanP_sh]
  congr 1
  omega
/-! ### a line feed, and another text -/
theorem kind_app (l r : Bs) (h : l ≠ []) : kindN (l ++ 10 :: r) = kindN l := by
  cases l with
  | nil => exact absurd rfl h
  | cons c t =>
    have e1 : nameN (c :: t ++ 10 :: r) = nameN (c :: t) := by simp only [List.cons_append, nameN, word_app]
    rw [kindN, kindN, e1]
theorem scan_line (r : Bs) : ∀ (n : Nat) (l : Bs) (f g p : Nat) (ts : List Tok), l.length ≤ n → scanQ f p l = .inr ts → l.length + 1 + r.length < g →
    ∃ g', r.length < g' ∧ scanQ g p (l ++ 10 :: r) = finR ts.dropLast (scanQ g' (p + l.length + 1) r) := by
  intro n
  induction n with
  | zero =>
    intro l f g p ts hl h hg
    obtain rfl : l = [] := List.length_eq_zero_iff.1 (by omega)
    refine ⟨g, by simp at hg; omega, ?_⟩
    cases f with
    | zero => simp [scanQ, scanP] at h
    | succ f =>
      have h' : ts = [⟨0, [], p⟩] := by
        have : scanQ (f + 1) p [] = .inr [⟨0, [], p⟩] := rfl
        rw [this] at h
        exact (Sum.inr.inj h).symm
      subst h'
      have e : scanQ g p ([] ++ 10 :: r) = scanQ g (p + 1) r := by
        rw [List.nil_append, scanQ, scanQ, passN_blank (c := 10) (by decide), Nat.add_comm 1, List.drop_succ_cons]
        congr 1; omega
      rw [e]
      show _ = finR [] _
      have : finR [] (scanQ g (p + 0 + 1) r) = scanQ g (p + 0 + 1) r := by cases scanQ g (p + 0 + 1) r <;> rfl
      exact this.symm
  | succ n ih =>
    intro l f g p ts hl h hg
    by_cases hp : passN false l < l.length
    · have ha := passN_app false l r
      rw [if_pos hp] at ha
      rw [scanQ, ha, List.drop_append_of_le_length (by omega)]
      rw [scanQ] at h
      have hne : l.drop (passN false l) ≠ [] := by
        intro h0
        have := congrArg List.length h0
        simp at this; omega
      have hdl : (l.drop (passN false l)).length = l.length - passN false l := by simp
      generalize l.drop (passN false l) = u at *
      obtain ⟨g, rfl⟩ : ∃ k, g = k + 1 := ⟨g - 1, by omega⟩
      have hul := tokN_le u
      cases f with
      | zero => simp [scanP] at h
      | succ f =>
        by_cases hn : tokN u = 0
        · rw [scanP_bad f _ u hne hn] at h; simp at h
        · rw [scanP_tok f _ u hne hn] at h
          obtain ⟨v, hv, rfl⟩ := finR_right h
          have ht := tok_app u r hne
          have hk := kind_app u r hne
          rw [scanP_tok g _ (u ++ 10 :: r) (by simp) (by rw [ht]; exact hn), ht, hk, List.drop_append_of_le_length hul, List.take_append_of_le_length hul]
          obtain ⟨g', hg', e⟩ := ih (u.drop (tokN u)) f g (p + passN false l + tokN u) v (by simp; omega) hv (by simp; omega)
          refine ⟨g', hg', ?_⟩
          rw [e]
          have hne2 : v ≠ [] := by
            unfold scanQ at hv
            obtain ⟨A, rfl, _⟩ := scanP_toks _ _ _ _ hv
            simp
          have hpe : p + passN false l + tokN u + (u.drop (tokN u)).length + 1 = p + l.length + 1 := by simp; omega
          rw [hpe]
          have hdl2 : ([(⟨kindN u, u.take (tokN u), p + passN false l⟩ : Tok)] ++ v).dropLast = (⟨kindN u, u.take (tokN u), p + passN false l⟩ : Tok) :: v.dropLast := by
            cases v with
            | nil => exact absurd rfl hne2
            | cons a v => rfl
          rw [hdl2]
          cases scanQ g' (p + l.length + 1) r with
          | inl e => rfl
          | inr ts => simp [finR]
    · have ha := passN_app false l r
      rw [if_neg hp] at ha
      have hple := passN_le false l
      have hts : ts = [⟨0, [], p + l.length⟩] := by
        rw [scanQ, List.drop_of_length_le (by omega)] at h
        cases f with
        | zero => simp [scanP] at h
        | succ f =>
          rw [scanP_nil] at h
          have : passN false l = l.length := by omega
          rw [this] at h
          exact (Sum.inr.inj h).symm
      subst hts
      refine ⟨g, by omega, ?_⟩
      have e : scanQ g p (l ++ 10 :: r) = scanQ g (p + l.length + 1) r := by
        rw [scanQ, scanQ, ha]
        have : (l ++ 10 :: r).drop (l.length + 1 + passN false r) = r.drop (passN false r) := by
          rw [Nat.add_assoc, ← List.drop_drop, List.drop_left, Nat.add_comm, List.drop_succ_cons]
        rw [this]
        congr 1
        omega
      rw [e]
      show _ = finR [] _
      cases scanQ g (p + l.length + 1) r <;> rfl
/-! ### whole scalar values -/
theorem getD_line (u r : Bs) (i : Nat) : ((u ++ 10 :: r).getD i 0).toNat = if i < u.length then (u.getD i 0).toNat else if i = u.length then 10 else ((10 :: r).getD (i - u.length) 0).toNat := by
  by_cases h : i < u.length
  · rw [if_pos h, getD_app u _ i h]
  · rw [if_neg h]
    have : (u ++ 10 :: r).getD i 0 = (10 :: r).getD (i - u.length) 0 := by simp [List.getD, List.getElem?_append_right (Nat.le_of_not_lt h)]
    rw [this]
    by_cases h2 : i = u.length
    · rw [if_pos h2, h2, Nat.sub_self]; rfl
    · rw [if_neg h2]
theorem stepN_line (u r : Bs) (hu : 1 ≤ u.length) : stepN (u ++ 10 :: r) = stepN u := by
  unfold stepN
  rw [stepM_form, stepM_form]
  have e0 : ((u ++ 10 :: r).getD 0 0).toNat = (u.getD 0 0).toNat := by rw [getD_line, if_pos (by omega)]
  have hlen : (u ++ 10 :: r).length = u.length + 1 + r.length := by simp; omega
  have c1 : (1 < (u ++ 10 :: r).length ∧ ((u ++ 10 :: r).getD 1 0).toNat / 64 = 2) ↔ (1 < u.length ∧ (u.getD 1 0).toNat / 64 = 2) := by
    rw [getD_line, hlen]
    by_cases h : 1 < u.length
    · rw [if_pos h]; exact ⟨fun x => ⟨h, x.2⟩, fun x => ⟨by omega, x.2⟩⟩
    · rw [if_neg h, if_pos (by omega)]; exact ⟨fun x => by omega, fun x => by omega⟩
  have c2 : ((1 < (u ++ 10 :: r).length ∧ ((u ++ 10 :: r).getD 1 0).toNat / 64 = 2) ∧ (2 < (u ++ 10 :: r).length ∧ ((u ++ 10 :: r).getD 2 0).toNat / 64 = 2)) ↔ ((1 < u.length ∧ (u.getD 1 0).toNat / 64 = 2) ∧ (2 < u.length ∧ (u.getD 2 0).toNat / 64 = 2)) := by
    rw [c1]
    by_cases h1 : 1 < u.length
    · rw [getD_line (i := 2), hlen]
      by_cases h : 2 < u.length
      · rw [if_pos h]; exact ⟨fun x => ⟨x.1, h, x.2.2⟩, fun x => ⟨x.1, by omega, x.2.2⟩⟩
      · rw [if_neg h, if_pos (by omega)]; exact ⟨fun x => by omega, fun x => by omega⟩
    · exact ⟨fun x => by omega, fun x => by omega⟩
  have c3 : ((1 < (u ++ 10 :: r).length ∧ ((u ++ 10 :: r).getD 1 0).toNat / 64 = 2) ∧ (2 < (u ++ 10 :: r).length ∧ ((u ++ 10 :: r).getD 2 0).toNat / 64 = 2) ∧ (3 < (u ++ 10 :: r).length ∧ ((u ++ 10 :: r).getD 3 0).toNat / 64 = 2)) ↔ ((1 < u.length ∧ (u.getD 1 0).toNat / 64 = 2) ∧ (2 < u.length ∧ (u.getD 2 0).toNat / 64 = 2) ∧ (3 < u.length ∧ (u.getD 3 0).toNat / 64 = 2)) := by
    have key : ((1 < u.length ∧ (u.getD 1 0).toNat / 64 = 2) ∧ (2 < u.length ∧ (u.getD 2 0).toNat / 64 = 2)) → ((3 < (u ++ 10 :: r).length ∧ ((u ++ 10 :: r).getD 3 0).toNat / 64 = 2) ↔ (3 < u.length ∧ (u.getD 3 0).toNat / 64 = 2)) := by
      intro hk
      rw [getD_line (i := 3), hlen]
      by_cases h : 3 < u.length
      · rw [if_pos h]; exact ⟨fun x => ⟨h, x.2⟩, fun x => ⟨by omega, x.2⟩⟩
      · rw [if_neg h, if_pos (by have := hk.2.1; omega)]; exact ⟨fun x => by omega, fun x => by omega⟩
    exact ⟨fun x => let b := c2.1 ⟨x.1, x.2.1⟩; ⟨b.1, b.2, (key b).1 x.2.2⟩, fun x => let b := c2.2 ⟨x.1, x.2.1⟩; ⟨b.1, b.2, (key ⟨x.1, x.2.1⟩).2 x.2.2⟩⟩
  rw [e0]
  generalize (u.getD 0 0).toNat = b0 at *
  by_cases h1 : b0 < 128
  · rw [if_pos h1, if_pos h1]
  · rw [if_neg h1, if_neg h1]
    by_cases h2 : b0 / 32 = 6 ∧ (1 < u.length ∧ (u.getD 1 0).toNat / 64 = 2)
    · have h2' : b0 / 32 = 6 ∧ (1 < (u ++ 10 :: r).length ∧ ((u ++ 10 :: r).getD 1 0).toNat / 64 = 2) := ⟨h2.1, c1.2 h2.2⟩
      rw [if_pos h2, if_pos h2', getD_line (i := 1), if_pos h2.2.1]
    · rw [if_neg h2, if_neg (fun h => h2 ⟨h.1, c1.1 h.2⟩)]
      by_cases h3 : b0 / 16 = 14 ∧ (1 < u.length ∧ (u.getD 1 0).toNat / 64 = 2) ∧ (2 < u.length ∧ (u.getD 2 0).toNat / 64 = 2)
      · rw [if_pos h3, if_pos ⟨h3.1, c2.2 h3.2⟩, getD_line (i := 1), if_pos h3.2.1.1, getD_line (i := 2), if_pos h3.2.2.1]
      · rw [if_neg h3, if_neg (fun h => h3 ⟨h.1, c2.1 h.2⟩)]
        by_cases h4 : b0 / 8 = 30 ∧ (1 < u.length ∧ (u.getD 1 0).toNat / 64 = 2) ∧ (2 < u.length ∧ (u.getD 2 0).toNat / 64 = 2) ∧ (3 < u.length ∧ (u.getD 3 0).toNat / 64 = 2)
        · rw [if_pos h4, if_pos ⟨h4.1, c3.2 h4.2⟩, getD_line (i := 1), if_pos h4.2.1.1, getD_line (i := 2), if_pos h4.2.2.1.1, getD_line (i := 3), if_pos h4.2.2.2.1]
        · rw [if_neg h4, if_neg (fun h => h4 ⟨h.1, c3.1 h.2⟩)]
theorem utf_fuel : ∀ (n : Nat) (l : Bs) (f g : Nat), l.length ≤ n → l.length < f → l.length < g → utfP f l = utfP g l := by
  intro n
  induction n with
  | zero =>
    intro l f g hl hf hg
    obtain rfl : l = [] := List.length_eq_zero_iff.1 (by omega)
    obtain ⟨f, rfl⟩ : ∃ k, f = k + 1 := ⟨f - 1, by omega⟩
    obtain ⟨g, rfl⟩ : ∃ k, g = k + 1 := ⟨g - 1, by omega⟩
    rfl
  | succ n ih =>
    intro l f g hl hf hg
    obtain ⟨f, rfl⟩ : ∃ k, f = k + 1 := ⟨f - 1, by omega⟩
    obtain ⟨g, rfl⟩ : ∃ k, g = k + 1 := ⟨g - 1, by omega⟩
    cases l with
    | nil => rfl
    | cons c t =>
      simp only [utfP]
      by_cases hs : stepN (c :: t) = 0
      · rw [if_pos hs, if_pos hs]
      · rw [if_neg hs, if_neg hs, ih ((c :: t).drop (stepN (c :: t))) f g]
        · simp at hl ⊢; omega
        · simp at hf ⊢; omega
        · simp at hg ⊢; omega
def U (s : Bs) : Nat := utfP (s.length + 1) s
theorem U_eq {s : Bs} {f : Nat} (h : s.length < f) : utfP f s = U s := utf_fuel s.length s _ _ (Nat.le_refl _) h (by omega)
theorem utf_line (r : Bs) : ∀ (n : Nat) (l : Bs) (f g : Nat), l.length ≤ n → l.length < f → l.length + 1 + r.length < g → utfP g (l ++ 10 :: r) = if utfP f l < l.length then utfP f l else l.length + 1 + U r := by
  intro n
  induction n with
  | zero =>
    intro l f g hl hf hg
    obtain rfl : l = [] := List.length_eq_zero_iff.1 (by omega)
    obtain ⟨g, rfl⟩ : ∃ k, g = k + 1 := ⟨g - 1, by omega⟩
    rw [if_neg (by simp)]
    have h1 : stepN (10 :: r) = 1 := by rw [stepN, stepM_form]; simp
    show utfP (g + 1) (10 :: r) = _
    simp only [utfP, h1]
    rw [if_neg (by omega), List.drop_succ_cons, List.drop_zero, U_eq (by simp at hg; omega)]
    simp
  | succ n ih =>
    intro l f g hl hf hg
    cases l with
    | nil =>
      obtain ⟨g, rfl⟩ : ∃ k, g = k + 1 := ⟨g - 1, by omega⟩
      rw [if_neg (by simp)]
      have h1 : stepN (10 :: r) = 1 := by rw [stepN, stepM_form]; simp
      show utfP (g + 1) (10 :: r) = _
      simp only [utfP, h1]
      rw [if_neg (by omega), List.drop_succ_cons, List.drop_zero, U_eq (by simp at hg; omega)]
      simp
    | cons c t =>
      obtain ⟨f, rfl⟩ : ∃ k, f = k + 1 := ⟨f - 1, by omega⟩
      obtain ⟨g, rfl⟩ : ∃ k, g = k + 1 := ⟨g - 1, by omega⟩
      have hsl := stepN_line (c :: t) r (by simp)
      have hle := stepN_le (c :: t) (by simp)
      rw [List.cons_append]
      simp only [utfP]
      rw [← List.cons_append, hsl]
      by_cases hs : stepN (c :: t) = 0
      · simp [hs]
      · simp only [hs, if_false]
        rw [List.drop_append_of_le_length hle, ih ((c :: t).drop (stepN (c :: t))) f g (by simp at hl ⊢; omega) (by simp at hf ⊢; omega) (by simp at hg ⊢; omega)]
        have hd : ((c :: t).drop (stepN (c :: t))).length = (c :: t).length - stepN (c :: t) := by simp
        by_cases h : utfP f ((c :: t).drop (stepN (c :: t))) < ((c :: t).drop (stepN (c :: t))).length
        · rw [if_pos h, if_pos (by omega)]
        · rw [if_neg h, if_neg (by omega)]; omega
theorem U_line (l r : Bs) : U (l ++ 10 :: r) = if U l < l.length then U l else l.length + 1 + U r := utf_line r l.length l (l.length + 1) _ (Nat.le_refl _) (by omega) (by simp; omega)
theorem U_ascii (c : UInt8) (l : Bs) (h : c.toNat < 128) : U (c :: l) = 1 + U l := by
  have h1 : stepN (c :: l) = 1 := by rw [stepN, stepM_form]; simp [h]
  unfold U
  rw [List.length_cons]
  show utfP (l.length + 1 + 1) (c :: l) = _
  simp only [utfP, h1]
  rw [if_neg (by omega), List.drop_succ_cons, List.drop_zero]
end Go.Proofs.YtahnbigkdfmpbaaDoor
