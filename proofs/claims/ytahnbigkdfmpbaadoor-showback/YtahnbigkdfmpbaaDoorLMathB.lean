/- The plain mathematics of layer 6, further: the tokens cover the text; put together with gaps they are scanned as they were; one byte more. -/
import Derived.Test.YtahnbigkdfmpbaaDoorLMath
namespace Go.Proofs.YtahnbigkdfmpbaaDoor
set_option linter.unusedVariables false
set_option linter.unusedSimpArgs false

def scanQ (f p : Nat) (l : Bs) : Nat ⊕ List Tok := scanP f (p + passN false l) (l.drop (passN false l))
theorem scanP_nil (f p : Nat) : scanP (f + 1) p [] = .inr [⟨0, [], p⟩] := rfl
theorem scanP_bad (f p : Nat) (l : Bs) (hl : l ≠ []) (h : tokN l = 0) : scanP (f + 1) p l = .inl p := by
  cases l with
  | nil => exact absurd rfl hl
  | cons c t => simp only [scanP, h, if_true]
theorem scanP_tok (f p : Nat) (l : Bs) (hl : l ≠ []) (h : tokN l ≠ 0) :
    scanP (f + 1) p l = finR [⟨kindN l, l.take (tokN l), p⟩] (scanQ f (p + tokN l) (l.drop (tokN l))) := by
  cases l with
  | nil => exact absurd rfl hl
  | cons c t =>
    simp only [scanP, h, if_false, scanQ, finR, List.drop_drop, Nat.add_assoc]
    split <;> simp

/-! ### covers -/
def Cov (s : Bs) : Nat → List Tok → Prop
  | e, [] => e = s.length
  | e, t :: r => e ≤ t.at_ ∧ t.at_ + t.text.length ≤ s.length ∧ (s.drop t.at_).take t.text.length = t.text ∧ passN false ((s.drop e).take (t.at_ - e)) = t.at_ - e ∧ (t.kind = 0 ↔ r = []) ∧ (t.kind = 0 ↔ t.text = []) ∧ Cov s (t.at_ + t.text.length) r
theorem kindN_pos (l : Bs) : kindN l ≠ 0 := by unfold kindN; split <;> simp
theorem finR_right {a ts : List Tok} {r : Nat ⊕ List Tok} (h : finR a r = .inr ts) : ∃ u, r = .inr u ∧ ts = a ++ u := by
  cases r with
  | inl e => simp [finR] at h
  | inr u => simp only [finR, Sum.inr.injEq] at h; exact ⟨u, rfl, h.symm⟩
theorem scanP_cov (s : Bs) : ∀ (f p : Nat) (l : Bs) (ts : List Tok) (e : Nat), s.drop p = l → p ≤ s.length → e ≤ p → passN false ((s.drop e).take (p - e)) = p - e → scanP f p l = .inr ts → Cov s e ts ∧ ts ≠ [] := by
  intro f
  induction f with
  | zero => intro p l ts e _ _ _ _ h; simp [scanP] at h
  | succ f ih =>
    intro p l ts e hl hp he hq h
    by_cases hz : l = []
    · subst hz
      simp only [scanP_nil, Sum.inr.injEq] at h
      subst h
      have : p = s.length := by
        have := congrArg List.length hl
        simp at this; omega
      subst this
      refine ⟨⟨he, by simp, by simp, hq, by simp, by simp, ?_⟩, by simp⟩
      simp [Cov]
    · by_cases hn : tokN l = 0
      · rw [scanP_bad f p l hz hn] at h; simp at h
      · rw [scanP_tok f p l hz hn] at h
        obtain ⟨u, hu, rfl⟩ := finR_right h
        have hle := tokN_le l
        have hll : l.length = s.length - p := by rw [← hl]; simp
        have hd : s.drop (p + tokN l) = l.drop (tokN l) := by rw [← hl, List.drop_drop]
        have hpl := passN_le false (l.drop (tokN l))
        have hpl2 : (l.drop (tokN l)).length = l.length - tokN l := by simp
        have htk : (l.take (tokN l)).length = tokN l := by simp; omega
        obtain ⟨hc, hne⟩ := ih (p + tokN l + passN false (l.drop (tokN l))) _ u (p + tokN l) (by rw [← List.drop_drop, hd]) (by omega) (by omega) (by
          rw [hd, Nat.add_sub_cancel_left, passN_take]) hu
        refine ⟨?_, by simp⟩
        show Cov s e (_ :: u)
        have hlt : l.length ≠ 0 := by intro h0; exact hz (List.length_eq_zero_iff.1 h0)
        refine ⟨he, by simp only [htk]; omega, by simp only [htk, hl], hq, ⟨fun h => absurd h (kindN_pos l), fun h => absurd h hne⟩, ⟨fun h => absurd h (kindN_pos l), fun h => ?_⟩, by simp only [htk]; exact hc⟩
        simp only at h
        rw [h] at htk
        simp at htk; omega

/-! ### put together -/
def gapB (g : UInt8) : Prop := g.toNat = 32 ∨ g.toNat = 10 ∨ g.toNat = 45
def GoodT (t : Tok) : Prop := t.text ≠ [] ∧ (∀ x ∈ t.text, x.toNat < 128) ∧ ∀ g r, gapB g → tokN (t.text ++ g :: r) = t.text.length ∧ kindN (t.text ++ g :: r) = t.kind ∧ passN false (t.text ++ g :: r) = 0
def Good : List Tok → Prop
  | [] => False
  | [t] => t.kind = 0 ∧ t.text = []
  | t :: r => GoodT t ∧ Good r
theorem word_cut (l : Bs) (g : UInt8) (r : Bs) (hg : gapB g) : wordN (l.take (wordN l) ++ g :: r) = wordN l := by
  have hgl : (letterB g || digitB g) = false := by
    unfold gapB at hg
    simp only [letterB, digitB, Bool.or_eq_false_iff, decide_eq_false_iff_not]
    omega
  induction l with
  | nil => simp [wordN, hgl]
  | cons c t ih =>
    simp only [wordN]
    split
    · rename_i h
      rw [Nat.add_comm, List.take_succ_cons, List.cons_append]
      simp only [wordN, h, if_true, ih]; omega
    · simp [wordN, hgl]
theorem word_ascii (l : Bs) : ∀ x ∈ l.take (wordN l), x.toNat < 128 := by
  induction l with
  | nil => simp [wordN]
  | cons c t ih =>
    simp only [wordN]
    split
    · rename_i h
      rw [Nat.add_comm, List.take_succ_cons]
      intro x hx
      rcases List.mem_cons.1 hx with rfl | hx
      · simp only [letterB, digitB, Bool.or_eq_true, decide_eq_true_eq] at h; omega
      · exact ih x hx
    · simp
theorem letter_pass {c : UInt8} {t : Bs} (h : letterB c = true) : passN false (c :: t) = 0 := by
  simp only [letterB, decide_eq_true_eq] at h
  exact passN_stop (by simp only [blankB, decide_eq_false_iff_not]; omega) (fun hh => by omega)
theorem one_cases {c : UInt8} (h : oneB c = true) : c.toNat < 128 ∧ c.toNat ≠ 45 ∧ blankB c = false ∧ letterB c = false := by
  simp only [oneB, decide_eq_true_eq, List.mem_cons, List.mem_nil_iff, or_false] at h
  refine ⟨by omega, by omega, ?_, ?_⟩
  · simp only [blankB, decide_eq_false_iff_not]; omega
  · simp only [letterB, decide_eq_false_iff_not]; omega
theorem good_of (l : Bs) (p : Nat) (h : tokN l ≠ 0) : GoodT ⟨kindN l, l.take (tokN l), p⟩ := by
  have hle := tokN_le l
  cases l with
  | nil => exact absurd rfl (tokN_zero_kind _ h)
  | cons c t =>
    by_cases hl : letterB c = true
    · have hn : nameN (c :: t) = 1 + wordN t := by simp [nameN, hl]
      have ht : tokN (c :: t) = 1 + wordN t := by simp only [tokN, hn]; rw [if_pos (by omega)]
      have hk : kindN (c :: t) = 1 := by simp only [kindN, hn]; rw [if_pos (by omega)]
      have e : (c :: t).take (tokN (c :: t)) = c :: t.take (wordN t) := by rw [ht, Nat.add_comm, List.take_succ_cons]
      refine ⟨by simp only [e]; simp, by
        simp only [e]
        intro x hx
        rcases List.mem_cons.1 hx with rfl | hx
        · simp only [letterB, decide_eq_true_eq] at hl; omega
        · exact word_ascii t x hx, fun g r hg => ?_⟩
      simp only [e, hk, List.cons_append]
      have hn2 : nameN (c :: (t.take (wordN t) ++ g :: r)) = 1 + wordN t := by simp [nameN, hl, word_cut t g r hg]
      have hwl := wordN_le t
      have hlen : (c :: t.take (wordN t)).length = 1 + wordN t := by simp; omega
      refine ⟨?_, ?_, letter_pass hl⟩
      · simp only [tokN, hn2, hlen]; rw [if_pos (by omega)]
      · simp only [kindN, hn2]; rw [if_pos (by omega)]
    · have hl : letterB c = false := by simpa using hl
      have hn : nameN (c :: t) = 0 := by simp [nameN, hl]
      have hk : kindN (c :: t) = 2 := by simp [kindN, hn]
      have ht : tokN (c :: t) = signN (c :: t) := by simp [tokN, hn]
      by_cases h2 : twoB c t = true
      · cases t with
        | nil => simp [twoB] at h2
        | cons d t =>
          have hs : signN (c :: d :: t) = 2 := by simp [signN, h2]
          have e : (c :: d :: t).take (tokN (c :: d :: t)) = [c, d] := by rw [ht, hs]; rfl
          have h2' := h2
          simp only [twoB, decide_eq_true_eq] at h2'
          refine ⟨by simp only [e]; simp, by
            simp only [e]
            intro x hx
            simp only [List.mem_cons, List.mem_nil_iff, or_false] at hx
            rcases hx with rfl | rfl <;> omega, fun g r hg => ?_⟩
          simp only [e, hk]
          have hn3 : nameN (c :: d :: g :: r) = 0 := by simp [nameN, hl]
          have hs3 : signN (c :: d :: g :: r) = 2 := by
            have : twoB c (d :: g :: r) = true := by simpa [twoB] using h2
            simp [signN, this]
          refine ⟨by simp [tokN, hn3, hs3], by simp [kindN, hn3], ?_⟩
          refine passN_stop (t := d :: g :: r) (by simp only [blankB, decide_eq_false_iff_not]; omega) (fun hh => ?_)
          obtain ⟨a1, a2⟩ := hh
          simp only [dash, decide_eq_true_eq] at a2
          omega
      · have h2 : twoB c t = false := by simpa using h2
        have h1 : oneB c = true := by
          cases ho : oneB c
          · exfalso; apply h; rw [ht]; simp [signN, h2, ho]
          · rfl
        have hs : signN (c :: t) = 1 := by simp [signN, h2, h1]
        have e : (c :: t).take (tokN (c :: t)) = [c] := by rw [ht, hs]; rfl
        obtain ⟨ha, hb, hbl, _⟩ := one_cases h1
        refine ⟨by simp only [e]; simp, by simp only [e]; intro x hx; simp at hx; subst hx; exact ha, fun g r hg => ?_⟩
        simp only [e, hk]
        have hn3 : nameN (c :: g :: r) = 0 := by simp [nameN, hl]
        have ht3 : twoB c (g :: r) = false := by
          unfold gapB at hg
          simp only [twoB, decide_eq_false_iff_not]; omega
        have hs3 : signN (c :: g :: r) = 1 := by simp [signN, ht3, h1]
        exact ⟨by simp [tokN, hn3, hs3], by simp [kindN, hn3], passN_stop hbl (fun hh => hb hh.1)⟩
theorem good_ne {ts : List Tok} (h : Good ts) : ts ≠ [] := by rintro rfl; exact h
theorem scanP_good : ∀ (f p : Nat) (l : Bs) (ts : List Tok), scanP f p l = .inr ts → Good ts := by
  intro f
  induction f with
  | zero => intro p l ts h; simp [scanP] at h
  | succ f ih =>
    intro p l ts h
    by_cases hz : l = []
    · subst hz
      simp only [scanP_nil, Sum.inr.injEq] at h
      subst h
      exact ⟨rfl, rfl⟩
    · by_cases hn : tokN l = 0
      · rw [scanP_bad f p l hz hn] at h; simp at h
      · rw [scanP_tok f p l hz hn] at h
        obtain ⟨u, hu, rfl⟩ := finR_right h
        have hg := ih _ _ u hu
        cases u with
        | nil => exact absurd rfl (good_ne hg)
        | cons a u => exact ⟨good_of l p hn, hg⟩

def joinT (gap : Bs) (ts : List Tok) : Bs := ts.flatMap fun t => t.text ++ gap
def ktT (t : Tok) : Nat × Bs := (t.kind, t.text)
theorem utfP_ascii : ∀ (f : Nat) (l : Bs), l.length < f → (∀ x ∈ l, x.toNat < 128) → utfP f l = l.length := by
  intro f
  induction f with
  | zero => intro l h; omega
  | succ f ih =>
    intro l h ha
    cases l with
    | nil => rfl
    | cons c t =>
      have hc : c.toNat < 128 := ha c (by simp)
      have hs : stepN (c :: t) = 1 := by
        simp only [stepN, stepM, Lib.decodeN, List.getD_cons_zero, hc, if_true]
        rw [if_neg (by omega)]
      simp only [utfP, hs]
      simp at h
      rw [if_neg (by omega), List.drop_succ_cons, List.drop_zero, ih t (by omega) (fun x hx => ha x (by simp [hx]))]
      simp; omega
theorem gap_pass (gap : Bs) (hg : gap = [32] ∨ gap = [10] ∨ gap = [45, 45, 10]) (r : Bs) : passN false (gap ++ r) = gap.length + passN false r := by
  rcases hg with rfl | rfl | rfl
  · simp [passN, blankB]
  · simp [passN, blankB]
  · simp [passN, blankB, dash]; omega
theorem gap_head (gap : Bs) (hg : gap = [32] ∨ gap = [10] ∨ gap = [45, 45, 10]) : ∃ g r, gap = g :: r ∧ gapB g := by
  rcases hg with rfl | rfl | rfl
  · exact ⟨_, _, rfl, .inl rfl⟩
  · exact ⟨_, _, rfl, .inr (.inl rfl)⟩
  · exact ⟨_, _, rfl, .inr (.inr rfl)⟩
theorem gap_ascii (gap : Bs) (hg : gap = [32] ∨ gap = [10] ∨ gap = [45, 45, 10]) : ∀ x ∈ gap, x.toNat < 128 := by
  rcases hg with rfl | rfl | rfl <;> decide
theorem join_ascii (gap : Bs) (hg : gap = [32] ∨ gap = [10] ∨ gap = [45, 45, 10]) : ∀ (ts : List Tok), Good ts → ∀ x ∈ joinT gap ts, x.toNat < 128 := by
  intro ts
  induction ts with
  | nil => intro h; exact absurd h (by simp [Good])
  | cons t r ih =>
    intro h x hx
    have e : joinT gap (t :: r) = t.text ++ gap ++ joinT gap r := by simp [joinT]
    rw [e] at hx
    cases r with
    | nil =>
      have ht : t.text = [] := h.2
      simp [ht, joinT] at hx
      exact gap_ascii gap hg x hx
    | cons a r =>
      obtain ⟨hT, hr⟩ : GoodT t ∧ Good (a :: r) := h
      rcases List.mem_append.1 hx with hx | hx
      · rcases List.mem_append.1 hx with hx | hx
        · exact hT.2.1 x hx
        · exact gap_ascii gap hg x hx
      · exact ih hr x hx
theorem scan_join (gap : Bs) (hg : gap = [32] ∨ gap = [10] ∨ gap = [45, 45, 10]) : ∀ (ts : List Tok) (f p : Nat), Good ts → (joinT gap ts).length < f → ∃ us, scanQ f p (joinT gap ts) = .inr us ∧ us.map ktT = ts.map ktT := by
  intro ts
  induction ts with
  | nil => intro f p h; exact absurd h (by simp [Good])
  | cons t r ih =>
    intro f p h hf
    have e : joinT gap (t :: r) = t.text ++ (gap ++ joinT gap r) := by simp [joinT]
    obtain ⟨f, rfl⟩ : ∃ k, f = k + 1 := ⟨f - 1, by omega⟩
    cases r with
    | nil =>
      have ht : t.text = [] := h.2
      have hk : t.kind = 0 := h.1
      have e2 : joinT gap [t] = gap := by simp [joinT, ht]
      have hp : passN false gap = gap.length := by have := gap_pass gap hg []; simpa [passN] using this
      rw [e2, scanQ, hp, List.drop_length, scanP_nil]
      exact ⟨_, rfl, by simp [ktT, ht, hk]⟩
    | cons a r =>
      obtain ⟨hT, hr⟩ : GoodT t ∧ Good (a :: r) := h
      obtain ⟨g, g', eg, hgb⟩ := gap_head gap hg
      rw [e] at hf ⊢
      have hc : gap ++ joinT gap (a :: r) = g :: (g' ++ joinT gap (a :: r)) := by rw [eg]; rfl
      obtain ⟨h1, h2, h3⟩ := hT.2.2 g (g' ++ joinT gap (a :: r)) hgb
      rw [← hc] at h1 h2 h3
      have htl : t.text.length ≠ 0 := fun h0 => hT.1 (List.length_eq_zero_iff.1 h0)
      have hlen : (t.text ++ (gap ++ joinT gap (a :: r))).length = t.text.length + (gap.length + (joinT gap (a :: r)).length) := by simp
      rw [scanQ, h3, List.drop_zero]
      show ∃ us, scanP (f + 1) p _ = _ ∧ _
      rw [scanP_tok f p (t.text ++ (gap ++ joinT gap (a :: r))) (by simp [hT.1]) (by rw [h1]; exact htl), h1, h2, List.drop_left, List.take_left]
      obtain ⟨us, hu, hm⟩ := ih f (p + t.text.length + gap.length) hr (by omega)
      refine ⟨⟨t.kind, t.text, p⟩ :: us, ?_, by simp [hm, ktT]⟩
      have : scanQ f (p + t.text.length) (gap ++ joinT gap (a :: r)) = scanQ f (p + t.text.length + gap.length) (joinT gap (a :: r)) := by
        rw [scanQ, scanQ, gap_pass gap hg, List.drop_append, List.drop_of_length_le (by omega), Nat.add_sub_cancel_left, ← Nat.add_assoc, List.nil_append]
      rw [this, hu]
      rfl
theorem utfP_le : ∀ (f : Nat) (l : Bs), utfP f l ≤ l.length := by
  intro f
  induction f with
  | zero => intro l; simp [utfP]
  | succ f ih =>
    intro l
    cases l with
    | nil => simp [utfP]
    | cons c t =>
      simp only [utfP]
      split
      · omega
      · have h1 := ih ((c :: t).drop (stepN (c :: t)))
        have h2 := stepN_le (c :: t) (by simp)
        rw [List.length_drop] at h1
        omega
theorem bad_le : ∀ (f p : Nat) (l : Bs) (e : Nat), scanP f p l = .inl e → e ≤ p + l.length := by
  intro f
  induction f with
  | zero => intro p l e h; simp [scanP] at h; omega
  | succ f ih =>
    intro p l e h
    by_cases hz : l = []
    · subst hz; simp [scanP_nil] at h
    · by_cases hn : tokN l = 0
      · rw [scanP_bad f p l hz hn] at h; simp at h; omega
      · rw [scanP_tok f p l hz hn] at h
        cases hr : scanQ f (p + tokN l) (l.drop (tokN l)) with
        | inr u => rw [hr] at h; simp [finR] at h
        | inl e2 =>
          rw [hr] at h
          simp [finR] at h
          subst h
          have h1 := ih _ _ _ hr
          have h2 := passN_le false (l.drop (tokN l))
          have h3 := tokN_le l
          simp at h1 h2
          omega
/-- What LexJoins asks. -/
theorem scanF_ok {s : Bs} (h : (scanF s).2.2 = 0) : s.length ≤ 65536 ∧ utfP (s.length + 1) s = s.length ∧ scanQ (s.length + 1) 0 s = .inr (scanF s).1 ∧ (scanF s).2.1 = 0 := by
  have hq : scanQ (s.length + 1) 0 s = scanP (s.length + 1) (passN false s) (s.drop (passN false s)) := by rw [scanQ, Nat.zero_add]
  rw [hq]
  unfold scanF at h ⊢
  by_cases h1 : 65536 < s.length
  · simp [h1] at h
  · rw [if_neg h1] at h ⊢
    by_cases h2 : utfP (s.length + 1) s < s.length
    · simp [h2] at h
    · rw [if_neg h2] at h ⊢
      cases hr : scanP (s.length + 1) (passN false s) (s.drop (passN false s)) with
      | inl e => rw [hr] at h; simp [ansOf] at h
      | inr ts => exact ⟨by omega, by have := utfP_le (s.length + 1) s; omega, by simp [ansOf], by simp [ansOf]⟩
theorem scanF_join {s : Bs} (h : (scanF s).2.2 = 0) (gap : Bs) (hg : gap = [32] ∨ gap = [10] ∨ gap = [45, 45, 10]) (hl : (joinT gap (scanF s).1).length ≤ 65536) :
    (scanF (joinT gap (scanF s).1)).2.2 = 0 ∧ (scanF (joinT gap (scanF s).1)).2.1 = 0 ∧ (scanF (joinT gap (scanF s).1)).1.map ktT = (scanF s).1.map ktT := by
  obtain ⟨_, _, hq, _⟩ := scanF_ok h
  have hG : Good (scanF s).1 := scanP_good _ _ _ _ hq
  generalize (scanF s).1 = ts at *
  obtain ⟨us, hu, hm⟩ := scan_join gap hg ts ((joinT gap ts).length + 1) 0 hG (by omega)
  have hU := utfP_ascii ((joinT gap ts).length + 1) (joinT gap ts) (by omega) (join_ascii gap hg ts hG)
  rw [scanQ, Nat.zero_add] at hu
  have : scanF (joinT gap ts) = (us, 0, 0) := by
    unfold scanF
    rw [if_neg (by omega), if_neg (by omega), hu]
    rfl
  rw [this]
  exact ⟨rfl, rfl, hm⟩
theorem scanF_cov {s : Bs} (h : (scanF s).2.2 = 0) : Cov s 0 (scanF s).1 ∧ (scanF s).1 ≠ [] := by
  obtain ⟨_, _, hq, _⟩ := scanF_ok h
  have hp := passN_le false s
  refine scanP_cov s _ _ _ _ 0 ?_ ?_ (Nat.zero_le _) ?_ hq
  · rw [Nat.zero_add]
  · omega
  · rw [Nat.zero_add, List.drop_zero, Nat.sub_zero, passN_take]
theorem scanF_bad {s : Bs} (h : (scanF s).2.2 ≠ 0) : (scanF s).1 = [] ∧ (scanF s).2.1 ≤ s.length := by
  unfold scanF at h ⊢
  by_cases h1 : 65536 < s.length
  · simp [h1]
  · rw [if_neg h1] at h ⊢
    by_cases h2 : utfP (s.length + 1) s < s.length
    · rw [if_pos h2] at h ⊢; exact ⟨rfl, Nat.le_of_lt h2⟩
    · rw [if_neg h2] at h ⊢
      cases hr : scanP (s.length + 1) (passN false s) (s.drop (passN false s)) with
      | inr ts => rw [hr] at h; simp [ansOf] at h
      | inl e =>
        refine ⟨rfl, ?_⟩
        have := bad_le (s.length + 1) _ _ e hr
        have h3 := passN_le false s
        simp at this
        show e ≤ _
        omega

theorem scanP_count : ∀ (f p : Nat) (l : Bs) (ts : List Tok), scanP f p l = .inr ts → ts.length ≤ l.length + 1 := by
  intro f
  induction f with
  | zero => intro p l ts h; simp [scanP] at h
  | succ f ih =>
    intro p l ts h
    by_cases hz : l = []
    · subst hz
      simp only [scanP_nil, Sum.inr.injEq] at h
      subst h
      simp
    · by_cases hn : tokN l = 0
      · rw [scanP_bad f p l hz hn] at h; simp at h
      · rw [scanP_tok f p l hz hn] at h
        obtain ⟨u, hu, rfl⟩ := finR_right h
        have h1 := ih _ _ u hu
        have h2 := tokN_le l
        simp at h1 ⊢
        omega
theorem tok_count_list {s : Bs} (h : (scanF s).2.2 = 0) : (scanF s).1.length ≤ s.length + 1 := by
  obtain ⟨_, _, hq, _⟩ := scanF_ok h
  have := scanP_count _ _ _ _ hq
  simp at this
  omega
theorem scanF_place (s : Bs) : (scanF s).2.1 ≤ s.length := by
  by_cases h : (scanF s).2.2 = 0
  · rw [(scanF_ok h).2.2.2]; omega
  · exact (scanF_bad h).2
end Go.Proofs.YtahnbigkdfmpbaaDoor
