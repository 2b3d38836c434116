/- For ShowBack: how a text that is put together scans, piece by piece. -/
import Derived.Test.YtahnbigkdfmpbaaDoorSMath
namespace Go.Proofs.YtahnbigkdfmpbaaDoor
set_option linter.unusedVariables false
set_option linter.unusedSimpArgs false

/-- A token without its place. -/
abbrev Kt := Nat × Bs
/-- The text l scans to the tokens ks (places let go; the end's token among them). -/
def Sc (l : Bs) (ks : List Kt) : Prop := ∀ f p, l.length < f → ∃ us, scanQ f p l = .inr us ∧ us.map ktT = ks
/-- A rest that no name goes on into. -/
def Brk (r : Bs) : Prop := ∀ c t, r = c :: t → letterB c = false ∧ digitB c = false
/-- A rest that does not begin with the byte k. -/
def Not1 (k : Nat) (r : Bs) : Prop := ∀ c t, r = c :: t → c.toNat ≠ k
theorem sc_nil : Sc [] [(0, [])] := by
  intro f p hf
  obtain ⟨f, rfl⟩ : ∃ k, f = k + 1 := ⟨f - 1, by omega⟩
  exact ⟨_, rfl, rfl⟩
theorem sc_blank {c : UInt8} {l : Bs} {ks : List Kt} (hc : blankB c = true) (h : Sc l ks) : Sc (c :: l) ks := by
  intro f p hf
  obtain ⟨us, hu, hm⟩ := h f (p + 1) (by simp at hf; omega)
  refine ⟨us, ?_, hm⟩
  rw [← hu, scanQ, scanQ, passN_blank hc, Nat.add_comm 1, List.drop_succ_cons]
  congr 1
  omega
theorem sc_tok {t r : Bs} {k : Nat} {ks : List Kt} (h0 : t ≠ []) (h1 : tokN (t ++ r) = t.length) (h2 : kindN (t ++ r) = k) (h3 : passN false (t ++ r) = 0) (h : Sc r ks) : Sc (t ++ r) ((k, t) :: ks) := by
  intro f p hf
  obtain ⟨f, rfl⟩ : ∃ k, f = k + 1 := ⟨f - 1, by omega⟩
  have htl : t.length ≠ 0 := fun e => h0 (List.length_eq_zero_iff.1 e)
  obtain ⟨us, hu, hm⟩ := h f (p + t.length) (by rw [List.length_append] at hf; omega)
  refine ⟨⟨k, t, p⟩ :: us, ?_, by simp [hm, ktT]⟩
  rw [scanQ, h3, List.drop_zero]
  show scanP (f + 1) p _ = _
  rw [scanP_tok f p (t ++ r) (by simp [h0]) (by rw [h1]; exact htl), h1, h2, List.drop_left, List.take_left, hu]
  rfl
theorem word_brk {t r : Bs} (ht : t.all (fun c => letterB c || digitB c) = true) (hr : Brk r) : wordN (t ++ r) = t.length := by
  induction t with
  | nil =>
    cases r with
    | nil => rfl
    | cons c r =>
      obtain ⟨e1, e2⟩ := hr c r rfl
      show wordN (c :: r) = 0
      simp [wordN, e1, e2]
  | cons c t ih =>
    rw [List.all_cons, Bool.and_eq_true] at ht
    show wordN (c :: (t ++ r)) = _
    rw [wordN, if_pos ht.1, ih ht.2, List.length_cons]
    omega
theorem sc_name {s r : Bs} {ks : List Kt} (hs : nameB s = true) (hr : Brk r) (h : Sc r ks) : Sc (s ++ r) ((1, s) :: ks) := by
  match s, hs with
  | c :: t, hs =>
    unfold nameB at hs
    rw [Bool.and_eq_true] at hs
    have hn : nameN (c :: t ++ r) = (c :: t).length := by
      show nameN (c :: (t ++ r)) = _
      rw [nameN, if_pos hs.1, word_brk hs.2 hr, List.length_cons]
      omega
    refine sc_tok (by simp) ?_ ?_ (letter_pass hs.1) h
    · unfold tokN
      rw [if_pos (by rw [hn]; simp), hn]
    · unfold kindN
      rw [if_pos (by rw [hn]; simp)]
theorem sign_name {c : UInt8} {t : Bs} (h : letterB c = false) : ¬ 0 < nameN (c :: t) := by
  rw [nameN, if_neg (by rw [h]; simp)]
  omega
/-- A sign of one byte, ahead of a rest with which it makes none of two. -/
theorem sc_one {c : UInt8} {r : Bs} {ks : List Kt} (hc : oneB c = true) (hr : twoB c r = false) (h : Sc r ks) : Sc (c :: r) ((2, [c]) :: ks) := by
  obtain ⟨_, h2, h3, h4⟩ := one_cases hc
  have hn := sign_name (t := r) h4
  refine sc_tok (t := [c]) (r := r) (by simp) ?_ ?_ ?_ h
  · show tokN (c :: r) = 1
    unfold tokN
    rw [if_neg hn, signN, if_neg (by rw [hr]; simp), if_pos hc]
  · show kindN (c :: r) = 2
    unfold kindN
    rw [if_neg hn]
  · exact passN_stop h3 (fun e => h2 e.1)
/-- A sign of two bytes. -/
theorem sc_two {c d : UInt8} {r : Bs} {ks : List Kt} (hc : twoB c (d :: r) = true) (hl : letterB c = false) (hb : blankB c = false) (hd : d.toNat ≠ 45) (h : Sc r ks) : Sc (c :: d :: r) ((2, [c, d]) :: ks) := by
  have hn := sign_name (t := d :: r) hl
  refine sc_tok (t := [c, d]) (r := r) (by simp) ?_ ?_ ?_ h
  · show tokN (c :: d :: r) = 2
    unfold tokN
    rw [if_neg hn, signN, if_pos hc]
  · show kindN (c :: d :: r) = 2
    unfold kindN
    rw [if_neg hn]
  · exact passN_stop hb (fun e => hd (by simpa [dash] using e.2))
theorem sc_two_not {c : UInt8} {r : Bs} (h1 : c.toNat ≠ 45) (h2 : c.toNat ≠ 47) (h3 : c.toNat ≠ 92) : twoB c r = false := by
  unfold twoB
  cases r with
  | nil => rfl
  | cons d r => simp; omega
theorem two_lam {r : Bs} (h : Not1 47 r) : twoB 92 r = false := by
  unfold twoB
  cases r with
  | nil => rfl
  | cons d r => have := h d r rfl; simp; exact this
/-! ### each sign that a shown text has -/
theorem sc_open {r : Bs} {ks : List Kt} (h : Sc r ks) : Sc (40 :: r) ((2, [40]) :: ks) := sc_one (by decide) (sc_two_not (by decide) (by decide) (by decide)) h
theorem sc_shut {r : Bs} {ks : List Kt} (h : Sc r ks) : Sc (41 :: r) ((2, [41]) :: ks) := sc_one (by decide) (sc_two_not (by decide) (by decide) (by decide)) h
theorem sc_bopen {r : Bs} {ks : List Kt} (h : Sc r ks) : Sc (91 :: r) ((2, [91]) :: ks) := sc_one (by decide) (sc_two_not (by decide) (by decide) (by decide)) h
theorem sc_bshut {r : Bs} {ks : List Kt} (h : Sc r ks) : Sc (93 :: r) ((2, [93]) :: ks) := sc_one (by decide) (sc_two_not (by decide) (by decide) (by decide)) h
theorem sc_comma {r : Bs} {ks : List Kt} (h : Sc r ks) : Sc (44 :: r) ((2, [44]) :: ks) := sc_one (by decide) (sc_two_not (by decide) (by decide) (by decide)) h
theorem sc_dot {r : Bs} {ks : List Kt} (h : Sc r ks) : Sc (46 :: r) ((2, [46]) :: ks) := sc_one (by decide) (sc_two_not (by decide) (by decide) (by decide)) h
theorem sc_colon {r : Bs} {ks : List Kt} (h : Sc r ks) : Sc (58 :: r) ((2, [58]) :: ks) := sc_one (by decide) (sc_two_not (by decide) (by decide) (by decide)) h
theorem sc_semi {r : Bs} {ks : List Kt} (h : Sc r ks) : Sc (59 :: r) ((2, [59]) :: ks) := sc_one (by decide) (sc_two_not (by decide) (by decide) (by decide)) h
theorem sc_equal {r : Bs} {ks : List Kt} (h : Sc r ks) : Sc (61 :: r) ((2, [61]) :: ks) := sc_one (by decide) (sc_two_not (by decide) (by decide) (by decide)) h
theorem sc_less {r : Bs} {ks : List Kt} (h : Sc r ks) : Sc (60 :: r) ((2, [60]) :: ks) := sc_one (by decide) (sc_two_not (by decide) (by decide) (by decide)) h
theorem sc_more {r : Bs} {ks : List Kt} (h : Sc r ks) : Sc (62 :: r) ((2, [62]) :: ks) := sc_one (by decide) (sc_two_not (by decide) (by decide) (by decide)) h
theorem sc_at {r : Bs} {ks : List Kt} (h : Sc r ks) : Sc (64 :: r) ((2, [64]) :: ks) := sc_one (by decide) (sc_two_not (by decide) (by decide) (by decide)) h
theorem sc_not {r : Bs} {ks : List Kt} (h : Sc r ks) : Sc (126 :: r) ((2, [126]) :: ks) := sc_one (by decide) (sc_two_not (by decide) (by decide) (by decide)) h
theorem sc_star {r : Bs} {ks : List Kt} (h : Sc r ks) : Sc (42 :: r) ((2, [42]) :: ks) := sc_one (by decide) (sc_two_not (by decide) (by decide) (by decide)) h
theorem sc_zero {r : Bs} {ks : List Kt} (h : Sc r ks) : Sc (48 :: r) ((2, [48]) :: ks) := sc_one (by decide) (sc_two_not (by decide) (by decide) (by decide)) h
theorem sc_unit {r : Bs} {ks : List Kt} (h : Sc r ks) : Sc (49 :: r) ((2, [49]) :: ks) := sc_one (by decide) (sc_two_not (by decide) (by decide) (by decide)) h
theorem sc_lam {r : Bs} {ks : List Kt} (hr : Not1 47 r) (h : Sc r ks) : Sc (92 :: r) ((2, [92]) :: ks) := sc_one (by decide) (two_lam hr) h
theorem sc_arrow {r : Bs} {ks : List Kt} (h : Sc r ks) : Sc (45 :: 62 :: r) ((2, [45, 62]) :: ks) := sc_two rfl (by decide) (by decide) (by decide) h
theorem sc_and {r : Bs} {ks : List Kt} (h : Sc r ks) : Sc (47 :: 92 :: r) ((2, [47, 92]) :: ks) := sc_two rfl (by decide) (by decide) (by decide) h
theorem sc_or {r : Bs} {ks : List Kt} (h : Sc r ks) : Sc (92 :: 47 :: r) ((2, [92, 47]) :: ks) := sc_two rfl (by decide) (by decide) (by decide) h
theorem sc_gap {r : Bs} {ks : List Kt} (h : Sc r ks) : Sc (32 :: r) ks := sc_blank (by decide) h
theorem sc_line {r : Bs} {ks : List Kt} (h : Sc r ks) : Sc (10 :: r) ks := sc_blank (by decide) h
end Go.Proofs.YtahnbigkdfmpbaaDoor
