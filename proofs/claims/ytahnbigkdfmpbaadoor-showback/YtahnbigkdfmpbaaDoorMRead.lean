/- For ShowBack: how a text that is put together scans, piece by piece. For ShowBack: the tokens of a tree's text. For ShowBack: the text of a tree that may be scans to its tokens. For ShowBack: the text of a tree that may be is of plain bytes, and how scanF answers. For ShowBack: what a tree that may be is, by its kind; the tokens of its text, as the rules of reading meet them. For ShowBack: how the tokens of a tree's text begin, that its brackets are even, and where no binder begins. For ShowBack: the tokens of a dim are read as that dim, or as what is too deep. For ShowBack: the tokens of a term are read as that term, or as what is too deep. -/
import Derived.Test.YtahnbigkdfmpbaaDoorMMath
import Derived.Test.YtahnbigkdfmpbaaDoorSPart
namespace Go.Proofs.YtahnbigkdfmpbaaDoor
set_option linter.unusedVariables false
set_option linter.unusedSimpArgs false

/-- A token without its place. -/
abbrev Kt := Nat × Bs
/-- The text l scans to the tokens ks (places let go; the end's token among them). -/
def Sc (l : Bs) (ks : List Kt) : Prop := ∀ f p, l.length < f → ∃ us, scanQ f p l = .inr us ∧ us.map ktT = ks
/-- A rest that no name goes on into. -/
def Brk (r : Bs) : Prop := ∀ c t, r = c :: t → letterB c = false ∧ digitB c = false
/-- A rest that does not begin with the byte k. -/
def Not1 (k : Nat) (r : Bs) : Prop := ∀ c t, r = c :: t → c.toNat ≠ k
theorem sc_nil : Sc [] [(0, [])] := by
  intro f p hf
  obtain ⟨f, rfl⟩ : ∃ k, f = k + 1 := ⟨f - 1, by omega⟩
  exact ⟨_, rfl, rfl⟩
theorem sc_blank {c : UInt8} {l : Bs} {ks : List Kt} (hc : blankB c = true) (h : Sc l ks) : Sc (c :: l) ks := by
  intro f p hf
  obtain ⟨us, hu, hm⟩ := h f (p + 1) (by simp at hf; omega)
  refine ⟨us, ?_, hm⟩
  rw [← hu, scanQ, scanQ, passN_blank hc, Nat.add_comm 1, List.drop_succ_cons]
  congr 1
  omega
theorem sc_tok {t r : Bs} {k : Nat} {ks : List Kt} (h0 : t ≠ []) (h1 : tokN (t ++ r) = t.length) (h2 : kindN (t ++ r) = k) (h3 : passN false (t ++ r) = 0) (h : Sc r ks) : Sc (t ++ r) ((k, t) :: ks) := by
  intro f p hf
  obtain ⟨f, rfl⟩ : ∃ k, f = k + 1 := ⟨f - 1, by omega⟩
  have htl : t.length ≠ 0 := fun e => h0 (List.length_eq_zero_iff.1 e)
  obtain ⟨us, hu, hm⟩ := h f (p + t.length) (by rw [List.length_append] at hf; omega)
  refine ⟨⟨k, t, p⟩ :: us, ?_, by simp [hm, ktT]⟩
  rw [scanQ, h3, List.drop_zero]
  show scanP (f + 1) p _ = _
  rw [scanP_tok f p (t ++ r) (by simp [h0]) (by rw [h1]; exact htl), h1, h2, List.drop_left, List.take_left, hu]
  rfl
theorem word_brk {t r : Bs} (ht : t.all (fun c => letterB c || digitB c) = true) (hr : Brk r) : wordN (t ++ r) = t.length := by
  induction t with
  | nil =>
    cases r with
    | nil => rfl
    | cons c r =>
      obtain ⟨e1, e2⟩ := hr c r rfl
      show wordN (c :: r) = 0
      simp [wordN, e1, e2]
  | cons c t ih =>
    rw [List.all_cons, Bool.and_eq_true] at ht
    show wordN (c :: (t ++ r)) = _
    rw [wordN, if_pos ht.1, ih ht.2, List.length_cons]
    omega
theorem sc_name {s r : Bs} {ks : List Kt} (hs : nameB s = true) (hr : Brk r) (h : Sc r ks) : Sc (s ++ r) ((1, s) :: ks) := by
  match s, hs with
  | c :: t, hs =>
    unfold nameB at hs
    rw [Bool.and_eq_true] at hs
    have hn : nameN (c :: t ++ r) = (c :: t).length := by
      show nameN (c :: (t ++ r)) = _
      rw [nameN, if_pos hs.1, word_brk hs.2 hr, List.length_cons]
      omega
    refine sc_tok (by simp) ?_ ?_ (letter_pass hs.1) h
    · unfold tokN
      rw [if_pos (by rw [hn]; simp), hn]
    · unfold kindN
      rw [if_pos (by rw [hn]; simp)]
theorem sign_name {c : UInt8} {t : Bs} (h : letterB c = false) : ¬ 0 < nameN (c :: t) := by
  rw [nameN, if_neg (by rw [h]; simp)]
  omega
/-- A sign of one byte, ahead of a rest with which it makes none of two. -/
theorem sc_one {c : UInt8} {r : Bs} {ks : List Kt} (hc : oneB c = true) (hr : twoB c r = false) (h : Sc r ks) : Sc (c :: r) ((2, [c]) :: ks) := by
  obtain ⟨_, h2, h3, h4⟩ := one_cases hc
  have hn := sign_name (t := r) h4
  refine sc_tok (t := [c]) (r := r) (by simp) ?_ ?_ ?_ h
  · show tokN (c :: r) = 1
    unfold tokN
    rw [if_neg hn, signN, if_neg (by rw [hr]; simp), if_pos hc]
  · show kindN (c :: r) = 2
    unfold kindN
    rw [if_neg hn]
  · exact passN_stop h3 (fun e => h2 e.1)
/-- A sign of two bytes. -/
theorem sc_two {c d : UInt8} {r : Bs} {ks : List Kt} (hc : twoB c (d :: r) = true) (hl : letterB c = false) (hb : blankB c = false) (hd : d.toNat ≠ 45) (h : Sc r ks) : Sc (c :: d :: r) ((2, [c, d]) :: ks) := by
  have hn := sign_name (t := d :: r) hl
  refine sc_tok (t := [c, d]) (r := r) (by simp) ?_ ?_ ?_ h
  · show tokN (c :: d :: r) = 2
    unfold tokN
    rw [if_neg hn, signN, if_pos hc]
  · show kindN (c :: d :: r) = 2
    unfold kindN
    rw [if_neg hn]
  · exact passN_stop hb (fun e => hd (by simpa [dash] using e.2))
theorem sc_two_not {c : UInt8} {r : Bs} (h1 : c.toNat ≠ 45) (h2 : c.toNat ≠ 47) (h3 : c.toNat ≠ 92) : twoB c r = false := by
  unfold twoB
  cases r with
  | nil => rfl
  | cons d r => simp; omega
theorem two_lam {r : Bs} (h : Not1 47 r) : twoB 92 r = false := by
  unfold twoB
  cases r with
  | nil => rfl
  | cons d r => have := h d r rfl; simp; exact this
/-! ### each sign that a shown text has -/
theorem sc_open {r : Bs} {ks : List Kt} (h : Sc r ks) : Sc (40 :: r) ((2, [40]) :: ks) := sc_one (by decide) (sc_two_not (by decide) (by decide) (by decide)) h
theorem sc_shut {r : Bs} {ks : List Kt} (h : Sc r ks) : Sc (41 :: r) ((2, [41]) :: ks) := sc_one (by decide) (sc_two_not (by decide) (by decide) (by decide)) h
theorem sc_bopen {r : Bs} {ks : List Kt} (h : Sc r ks) : Sc (91 :: r) ((2, [91]) :: ks) := sc_one (by decide) (sc_two_not (by decide) (by decide) (by decide)) h
theorem sc_bshut {r : Bs} {ks : List Kt} (h : Sc r ks) : Sc (93 :: r) ((2, [93]) :: ks) := sc_one (by decide) (sc_two_not (by decide) (by decide) (by decide)) h
theorem sc_comma {r : Bs} {ks : List Kt} (h : Sc r ks) : Sc (44 :: r) ((2, [44]) :: ks) := sc_one (by decide) (sc_two_not (by decide) (by decide) (by decide)) h
theorem sc_dot {r : Bs} {ks : List Kt} (h : Sc r ks) : Sc (46 :: r) ((2, [46]) :: ks) := sc_one (by decide) (sc_two_not (by decide) (by decide) (by decide)) h
theorem sc_colon {r : Bs} {ks : List Kt} (h : Sc r ks) : Sc (58 :: r) ((2, [58]) :: ks) := sc_one (by decide) (sc_two_not (by decide) (by decide) (by decide)) h
theorem sc_semi {r : Bs} {ks : List Kt} (h : Sc r ks) : Sc (59 :: r) ((2, [59]) :: ks) := sc_one (by decide) (sc_two_not (by decide) (by decide) (by decide)) h
theorem sc_equal {r : Bs} {ks : List Kt} (h : Sc r ks) : Sc (61 :: r) ((2, [61]) :: ks) := sc_one (by decide) (sc_two_not (by decide) (by decide) (by decide)) h
theorem sc_less {r : Bs} {ks : List Kt} (h : Sc r ks) : Sc (60 :: r) ((2, [60]) :: ks) := sc_one (by decide) (sc_two_not (by decide) (by decide) (by decide)) h
theorem sc_more {r : Bs} {ks : List Kt} (h : Sc r ks) : Sc (62 :: r) ((2, [62]) :: ks) := sc_one (by decide) (sc_two_not (by decide) (by decide) (by decide)) h
theorem sc_at {r : Bs} {ks : List Kt} (h : Sc r ks) : Sc (64 :: r) ((2, [64]) :: ks) := sc_one (by decide) (sc_two_not (by decide) (by decide) (by decide)) h
theorem sc_not {r : Bs} {ks : List Kt} (h : Sc r ks) : Sc (126 :: r) ((2, [126]) :: ks) := sc_one (by decide) (sc_two_not (by decide) (by decide) (by decide)) h
theorem sc_star {r : Bs} {ks : List Kt} (h : Sc r ks) : Sc (42 :: r) ((2, [42]) :: ks) := sc_one (by decide) (sc_two_not (by decide) (by decide) (by decide)) h
theorem sc_zero {r : Bs} {ks : List Kt} (h : Sc r ks) : Sc (48 :: r) ((2, [48]) :: ks) := sc_one (by decide) (sc_two_not (by decide) (by decide) (by decide)) h
theorem sc_unit {r : Bs} {ks : List Kt} (h : Sc r ks) : Sc (49 :: r) ((2, [49]) :: ks) := sc_one (by decide) (sc_two_not (by decide) (by decide) (by decide)) h
theorem sc_lam {r : Bs} {ks : List Kt} (hr : Not1 47 r) (h : Sc r ks) : Sc (92 :: r) ((2, [92]) :: ks) := sc_one (by decide) (two_lam hr) h
theorem sc_arrow {r : Bs} {ks : List Kt} (h : Sc r ks) : Sc (45 :: 62 :: r) ((2, [45, 62]) :: ks) := sc_two rfl (by decide) (by decide) (by decide) h
theorem sc_and {r : Bs} {ks : List Kt} (h : Sc r ks) : Sc (47 :: 92 :: r) ((2, [47, 92]) :: ks) := sc_two rfl (by decide) (by decide) (by decide) h
theorem sc_or {r : Bs} {ks : List Kt} (h : Sc r ks) : Sc (92 :: 47 :: r) ((2, [92, 47]) :: ks) := sc_two rfl (by decide) (by decide) (by decide) h
theorem sc_gap {r : Bs} {ks : List Kt} (h : Sc r ks) : Sc (32 :: r) ks := sc_blank (by decide) h
theorem sc_line {r : Bs} {ks : List Kt} (h : Sc r ks) : Sc (10 :: r) ks := sc_blank (by decide) h
end Go.Proofs.YtahnbigkdfmpbaaDoor

namespace Go.Proofs.YtahnbigkdfmpbaaDoor
set_option linter.unusedVariables false
set_option linter.unusedSimpArgs false

def sg (l : Bs) : Kt := (2, l)
def nk (l : Bs) : Kt := (1, l)
def partKR (line : Sx → List Kt) (pl : Nat) (t : Sx) : List Kt := if needB t pl then sg [40] :: (line t ++ [sg [41]]) else line t
def arrowK (line : Sx → List Kt) (t : Sx) (sign : Bs) : List Kt :=
  if t.names = [] then partKR line 1 (kd t 0) ++ (sg sign :: partKR line 0 (kd t 1))
  else sg [40] :: nk (t.names.headD []) :: sg [58] :: (partKR line 0 (kd t 0) ++ (sg [41] :: sg sign :: partKR line 0 (kd t 1)))
/-- The texts' tokens, with a sign between. -/
def jnK (sep : Kt) : List (List Kt) → List Kt
  | [] => []
  | x :: l => x ++ (l.map fun y => sep :: y).flatten
def lineKR (line : Sx → List Kt) (t : Sx) : List Kt :=
  if t.kind = 1 then [nk t.name]
  else if t.kind = 17 then [sg t.name]
  else if t.kind = 2 then sg [92] :: (t.names.map nk ++ (sg [46] :: partKR line 0 (kd t 0)))
  else if t.kind = 3 then sg [60] :: (t.names.map nk ++ (sg [62] :: partKR line 0 (kd t 0)))
  else if t.kind = 4 then arrowK line t [45, 62]
  else if t.kind = 5 then arrowK line t [42]
  else if t.kind = 6 then partKR line 2 (kd t 0) ++ partKR line 3 (kd t 1)
  else if t.kind = 7 then partKR line 2 (kd t 0) ++ (sg [64] :: partKR line 6 (kd t 1))
  else if t.kind = 8 then sg [40] :: (partKR line 0 (kd t 0) ++ (sg [44] :: (partKR line 0 (kd t 1) ++ [sg [41]])))
  else if t.kind = 9 then sg [40] :: (partKR line 0 (kd t 0) ++ (sg [58] :: (partKR line 0 (kd t 1) ++ [sg [41]])))
  else if t.kind = 10 then sg [91] :: (jnK (sg [44]) (t.kids.map line) ++ [sg [93]])
  else if t.kind = 11 then line (kd t 0) ++ (if t.kids.length = 2 then sg [45, 62] :: partKR line 0 (kd t 1) else [])
  else if t.kind = 12 then (if t.kids = [] then [sg [49]] else (t.kids.map line).flatten)
  else if t.kind = 13 then [sg [40], nk t.name, sg [61], sg (t.names.headD []), sg [41]]
  else if t.kind = 14 then partKR line 4 (kd t 0) ++ (sg [92, 47] :: partKR line 5 (kd t 1))
  else if t.kind = 15 then partKR line 5 (kd t 0) ++ (sg [47, 92] :: partKR line 6 (kd t 1))
  else if t.kind = 16 then sg [126] :: partKR line 6 (kd t 0)
  else []
def lineK : Nat → Sx → List Kt
  | 0, _ => []
  | f + 1, t => lineKR (lineK f) t
def partK (f pl : Nat) (t : Sx) : List Kt := partKR (lineK f) pl t
/-- A text that scans to these tokens, whatever follows. -/
def LxOK (l : Bs) (ks : List Kt) : Prop := ∀ r us, Brk r → Sc r us → Sc (l ++ r) (ks ++ us)
theorem brk_of {c : UInt8} (r : Bs) (h : letterB c = false ∧ digitB c = false) : Brk (c :: r) := fun d t e => by injection e with e _; rw [← e]; exact h
theorem lx_part {f pl : Nat} {t : Sx} (h : LxOK (lineF f t) (lineK f t)) : LxOK (partF f pl t) (partK f pl t) := by
  intro r us hr hs
  unfold partF partK partR partKR
  split
  · have := h (41 :: r) (sg [41] :: us) (brk_of r (by decide)) (sc_shut hs)
    have := sc_open this
    simpa [sg] using this
  · exact h r us hr hs
theorem sc_names {ns : List Bs} (h : ns.all nameB = true) (h0 : ns ≠ []) : LxOK (jn [32] ns) (ns.map nk) := by
  match ns, h0 with
  | x :: l, _ =>
    rw [List.all_cons, Bool.and_eq_true] at h
    intro r us hr hs
    have tail : ∀ m : List Bs, m.all nameB = true → Sc ((m.map fun y => [32] ++ y).flatten ++ r) (m.map nk ++ us) ∧ Brk ((m.map fun y => [32] ++ y).flatten ++ r) := by
      intro m
      induction m with
      | nil => intro _; exact ⟨by simpa using hs, by simpa using hr⟩
      | cons y m ih =>
        intro hm
        rw [List.all_cons, Bool.and_eq_true] at hm
        obtain ⟨h1, h2⟩ := ih hm.2
        refine ⟨?_, ?_⟩
        · have := sc_gap (sc_name hm.1 h2 h1)
          simpa [nk] using this
        · have := brk_of (y ++ ((m.map fun y => [32] ++ y).flatten ++ r)) (c := 32) (by decide)
          simpa using this
    obtain ⟨h1, h2⟩ := tail l h.2
    have := sc_name h.1 h2 h1
    simpa [jn, nk] using this
end Go.Proofs.YtahnbigkdfmpbaaDoor

namespace Go.Proofs.YtahnbigkdfmpbaaDoor
set_option linter.unusedVariables false
set_option linter.unusedSimpArgs false

theorem not47_names {ns : List Bs} (h : ns.all nameB = true) (h0 : ns ≠ []) (r : Bs) : Not1 47 (jn [32] ns ++ r) := by
  match ns, h0 with
  | x :: l, _ =>
    rw [List.all_cons, Bool.and_eq_true] at h
    match x, h.1 with
    | c :: t, hx =>
      unfold nameB at hx
      rw [Bool.and_eq_true] at hx
      intro d u e
      simp only [jn, List.cons_append] at e
      injection e with e _
      rw [← e]
      intro e2
      have h9 := hx.1
      unfold letterB at h9
      rw [e2] at h9
      simp at h9
theorem lx_digit {s : Bs} (h : digB s = true) : LxOK s [sg s] := by
  intro r us hr hs
  unfold digB at h
  simp only [Bool.or_eq_true, decide_eq_true_eq] at h
  rcases h with rfl | rfl
  · exact sc_zero hs
  · exact sc_unit hs
theorem lx_kids {line : Sx → Bs} {lk : Sx → List Kt} {l : List Sx} (h : ∀ x ∈ l, LxOK (line x) (lk x)) : LxOK (jn [44, 32] (l.map line)) (jnK (sg [44]) (l.map lk)) := by
  intro r us hr hs
  cases l with
  | nil => simpa [jn, jnK] using hs
  | cons x l =>
    have tail : ∀ m : List Sx, (∀ y ∈ m, LxOK (line y) (lk y)) → Sc (((m.map line).map fun y => [44, 32] ++ y).flatten ++ r) (((m.map lk).map fun y => sg [44] :: y).flatten ++ us) ∧ Brk (((m.map line).map fun y => [44, 32] ++ y).flatten ++ r) := by
      intro m
      induction m with
      | nil => intro _; exact ⟨by simpa using hs, by simpa using hr⟩
      | cons y m ih =>
        intro hm
        obtain ⟨h1, h2⟩ := ih (fun z hz => hm z (by simp [hz]))
        refine ⟨?_, ?_⟩
        · have := sc_comma (sc_gap (hm y (by simp) _ _ h2 h1))
          simpa [sg] using this
        · have := brk_of (32 :: (line y ++ (((m.map line).map fun y => [44, 32] ++ y).flatten ++ r))) (c := 44) (by decide)
          simpa using this
    obtain ⟨h1, h2⟩ := tail l (fun z hz => h z (by simp [hz]))
    have := h x (by simp) _ _ h2 h1
    simpa [jn, jnK] using this
theorem lx_eq {q : Sx} (h : eqB q = true) : LxOK (eqR q) [sg [40], nk q.name, sg [61], sg (q.names.headD []), sg [41]] := by
  unfold eqB at h
  simp only [Bool.and_eq_true, decide_eq_true_eq] at h
  obtain ⟨_, hn, hd, _⟩ := h
  unfold digitsB at hd
  match hq : q.names, hd with
  | [d], hd =>
    intro r us hr hs
    unfold eqR
    rw [hq]
    have h1 := lx_digit hd (41 :: r) _ (brk_of r (by decide)) (sc_shut hs)
    have h2 := sc_open (sc_name hn (brk_of _ (c := 61) (by decide)) (sc_equal h1))
    simpa [sg, nk] using h2
/-- The text of a tree that may be scans to its tokens. -/
theorem lx_line (f : Nat) : ∀ (g : Nat) (t : Sx), okF f g t = true → LxOK (lineF f t) (lineK f t) := by
  induction f with
  | zero => intro g t h; rw [okF_z] at h; cases h
  | succ f ih =>
    intro g t h
    rw [okF_s] at h
    rw [lineF_s, show lineK (f + 1) t = lineKR (lineK f) t from rfl]
    have hp : ∀ (pl g : Nat) (x : Sx), okF f g x = true → LxOK (partF f pl x) (partK f pl x) := fun pl g x hx => lx_part (ih g x hx)
    have name1 : t.kind = 1 → nameTreeB t = true → LxOK (lineR (lineF f) t) (lineKR (lineK f) t) := fun hk hn => by
      unfold nameTreeB at hn
      rw [Bool.and_eq_true] at hn
      unfold lineR lineKR
      rw [if_pos (by omega), if_pos hk]
      intro r us hr hs
      exact sc_name hn.1 hr hs
    unfold okR at h
    by_cases g0 : g = 0
    · rw [if_pos g0] at h
      unfold termB at h
      by_cases h1 : t.kind = 1
      · rw [if_pos h1] at h; exact name1 h1 h
      rw [if_neg h1] at h
      by_cases h2 : t.kind = 2 ∨ t.kind = 3
      · rw [if_pos h2] at h
        simp only [Bool.and_eq_true, decide_eq_true_eq] at h
        obtain ⟨_, hne, hna, hka⟩ := h
        obtain ⟨a, hl, hoa⟩ := are1_inv hka
        have k0 : kd t 0 = a := by unfold kd; rw [hl]; rfl
        intro r us hr hs
        have q := hp 0 0 a hoa r us hr hs
        rcases h2 with h2 | h2
        · unfold lineR lineKR
          rw [if_neg (by omega), if_pos h2, if_neg (by omega), if_neg (by omega), if_pos h2, k0]
          have q2 := sc_lam (not47_names hna hne _) (sc_names hna hne _ _ (brk_of _ (c := 46) (by decide)) (sc_dot (sc_gap q)))
          simpa [sg, partF, partK] using q2
        · unfold lineR lineKR
          rw [if_neg (by omega), if_neg (by omega), if_pos h2, if_neg (by omega), if_neg (by omega), if_neg (by omega), if_pos h2, k0]
          have q2 := sc_less (sc_names hna hne _ _ (brk_of _ (c := 62) (by decide)) (sc_more (sc_gap q)))
          simpa [sg, partF, partK] using q2
      rw [if_neg h2] at h
      by_cases h3 : t.kind = 4 ∨ t.kind = 5
      · rw [if_pos h3] at h
        simp only [Bool.and_eq_true, decide_eq_true_eq] at h
        obtain ⟨_, hlt, hna, hka⟩ := h
        obtain ⟨a, c, hl, hoa, hoc⟩ := are2_inv hka
        have k0 : kd t 0 = a := by unfold kd; rw [hl]; rfl
        have k1 : kd t 1 = c := by unfold kd; rw [hl]; rfl
        have arr : ∀ (sgn : Bs) (sk : Bs), (∀ r us, Sc r us → Sc (sgn ++ r) (sg sk :: us)) → (∀ r, Brk (sgn ++ r)) → LxOK (arrowR (lineF f) t sgn) (arrowK (lineK f) t sk) := by
          intro sgn sk hsg hbk r us hr hs
          have q := hsg _ _ (hp 0 0 c hoc r us hr hs)
          unfold arrowR arrowK
          rw [k0, k1]
          match hnm : t.names, hlt with
          | [], _ =>
            rw [if_pos rfl, if_pos rfl]
            have q2 := hp 1 0 a hoa _ _ (hbk _) q
            simpa [sg, partF, partK] using q2
          | [x], _ =>
            rw [if_neg (by simp), if_neg (by simp)]
            rw [hnm] at hna
            simp only [List.all_cons, List.all_nil, Bool.and_true] at hna
            have q2 := hp 0 0 a hoa _ _ (brk_of _ (c := 41) (by decide)) (sc_shut q)
            have q3 := sc_open (sc_name hna (brk_of _ (c := 32) (by decide)) (sc_gap (sc_colon (sc_gap q2))))
            simpa [sg, nk, partF, partK] using q3
        rcases h3 with h3 | h3
        · unfold lineR lineKR
          rw [if_neg (by omega), if_neg (by omega), if_neg (by omega), if_pos h3, if_neg (by omega), if_neg (by omega), if_neg (by omega), if_neg (by omega), if_pos h3]
          exact arr [32, 45, 62, 32] [45, 62] (fun r us hs => sc_gap (sc_arrow (sc_gap hs))) (fun r => brk_of _ (c := 32) (by decide))
        · unfold lineR lineKR
          rw [if_neg (by omega), if_neg (by omega), if_neg (by omega), if_neg (by omega), if_pos h3, if_neg (by omega), if_neg (by omega), if_neg (by omega), if_neg (by omega), if_neg (by omega), if_pos h3]
          exact arr [32, 42, 32] [42] (fun r us hs => sc_gap (sc_star (sc_gap hs))) (fun r => brk_of _ (c := 32) (by decide))
      rw [if_neg h3] at h
      by_cases h4 : t.kind = 6 ∨ t.kind = 8 ∨ t.kind = 9
      · rw [if_pos h4, Bool.and_eq_true] at h
        obtain ⟨a, c, hl, hoa, hoc⟩ := are2_inv h.2
        have k0 : kd t 0 = a := by unfold kd; rw [hl]; rfl
        have k1 : kd t 1 = c := by unfold kd; rw [hl]; rfl
        intro r us hr hs
        rcases h4 with h4 | h4 | h4
        · unfold lineR lineKR
          rw [if_neg (by omega), if_neg (by omega), if_neg (by omega), if_neg (by omega), if_neg (by omega), if_pos h4, if_neg (by omega), if_neg (by omega), if_neg (by omega), if_neg (by omega), if_neg (by omega), if_neg (by omega), if_pos h4, k0, k1]
          have q := hp 2 0 a hoa _ _ (brk_of _ (c := 32) (by decide)) (sc_gap (hp 3 0 c hoc r us hr hs))
          simpa [sg, partF, partK] using q
        · unfold lineR lineKR
          rw [if_neg (by omega), if_neg (by omega), if_neg (by omega), if_neg (by omega), if_neg (by omega), if_neg (by omega), if_neg (by omega), if_pos h4, if_neg (by omega), if_neg (by omega), if_neg (by omega), if_neg (by omega), if_neg (by omega), if_neg (by omega), if_neg (by omega), if_neg (by omega), if_pos h4, k0, k1]
          have q := sc_open (hp 0 0 a hoa _ _ (brk_of _ (c := 44) (by decide)) (sc_comma (sc_gap (hp 0 0 c hoc _ _ (brk_of _ (c := 41) (by decide)) (sc_shut hs)))))
          simpa [sg, partF, partK] using q
        · unfold lineR lineKR
          rw [if_neg (by omega), if_neg (by omega), if_neg (by omega), if_neg (by omega), if_neg (by omega), if_neg (by omega), if_neg (by omega), if_neg (by omega), if_pos h4, if_neg (by omega), if_neg (by omega), if_neg (by omega), if_neg (by omega), if_neg (by omega), if_neg (by omega), if_neg (by omega), if_neg (by omega), if_neg (by omega), if_pos h4, k0, k1]
          have q := sc_open (hp 0 0 a hoa _ _ (brk_of _ (c := 32) (by decide)) (sc_gap (sc_colon (sc_gap (hp 0 0 c hoc _ _ (brk_of _ (c := 41) (by decide)) (sc_shut hs))))))
          simpa [sg, partF, partK] using q
      rw [if_neg h4] at h
      by_cases h7 : t.kind = 7
      · rw [if_pos h7, Bool.and_eq_true] at h
        obtain ⟨a, c, hl, hoa, hoc⟩ := are2_inv h.2
        have k0 : kd t 0 = a := by unfold kd; rw [hl]; rfl
        have k1 : kd t 1 = c := by unfold kd; rw [hl]; rfl
        intro r us hr hs
        unfold lineR lineKR
        rw [if_neg (by omega), if_neg (by omega), if_neg (by omega), if_neg (by omega), if_neg (by omega), if_neg (by omega), if_pos h7, if_neg (by omega), if_neg (by omega), if_neg (by omega), if_neg (by omega), if_neg (by omega), if_neg (by omega), if_neg (by omega), if_pos h7, k0, k1]
        have q := hp 2 0 a hoa _ _ (brk_of _ (c := 32) (by decide)) (sc_gap (sc_at (sc_gap (hp 6 1 c hoc r us hr hs))))
        simpa [sg, partF, partK] using q
      rw [if_neg h7] at h
      by_cases h10 : t.kind = 10
      · rw [if_pos h10, Bool.and_eq_true] at h
        intro r us hr hs
        unfold lineR lineKR
        rw [if_neg (by omega), if_neg (by omega), if_neg (by omega), if_neg (by omega), if_neg (by omega), if_neg (by omega), if_neg (by omega), if_neg (by omega), if_neg (by omega), if_pos h10, if_neg (by omega), if_neg (by omega), if_neg (by omega), if_neg (by omega), if_neg (by omega), if_neg (by omega), if_neg (by omega), if_neg (by omega), if_neg (by omega), if_neg (by omega), if_pos h10]
        have q := sc_bopen (lx_kids (fun x hx => ih 2 x (List.all_eq_true.1 h.2 x hx)) _ _ (brk_of _ (c := 93) (by decide)) (sc_bshut hs))
        simpa [sg] using q
      rw [if_neg h10] at h
      cases h
    rw [if_neg g0] at h
    by_cases g1 : g = 1
    · rw [if_pos g1] at h
      unfold dimB at h
      by_cases h1 : t.kind = 1
      · rw [if_pos h1] at h; exact name1 h1 h
      rw [if_neg h1] at h
      by_cases h17 : t.kind = 17
      · rw [if_pos h17, Bool.and_eq_true] at h
        unfold lineR lineKR
        rw [if_pos (by omega), if_neg (by omega), if_pos (by omega)]
        exact lx_digit h.1
      rw [if_neg h17] at h
      by_cases h16 : t.kind = 16
      · rw [if_pos h16, Bool.and_eq_true] at h
        obtain ⟨a, hl, hoa⟩ := are1_inv h.2
        have k0 : kd t 0 = a := by unfold kd; rw [hl]; rfl
        intro r us hr hs
        unfold lineR lineKR
        rw [if_neg (by omega), if_neg (by omega), if_neg (by omega), if_neg (by omega), if_neg (by omega), if_neg (by omega), if_neg (by omega), if_neg (by omega), if_neg (by omega), if_neg (by omega), if_neg (by omega), if_neg (by omega), if_neg (by omega), if_neg (by omega), if_neg (by omega), if_pos (by omega), if_neg (by omega), if_neg (by omega), if_neg (by omega), if_neg (by omega), if_neg (by omega), if_neg (by omega), if_neg (by omega), if_neg (by omega), if_neg (by omega), if_neg (by omega), if_neg (by omega), if_neg (by omega), if_neg (by omega), if_neg (by omega), if_neg (by omega), if_neg (by omega), if_pos (by omega), k0]
        have q := sc_not (hp 6 1 a hoa r us hr hs)
        simpa [sg, partF, partK] using q
      rw [if_neg h16] at h
      by_cases h14 : t.kind = 15 ∨ t.kind = 14
      · rw [if_pos h14, Bool.and_eq_true] at h
        obtain ⟨a, c, hl, hoa, hoc⟩ := are2_inv h.2
        have k0 : kd t 0 = a := by unfold kd; rw [hl]; rfl
        have k1 : kd t 1 = c := by unfold kd; rw [hl]; rfl
        intro r us hr hs
        rcases h14 with h14 | h14
        · unfold lineR lineKR
          rw [if_neg (by omega), if_neg (by omega), if_neg (by omega), if_neg (by omega), if_neg (by omega), if_neg (by omega), if_neg (by omega), if_neg (by omega), if_neg (by omega), if_neg (by omega), if_neg (by omega), if_neg (by omega), if_neg (by omega), if_neg (by omega), if_pos (by omega), if_neg (by omega), if_neg (by omega), if_neg (by omega), if_neg (by omega), if_neg (by omega), if_neg (by omega), if_neg (by omega), if_neg (by omega), if_neg (by omega), if_neg (by omega), if_neg (by omega), if_neg (by omega), if_neg (by omega), if_neg (by omega), if_neg (by omega), if_pos (by omega), k0, k1]
          have q := hp 5 1 a hoa _ _ (brk_of _ (c := 32) (by decide)) (sc_gap (sc_and (sc_gap (hp 6 1 c hoc r us hr hs))))
          simpa [sg, partF, partK] using q
        · unfold lineR lineKR
          rw [if_neg (by omega), if_neg (by omega), if_neg (by omega), if_neg (by omega), if_neg (by omega), if_neg (by omega), if_neg (by omega), if_neg (by omega), if_neg (by omega), if_neg (by omega), if_neg (by omega), if_neg (by omega), if_neg (by omega), if_pos (by omega), if_neg (by omega), if_neg (by omega), if_neg (by omega), if_neg (by omega), if_neg (by omega), if_neg (by omega), if_neg (by omega), if_neg (by omega), if_neg (by omega), if_neg (by omega), if_neg (by omega), if_neg (by omega), if_neg (by omega), if_neg (by omega), if_pos (by omega), k0, k1]
          have q := hp 4 1 a hoa _ _ (brk_of _ (c := 32) (by decide)) (sc_gap (sc_or (sc_gap (hp 5 1 c hoc r us hr hs))))
          simpa [sg, partF, partK] using q
      rw [if_neg h14] at h
      cases h
    rw [if_neg g1] at h
    by_cases g2 : g = 2
    · rw [if_pos g2] at h
      unfold elemB at h
      simp only [Bool.and_eq_true, decide_eq_true_eq, Bool.or_eq_true] at h
      obtain ⟨hk, _, hq⟩ := h
      intro r us hr hs
      unfold lineR lineKR
      rw [if_neg (by omega), if_neg (by omega), if_neg (by omega), if_neg (by omega), if_neg (by omega), if_neg (by omega), if_neg (by omega), if_neg (by omega), if_neg (by omega), if_neg (by omega), if_pos (by omega), if_neg (by omega), if_neg (by omega), if_neg (by omega), if_neg (by omega), if_neg (by omega), if_neg (by omega), if_neg (by omega), if_neg (by omega), if_neg (by omega), if_neg (by omega), if_neg (by omega), if_pos (by omega)]
      unfold elemR
      rcases hq with hq | hq
      · obtain ⟨c, hl, hc⟩ := are1_inv hq
        have k0 : kd t 0 = c := by unfold kd; rw [hl]; rfl
        rw [k0, hl, if_neg (by simp), if_neg (by simp), List.append_nil, List.append_nil]
        exact ih 3 c hc r us hr hs
      · obtain ⟨c, b, hl, hc, hb⟩ := are2_inv hq
        have k0 : kd t 0 = c := by unfold kd; rw [hl]; rfl
        have k1 : kd t 1 = b := by unfold kd; rw [hl]; rfl
        rw [k0, k1, hl, if_pos (show [c, b].length = 2 from rfl), if_pos (show [c, b].length = 2 from rfl)]
        have q := ih 3 c hc _ _ (brk_of _ (c := 32) (by decide)) (sc_gap (sc_arrow (sc_gap (hp 0 0 b hb r us hr hs))))
        simpa [sg, partF, partK] using q
    rw [if_neg g2] at h
    by_cases g3 : g = 3
    · rw [if_pos g3] at h
      unfold faceB at h
      simp only [Bool.and_eq_true, decide_eq_true_eq] at h
      obtain ⟨hk, _, hq⟩ := h
      intro r us hr hs
      unfold lineR lineKR
      rw [if_neg (by omega), if_neg (by omega), if_neg (by omega), if_neg (by omega), if_neg (by omega), if_neg (by omega), if_neg (by omega), if_neg (by omega), if_neg (by omega), if_neg (by omega), if_neg (by omega), if_pos (by omega), if_neg (by omega), if_neg (by omega), if_neg (by omega), if_neg (by omega), if_neg (by omega), if_neg (by omega), if_neg (by omega), if_neg (by omega), if_neg (by omega), if_neg (by omega), if_neg (by omega), if_neg (by omega), if_pos (by omega)]
      unfold faceR
      by_cases he : t.kids = []
      · rw [if_pos he, if_pos he]
        exact sc_unit hs
      · rw [if_neg he, if_neg he]
        have all : ∀ m : List Sx, (∀ y ∈ m, okF f 4 y = true) → Sc ((m.map (lineF f)).flatten ++ r) ((m.map (lineK f)).flatten ++ us) ∧ Brk ((m.map (lineF f)).flatten ++ r) := by
          intro m
          induction m with
          | nil => intro _; exact ⟨by simpa using hs, by simpa using hr⟩
          | cons y m ihm =>
            intro hm
            obtain ⟨q1, q2⟩ := ihm (fun z hz => hm z (by simp [hz]))
            have hy := hm y (by simp)
            refine ⟨?_, ?_⟩
            · have := ih 4 y hy _ _ q2 q1
              simpa using this
            · obtain ⟨f', rfl⟩ : ∃ k, f = k + 1 := by
                cases f with
                | zero => rw [okF_z] at hy; cases hy
                | succ f => exact ⟨f, rfl⟩
              rw [okF_s] at hy
              have hy : eqB y = true := hy
              unfold eqB at hy
              simp only [Bool.and_eq_true, decide_eq_true_eq] at hy
              have hk13 := hy.1
              have el : lineF (f' + 1) y = eqR y := by
                rw [lineF_s]; unfold lineR
                rw [if_neg (by omega), if_neg (by omega), if_neg (by omega), if_neg (by omega), if_neg (by omega), if_neg (by omega), if_neg (by omega), if_neg (by omega), if_neg (by omega), if_neg (by omega), if_neg (by omega), if_neg (by omega), if_pos (by omega)]
              rw [List.map_cons, List.flatten_cons, el]
              unfold eqR
              exact brk_of _ (c := 40) (by decide)
        exact (all t.kids (fun y hy => List.all_eq_true.1 hq y hy)).1
    rw [if_neg g3] at h
    have hk : t.kind = 13 := by
      have h9 := h
      unfold eqB at h9
      simp only [Bool.and_eq_true, decide_eq_true_eq] at h9
      exact h9.1
    unfold lineR lineKR
    rw [if_neg (by omega), if_neg (by omega), if_neg (by omega), if_neg (by omega), if_neg (by omega), if_neg (by omega), if_neg (by omega), if_neg (by omega), if_neg (by omega), if_neg (by omega), if_neg (by omega), if_neg (by omega), if_pos (by omega), if_neg (by omega), if_neg (by omega), if_neg (by omega), if_neg (by omega), if_neg (by omega), if_neg (by omega), if_neg (by omega), if_neg (by omega), if_neg (by omega), if_neg (by omega), if_neg (by omega), if_neg (by omega), if_neg (by omega), if_pos (by omega)]
    exact lx_eq h
end Go.Proofs.YtahnbigkdfmpbaaDoor

namespace Go.Proofs.YtahnbigkdfmpbaaDoor
set_option linter.unusedVariables false
set_option linter.unusedSimpArgs false

def asB (l : Bs) : Bool := l.all (fun x => decide (x.toNat < 128))
theorem as_app (a b : Bs) : asB (a ++ b) = (asB a && asB b) := List.all_append
theorem as_cons (c : UInt8) (l : Bs) : asB (c :: l) = (decide (c.toNat < 128) && asB l) := rfl
theorem as_nil : asB [] = true := rfl
theorem as_name {s : Bs} (h : nameB s = true) : asB s = true := List.all_eq_true.2 fun x hx => decide_eq_true (name_ascii h x hx)
theorem as_digit {s : Bs} (h : digB s = true) : asB s = true := by
  unfold digB at h
  simp only [Bool.or_eq_true, decide_eq_true_eq] at h
  rcases h with rfl | rfl <;> decide
theorem as_flat {l : List Bs} (h : ∀ x ∈ l, asB x = true) : asB l.flatten = true := by
  induction l with
  | nil => rfl
  | cons x l ih => rw [List.flatten_cons, as_app, h x (by simp), ih (fun y hy => h y (by simp [hy]))]; rfl
theorem as_jn {sep : Bs} {l : List Bs} (hs : asB sep = true) (h : ∀ x ∈ l, asB x = true) : asB (jn sep l) = true := by
  cases l with
  | nil => rfl
  | cons x l =>
    show asB (x ++ (l.map fun y => sep ++ y).flatten) = true
    rw [as_app, h x (by simp)]
    rw [as_flat (fun y hy => by
      obtain ⟨z, hz, rfl⟩ := List.mem_map.1 hy
      rw [as_app, hs, h z (by simp [hz])]; rfl)]
    rfl
theorem as_part {f pl : Nat} {t : Sx} (h : asB (lineF f t) = true) : asB (partF f pl t) = true := by
  unfold partF partR
  split
  · rw [as_cons, as_app, h]; decide
  · exact h
theorem as_line (f : Nat) : ∀ (g : Nat) (t : Sx), okF f g t = true → asB (lineF f t) = true := by
  induction f with
  | zero => intro g t h; rw [okF_z] at h; cases h
  | succ f ih =>
    intro g t h
    rw [okF_s] at h
    rw [lineF_s]
    have hp : ∀ (pl g : Nat) (x : Sx), okF f g x = true → asB (partR (lineF f) pl x) = true := fun pl g x hx => as_part (ih g x hx)
    have name1 : t.kind = 1 → nameTreeB t = true → asB (lineR (lineF f) t) = true := fun hk hn => by
      unfold nameTreeB at hn
      rw [Bool.and_eq_true] at hn
      unfold lineR
      rw [if_pos (by omega)]
      exact as_name hn.1
    unfold okR at h
    by_cases g0 : g = 0
    · rw [if_pos g0] at h
      unfold termB at h
      by_cases h1 : t.kind = 1
      · rw [if_pos h1] at h; exact name1 h1 h
      rw [if_neg h1] at h
      by_cases h2 : t.kind = 2 ∨ t.kind = 3
      · rw [if_pos h2] at h
        simp only [Bool.and_eq_true, decide_eq_true_eq] at h
        obtain ⟨_, hne, hna, hka⟩ := h
        obtain ⟨a, hl, hoa⟩ := are1_inv hka
        have k0 : kd t 0 = a := by unfold kd; rw [hl]; rfl
        have q := hp 0 0 a hoa
        have qn := as_jn (sep := [32]) (l := t.names) rfl (fun x hx => as_name (List.all_eq_true.1 hna x hx))
        rcases h2 with h2 | h2
        · unfold lineR
          rw [if_neg (by omega), if_pos (by omega), k0]
          simp only [as_cons, as_app, as_nil, qn, q]; decide
        · unfold lineR
          rw [if_neg (by omega), if_neg (by omega), if_pos (by omega), k0]
          simp only [as_cons, as_app, as_nil, qn, q]; decide
      rw [if_neg h2] at h
      by_cases h3 : t.kind = 4 ∨ t.kind = 5
      · rw [if_pos h3] at h
        simp only [Bool.and_eq_true, decide_eq_true_eq] at h
        obtain ⟨_, hlt, hna, hka⟩ := h
        obtain ⟨a, c, hl, hoa, hoc⟩ := are2_inv hka
        have k0 : kd t 0 = a := by unfold kd; rw [hl]; rfl
        have k1 : kd t 1 = c := by unfold kd; rw [hl]; rfl
        have q0 := hp 0 0 a hoa
        have q1 := hp 1 0 a hoa
        have q2 := hp 0 0 c hoc
        have arr : ∀ (sgn : Bs), asB sgn = true → asB (arrowR (lineF f) t sgn) = true := by
          intro sgn hsg
          unfold arrowR
          rw [k0, k1]
          match hnm : t.names, hlt with
          | [], _ =>
            rw [if_pos rfl]
            simp only [as_cons, as_app, as_nil, q1, q2, hsg]; decide
          | [x], _ =>
            rw [if_neg (by simp)]
            rw [hnm] at hna
            simp only [List.all_cons, List.all_nil, Bool.and_true] at hna
            have qx := as_name hna
            simp only [List.headD_cons, as_cons, as_app, as_nil, q0, q2, hsg, qx]; decide
        rcases h3 with h3 | h3
        · unfold lineR
          rw [if_neg (by omega), if_neg (by omega), if_neg (by omega), if_pos (by omega)]
          exact arr _ (by decide)
        · unfold lineR
          rw [if_neg (by omega), if_neg (by omega), if_neg (by omega), if_neg (by omega), if_pos (by omega)]
          exact arr _ (by decide)
      rw [if_neg h3] at h
      by_cases h4 : t.kind = 6 ∨ t.kind = 8 ∨ t.kind = 9
      · rw [if_pos h4, Bool.and_eq_true] at h
        obtain ⟨a, c, hl, hoa, hoc⟩ := are2_inv h.2
        have k0 : kd t 0 = a := by unfold kd; rw [hl]; rfl
        have k1 : kd t 1 = c := by unfold kd; rw [hl]; rfl
        have qa := fun pl => hp pl 0 a hoa
        have qc := fun pl => hp pl 0 c hoc
        rcases h4 with h4 | h4 | h4
        · unfold lineR
          rw [if_neg (by omega), if_neg (by omega), if_neg (by omega), if_neg (by omega), if_neg (by omega), if_pos (by omega), k0, k1]
          simp only [as_cons, as_app, as_nil, qa, qc]; decide
        · unfold lineR
          rw [if_neg (by omega), if_neg (by omega), if_neg (by omega), if_neg (by omega), if_neg (by omega), if_neg (by omega), if_neg (by omega), if_pos (by omega), k0, k1]
          simp only [as_cons, as_app, as_nil, qa, qc]; decide
        · unfold lineR
          rw [if_neg (by omega), if_neg (by omega), if_neg (by omega), if_neg (by omega), if_neg (by omega), if_neg (by omega), if_neg (by omega), if_neg (by omega), if_pos (by omega), k0, k1]
          simp only [as_cons, as_app, as_nil, qa, qc]; decide
      rw [if_neg h4] at h
      by_cases h7 : t.kind = 7
      · rw [if_pos h7, Bool.and_eq_true] at h
        obtain ⟨a, c, hl, hoa, hoc⟩ := are2_inv h.2
        have k0 : kd t 0 = a := by unfold kd; rw [hl]; rfl
        have k1 : kd t 1 = c := by unfold kd; rw [hl]; rfl
        have qa := hp 2 0 a hoa
        have qc := hp 6 1 c hoc
        unfold lineR
        rw [if_neg (by omega), if_neg (by omega), if_neg (by omega), if_neg (by omega), if_neg (by omega), if_neg (by omega), if_pos (by omega), k0, k1]
        simp only [as_cons, as_app, as_nil, qa, qc]; decide
      rw [if_neg h7] at h
      by_cases h10 : t.kind = 10
      · rw [if_pos h10, Bool.and_eq_true] at h
        have q := as_jn (sep := [44, 32]) (l := t.kids.map (lineF f)) rfl (fun x hx => by
          obtain ⟨z, hz, rfl⟩ := List.mem_map.1 hx
          exact ih 2 z (List.all_eq_true.1 h.2 z hz))
        unfold lineR
        rw [if_neg (by omega), if_neg (by omega), if_neg (by omega), if_neg (by omega), if_neg (by omega), if_neg (by omega), if_neg (by omega), if_neg (by omega), if_neg (by omega), if_pos (by omega)]
        simp only [as_cons, as_app, as_nil, q]; decide
      rw [if_neg h10] at h
      cases h
    rw [if_neg g0] at h
    by_cases g1 : g = 1
    · rw [if_pos g1] at h
      unfold dimB at h
      by_cases h1 : t.kind = 1
      · rw [if_pos h1] at h; exact name1 h1 h
      rw [if_neg h1] at h
      by_cases h17 : t.kind = 17
      · rw [if_pos h17, Bool.and_eq_true] at h
        unfold lineR
        rw [if_pos (by omega)]
        exact as_digit h.1
      rw [if_neg h17] at h
      by_cases h16 : t.kind = 16
      · rw [if_pos h16, Bool.and_eq_true] at h
        obtain ⟨a, hl, hoa⟩ := are1_inv h.2
        have k0 : kd t 0 = a := by unfold kd; rw [hl]; rfl
        have qa := hp 6 1 a hoa
        unfold lineR
        rw [if_neg (by omega), if_neg (by omega), if_neg (by omega), if_neg (by omega), if_neg (by omega), if_neg (by omega), if_neg (by omega), if_neg (by omega), if_neg (by omega), if_neg (by omega), if_neg (by omega), if_neg (by omega), if_neg (by omega), if_neg (by omega), if_neg (by omega), if_pos (by omega), k0]
        simp only [as_cons, as_app, as_nil, qa]; decide
      rw [if_neg h16] at h
      by_cases h14 : t.kind = 15 ∨ t.kind = 14
      · rw [if_pos h14, Bool.and_eq_true] at h
        obtain ⟨a, c, hl, hoa, hoc⟩ := are2_inv h.2
        have k0 : kd t 0 = a := by unfold kd; rw [hl]; rfl
        have k1 : kd t 1 = c := by unfold kd; rw [hl]; rfl
        have qa := fun pl => hp pl 1 a hoa
        have qc := fun pl => hp pl 1 c hoc
        rcases h14 with h14 | h14
        · unfold lineR
          rw [if_neg (by omega), if_neg (by omega), if_neg (by omega), if_neg (by omega), if_neg (by omega), if_neg (by omega), if_neg (by omega), if_neg (by omega), if_neg (by omega), if_neg (by omega), if_neg (by omega), if_neg (by omega), if_neg (by omega), if_neg (by omega), if_pos (by omega), k0, k1]
          simp only [as_cons, as_app, as_nil, qa, qc]; decide
        · unfold lineR
          rw [if_neg (by omega), if_neg (by omega), if_neg (by omega), if_neg (by omega), if_neg (by omega), if_neg (by omega), if_neg (by omega), if_neg (by omega), if_neg (by omega), if_neg (by omega), if_neg (by omega), if_neg (by omega), if_neg (by omega), if_pos (by omega), k0, k1]
          simp only [as_cons, as_app, as_nil, qa, qc]; decide
      rw [if_neg h14] at h
      cases h
    rw [if_neg g1] at h
    by_cases g2 : g = 2
    · rw [if_pos g2] at h
      unfold elemB at h
      simp only [Bool.and_eq_true, decide_eq_true_eq, Bool.or_eq_true] at h
      obtain ⟨hk, _, hq⟩ := h
      unfold lineR
      rw [if_neg (by omega), if_neg (by omega), if_neg (by omega), if_neg (by omega), if_neg (by omega), if_neg (by omega), if_neg (by omega), if_neg (by omega), if_neg (by omega), if_neg (by omega), if_pos (by omega)]
      unfold elemR
      rcases hq with hq | hq
      · obtain ⟨c, hl, hc⟩ := are1_inv hq
        have k0 : kd t 0 = c := by unfold kd; rw [hl]; rfl
        rw [k0, hl, if_neg (by simp), List.append_nil]
        exact ih 3 c hc
      · obtain ⟨c, b, hl, hc, hb⟩ := are2_inv hq
        have k0 : kd t 0 = c := by unfold kd; rw [hl]; rfl
        have k1 : kd t 1 = b := by unfold kd; rw [hl]; rfl
        rw [k0, k1, hl, if_pos (show [c, b].length = 2 from rfl)]
        have qa := ih 3 c hc
        have qb := hp 0 0 b hb
        simp only [as_cons, as_app, as_nil, qa, qb]; decide
    rw [if_neg g2] at h
    by_cases g3 : g = 3
    · rw [if_pos g3] at h
      unfold faceB at h
      simp only [Bool.and_eq_true, decide_eq_true_eq] at h
      obtain ⟨hk, _, hq⟩ := h
      unfold lineR
      rw [if_neg (by omega), if_neg (by omega), if_neg (by omega), if_neg (by omega), if_neg (by omega), if_neg (by omega), if_neg (by omega), if_neg (by omega), if_neg (by omega), if_neg (by omega), if_neg (by omega), if_pos (by omega)]
      unfold faceR
      by_cases he : t.kids = []
      · rw [if_pos he]; decide
      · rw [if_neg he]
        exact as_flat (fun x hx => by
          obtain ⟨z, hz, rfl⟩ := List.mem_map.1 hx
          exact ih 4 z (List.all_eq_true.1 hq z hz))
    rw [if_neg g3] at h
    unfold eqB at h
    simp only [Bool.and_eq_true, decide_eq_true_eq] at h
    obtain ⟨hk, hn, hd, _⟩ := h
    unfold lineR
    rw [if_neg (by omega), if_neg (by omega), if_neg (by omega), if_neg (by omega), if_neg (by omega), if_neg (by omega), if_neg (by omega), if_neg (by omega), if_neg (by omega), if_neg (by omega), if_neg (by omega), if_neg (by omega), if_pos (by omega)]
    unfold eqR
    have q1 := as_name hn
    unfold digitsB at hd
    match hq : t.names, hd with
    | [d], hd =>
      have q2 := as_digit hd
      simp only [List.headD_cons, as_cons, as_app, as_nil, q1, q2]; decide
/-- How Scan answers of a text that scans. -/
theorem scanF_sc {s : Bs} {ks : List Kt} (ha : asB s = true) (hl : s.length ≤ 65536) (h : Sc s ks) : (scanF s).2.2 = 0 ∧ (scanF s).1.map ktT = ks := by
  have hU := utfP_ascii (s.length + 1) s (by omega) (fun x hx => of_decide_eq_true (List.all_eq_true.1 ha x hx))
  obtain ⟨us, hu, hm⟩ := h (s.length + 1) 0 (by omega)
  have e : scanF s = (us, 0, 0) := by
    unfold scanF
    unfold scanQ at hu
    simp_all [ansOf]
  rw [e]
  exact ⟨rfl, hm⟩
end Go.Proofs.YtahnbigkdfmpbaaDoor

namespace Go.Proofs.YtahnbigkdfmpbaaDoor
set_option linter.unusedVariables false
set_option linter.unusedSimpArgs false

/-- The tree without its places. -/
def toTr : Sx → Tr
  | .mk k n kids ns _ => .mk k.toNat n (kids.map fun x => toTr x) ns 0
theorem toTr_mk (k : Int) (n : Bs) (kids : List Sx) (ns : List Bs) (a : Int) : toTr (.mk k n kids ns a) = .mk k.toNat n (kids.map toTr) ns 0 := by rw [toTr]
/-- What a rule tells of a tree's tokens: that it is too deep, or the tree. -/
def Rd (t : Sx) (X : Ts) (r : Rs Tr) : Prop := (∃ p, r = .bad p 62) ∨ ∃ u, r = .ok u X ∧ erTr u = toTr t
theorem Rd.bnd {t t2 : Sx} {X Y : Ts} {r : Rs Tr} {k : Tr → Ts → Rs Tr} (h : Rd t X r) (hk : ∀ u, erTr u = toTr t → Rd t2 Y (k u X)) : Rd t2 Y (r.bnd k) := by
  rcases h with ⟨p, rfl⟩ | ⟨u, rfl, hu⟩
  · exact .inl ⟨p, rfl⟩
  · exact hk u hu
/-- The same, where the rule goes on as another one. -/
def Rg (t : Sx) (r : Rs Tr) (k : Nat → Tr → Rs Tr) (m : Nat) : Prop := (∃ p, r = .bad p 62) ∨ ∃ u f, r = k f u ∧ erTr u = toTr t ∧ m ≤ f

/-! ### tokens -/
theorem tk {a : Tok} {n : Nat} {s : Bs} (h : ktT a = (n, s)) : a.kind = n ∧ a.text = s := by
  unfold ktT at h
  injection h with h1 h2
  exact ⟨h1, h2⟩
theorem spA {A : Ts} {k1 k2 : List Kt} (h : A.map ktT = k1 ++ k2) : ∃ A1 A2, A = A1 ++ A2 ∧ A1.map ktT = k1 ∧ A2.map ktT = k2 := by
  obtain ⟨A1, A2, h0, h1, h2⟩ := List.map_eq_append_iff.1 h
  exact ⟨A1, A2, h0, h1, h2⟩
theorem spC {A : Ts} {k : Kt} {ks : List Kt} (h : A.map ktT = k :: ks) : ∃ a A2, A = a :: A2 ∧ ktT a = k ∧ A2.map ktT = ks := by
  obtain ⟨a, A2, h0, h1, h2⟩ := List.map_eq_cons_iff.1 h
  exact ⟨a, A2, h0, h1, h2⟩
theorem spN {A : Ts} (h : A.map ktT = []) : A = [] := List.map_eq_nil_iff.1 h
theorem sees_k {a : Tok} {n : Nat} {s : Bs} (h : ktT a = (n, s)) (x : Bs) (R : Ts) : sees x (a :: R) = decide (s = x) := by
  show decide (a.text = x) = _
  rw [(tk h).2]
theorem isN_k {a : Tok} {n : Nat} {s : Bs} (h : ktT a = (n, s)) (R : Ts) : isN (a :: R) = decide (n = 1) := by
  show decide (a.kind = 1) = _
  rw [(tk h).1]
theorem txt_k {a : Tok} {n : Nat} {s : Bs} (h : ktT a = (n, s)) (R : Ts) : txt (a :: R) = s := (tk h).2
theorem must_k {a : Tok} {n : Nat} {s : Bs} (h : ktT a = (n, s)) (e : Nat) (R : Ts) : mustP e s (a :: R) = .ok () R := by
  unfold mustP
  rw [if_pos (by rw [sees_k h]; simp)]
  rfl
theorem name_k {a : Tok} {s : Bs} (h : ktT a = nk s) (e : Nat) (R : Ts) : nameP e (a :: R) = .ok s R := by
  unfold nameP
  rw [if_pos (by rw [isN_k h]; rfl), txt_k h]
  rfl
theorem name_ne {s x : Bs} (h : nameB s = true) (hx : nameB x = false) : s ≠ x := fun e => by rw [e, hx] at h; cases h
theorem seesN {a : Tok} {s x : Bs} (h : ktT a = nk s) (hs : nameB s = true) (hx : nameB x = false) (R : Ts) : sees x (a :: R) = false := by
  rw [sees_k h]
  exact decide_eq_false (name_ne hs hx)
/-- How tokens begin: with a name, or one of these signs. -/
def hdB (signs : List Bs) : List Kt → Bool
  | [] => false
  | k :: _ => (decide (k.1 = 1) && nameB k.2) || (decide (k.1 = 2) && decide (k.2 ∈ signs))
theorem hd_app {signs : List Bs} {ks : List Kt} (h : hdB signs ks = true) (r : List Kt) : hdB signs (ks ++ r) = true := by
  match ks, h with
  | k :: ks, h => exact h
theorem hd_sub {s1 s2 : List Bs} {ks : List Kt} (h : hdB s1 ks = true) (hs : ∀ x ∈ s1, x ∈ s2) : hdB s2 ks = true := by
  match ks, h with
  | k :: ks, h =>
    unfold hdB at h ⊢
    simp only [Bool.or_eq_true, Bool.and_eq_true, decide_eq_true_eq] at h ⊢
    exact h.imp id fun h => ⟨h.1, hs _ h.2⟩
theorem hd_ne {signs : List Bs} {ks : List Kt} (h : hdB signs ks = true) : ks ≠ [] := by
  intro e
  rw [e] at h
  cases h
theorem hd_len {signs : List Bs} {A : Ts} {ks : List Kt} (hA : A.map ktT = ks) (h : hdB signs ks = true) : 1 ≤ A.length := by
  cases A with
  | nil => rw [← hA] at h; cases h
  | cons a A => simp
theorem hd_sees {signs : List Bs} {A : Ts} {ks : List Kt} (hA : A.map ktT = ks) (h : hdB signs ks = true) {x : Bs} (hx : x ∉ signs) (hn : nameB x = false) (X : Ts) : sees x (A ++ X) = false := by
  subst hA
  cases A with
  | nil => cases h
  | cons a A =>
    show decide (a.text = x) = false
    refine decide_eq_false fun e => ?_
    simp only [List.map_cons, hdB, ktT, Bool.or_eq_true, Bool.and_eq_true, decide_eq_true_eq] at h
    rcases h with h | h
    · rw [e, hn] at h; cases h.2
    · rw [e] at h; exact hx h.2
theorem hd_enter {signs : List Bs} {A : Ts} {ks : List Kt} (hA : A.map ktT = ks) (h : hdB signs ks = true) (X : Ts) : (isN (A ++ X) || decide (txt (A ++ X) ∈ signs)) = true := by
  subst hA
  cases A with
  | nil => cases h
  | cons a A =>
    simp only [List.map_cons, hdB, ktT, Bool.or_eq_true, Bool.and_eq_true, decide_eq_true_eq] at h
    show (decide (a.kind = 1) || decide (a.text ∈ signs)) = true
    rw [Bool.or_eq_true, decide_eq_true_eq, decide_eq_true_eq]
    exact h.imp And.left And.right
theorem enter_rd {t : Sx} {X Y R : Ts} {e l : Nat} {signs : List Bs} {k : Rs Tr} (h : (isN R || decide (txt R ∈ signs)) = true) (hk : Rd t Y k) : Rd t Y (enterQ e l signs R k) := by
  unfold enterQ
  rw [if_pos h]
  split
  · exact .inl ⟨_, rfl⟩
  · exact hk
/-- What ends a part: nothing more, or one of these signs. -/
def stB (l : List Bs) (X : Ts) : Prop := X = [] ∨ ∃ a R, X = a :: R ∧ a.kind ≠ 1 ∧ a.text ∈ l
theorem st_nil (l : List Bs) : stB l [] := .inl rfl
theorem st_cons {l : List Bs} {a : Tok} {s : Bs} (h : ktT a = sg s) (hs : s ∈ l) (R : Ts) : stB l (a :: R) := .inr ⟨a, R, rfl, by rw [(tk h).1]; decide, by rw [(tk h).2]; exact hs⟩
theorem st_sub {l m : List Bs} {X : Ts} (h : stB l X) (hs : ∀ x ∈ l, x ∈ m) : stB m X := h.imp id fun ⟨a, R, h1, h2, h3⟩ => ⟨a, R, h1, h2, hs _ h3⟩
theorem st_sees {l : List Bs} {X : Ts} (h : stB l X) {x : Bs} (hx : x ∉ l) (h0 : x ≠ []) : sees x X = false := by
  rcases h with rfl | ⟨a, R, rfl, _, h3⟩
  · exact decide_eq_false h0
  · exact decide_eq_false fun e => hx (e ▸ h3)
theorem st_isN {l : List Bs} {X : Ts} (h : stB l X) : isN X = false := by
  rcases h with rfl | ⟨a, R, rfl, h2, _⟩
  · rfl
  · exact decide_eq_false h2
/-- The ends of terms. -/
def stT : List Bs := [[41], [44], [58], [93]]

/-! ### trees by their kinds -/
theorem sx_term {f : Nat} {t : Sx} (h : okF (f + 1) 0 t = true) : ∃ p,
    (∃ n, nameB n = true ∧ t = .mk 1 n [] [] p) ∨
    (∃ ns a k, ns ≠ [] ∧ ns.all nameB = true ∧ okF f 0 a = true ∧ (k = 2 ∨ k = 3) ∧ t = .mk k [] [a] ns p) ∨
    (∃ a c k, okF f 0 a = true ∧ okF f 0 c = true ∧ (k = 4 ∨ k = 5) ∧ t = .mk k [] [a, c] [] p) ∨
    (∃ n a c k, nameB n = true ∧ okF f 0 a = true ∧ okF f 0 c = true ∧ (k = 4 ∨ k = 5) ∧ t = .mk k [] [a, c] [n] p) ∨
    (∃ a c, okF f 0 a = true ∧ okF f 0 c = true ∧ t = .mk 6 [] [a, c] [] p) ∨
    (∃ a c, okF f 0 a = true ∧ okF f 1 c = true ∧ t = .mk 7 [] [a, c] [] p) ∨
    (∃ a c k, okF f 0 a = true ∧ okF f 0 c = true ∧ (k = 8 ∨ k = 9) ∧ t = .mk k [] [a, c] [] p) ∨
    (∃ l, l.all (okF f 2) = true ∧ t = .mk 10 [] l [] p) := by
  obtain ⟨k, n, kids, ns, p⟩ := t
  refine ⟨p, ?_⟩
  rw [okF_s] at h
  have h : termB (okF f) (.mk k n kids ns p) = true := h
  unfold termB nameTreeB namelessB at h
  simp only at h
  by_cases h1 : k = 1
  · subst h1
    rw [if_pos rfl] at h
    simp only [Bool.and_eq_true, decide_eq_true_eq] at h
    obtain ⟨h1, rfl, rfl⟩ := h
    exact .inl ⟨n, h1, rfl⟩
  rw [if_neg h1] at h
  refine .inr ?_
  by_cases h2 : k = 2 ∨ k = 3
  · rw [if_pos h2] at h
    simp only [Bool.and_eq_true, decide_eq_true_eq] at h
    obtain ⟨rfl, h3, h4, h5⟩ := h
    obtain ⟨a, rfl, ha⟩ := are1_inv h5
    exact .inl ⟨ns, a, k, h3, h4, ha, h2, rfl⟩
  rw [if_neg h2] at h
  refine .inr ?_
  by_cases h3 : k = 4 ∨ k = 5
  · rw [if_pos h3] at h
    simp only [Bool.and_eq_true, decide_eq_true_eq] at h
    obtain ⟨rfl, h4, h5, h6⟩ := h
    obtain ⟨a, c, rfl, ha, hc⟩ := are2_inv h6
    match ns, h4, h5 with
    | [], _, _ => exact .inl ⟨a, c, k, ha, hc, h3, rfl⟩
    | [n], _, h5 => exact .inr (.inl ⟨n, a, c, k, by simpa using h5, ha, hc, h3, rfl⟩)
    | _ :: _ :: _, h4, _ => exact absurd h4 (by simp only [List.length_cons]; omega)
  rw [if_neg h3] at h
  refine .inr (.inr ?_)
  by_cases h4 : k = 6 ∨ k = 8 ∨ k = 9
  · rw [if_pos h4] at h
    simp only [Bool.and_eq_true, decide_eq_true_eq] at h
    obtain ⟨⟨rfl, rfl⟩, h5⟩ := h
    obtain ⟨a, c, rfl, ha, hc⟩ := are2_inv h5
    rcases h4 with rfl | h4
    · exact .inl ⟨a, c, ha, hc, rfl⟩
    · exact .inr (.inr (.inl ⟨a, c, k, ha, hc, h4, rfl⟩))
  rw [if_neg h4] at h
  by_cases h5 : k = 7
  · subst h5
    rw [if_pos rfl] at h
    simp only [Bool.and_eq_true, decide_eq_true_eq] at h
    obtain ⟨⟨rfl, rfl⟩, h5⟩ := h
    obtain ⟨a, c, rfl, ha, hc⟩ := are2_inv h5
    exact .inr (.inl ⟨a, c, ha, hc, rfl⟩)
  rw [if_neg h5] at h
  by_cases h6 : k = 10
  · subst h6
    rw [if_pos rfl] at h
    simp only [Bool.and_eq_true, decide_eq_true_eq] at h
    obtain ⟨⟨rfl, rfl⟩, h5⟩ := h
    exact .inr (.inr (.inr ⟨kids, h5, rfl⟩))
  rw [if_neg h6] at h
  cases h
theorem sx_dim {f : Nat} {t : Sx} (h : okF (f + 1) 1 t = true) : ∃ p,
    (∃ n, nameB n = true ∧ t = .mk 1 n [] [] p) ∨
    (∃ n, digB n = true ∧ t = .mk 17 n [] [] p) ∨
    (∃ a, okF f 1 a = true ∧ t = .mk 16 [] [a] [] p) ∨
    (∃ a c, okF f 1 a = true ∧ okF f 1 c = true ∧ t = .mk 15 [] [a, c] [] p) ∨
    (∃ a c, okF f 1 a = true ∧ okF f 1 c = true ∧ t = .mk 14 [] [a, c] [] p) := by
  obtain ⟨k, n, kids, ns, p⟩ := t
  refine ⟨p, ?_⟩
  rw [okF_s] at h
  have h : dimB (okF f) (.mk k n kids ns p) = true := h
  unfold dimB nameTreeB namelessB at h
  simp only at h
  by_cases h1 : k = 1
  · subst h1
    rw [if_pos rfl] at h
    simp only [Bool.and_eq_true, decide_eq_true_eq] at h
    obtain ⟨h1, rfl, rfl⟩ := h
    exact .inl ⟨n, h1, rfl⟩
  rw [if_neg h1] at h
  refine .inr ?_
  by_cases h2 : k = 17
  · subst h2
    rw [if_pos rfl] at h
    simp only [Bool.and_eq_true, decide_eq_true_eq] at h
    obtain ⟨h1, rfl, rfl⟩ := h
    exact .inl ⟨n, h1, rfl⟩
  rw [if_neg h2] at h
  refine .inr ?_
  by_cases h3 : k = 16
  · subst h3
    rw [if_pos rfl] at h
    simp only [Bool.and_eq_true, decide_eq_true_eq] at h
    obtain ⟨⟨rfl, rfl⟩, h5⟩ := h
    obtain ⟨a, rfl, ha⟩ := are1_inv h5
    exact .inl ⟨a, ha, rfl⟩
  rw [if_neg h3] at h
  refine .inr ?_
  by_cases h4 : k = 15 ∨ k = 14
  · rw [if_pos h4] at h
    simp only [Bool.and_eq_true, decide_eq_true_eq] at h
    obtain ⟨⟨rfl, rfl⟩, h5⟩ := h
    obtain ⟨a, c, rfl, ha, hc⟩ := are2_inv h5
    rcases h4 with rfl | rfl
    · exact .inl ⟨a, c, ha, hc, rfl⟩
    · exact .inr ⟨a, c, ha, hc, rfl⟩
  rw [if_neg h4] at h
  cases h
theorem sx_elem {f : Nat} {t : Sx} (h : okF (f + 1) 2 t = true) : ∃ p c, okF f 3 c = true ∧ (t = .mk 11 [] [c] [] p ∨ ∃ a, okF f 0 a = true ∧ t = .mk 11 [] [c, a] [] p) := by
  obtain ⟨k, n, kids, ns, p⟩ := t
  rw [okF_s] at h
  have h : elemB (okF f) (.mk k n kids ns p) = true := h
  unfold elemB namelessB at h
  simp only [Bool.and_eq_true, decide_eq_true_eq] at h
  obtain ⟨rfl, ⟨rfl, rfl⟩, h⟩ := h
  rcases (Bool.or_eq_true _ _).mp h with h | h
  · obtain ⟨c, rfl, hc⟩ := are1_inv h
    exact ⟨p, c, hc, .inl rfl⟩
  · obtain ⟨c, a, rfl, hc, ha⟩ := are2_inv h
    exact ⟨p, c, hc, .inr ⟨a, ha, rfl⟩⟩
theorem sx_face {f : Nat} {t : Sx} (h : okF (f + 1) 3 t = true) : ∃ p l, l.all (okF f 4) = true ∧ t = .mk 12 [] l [] p := by
  obtain ⟨k, n, kids, ns, p⟩ := t
  rw [okF_s] at h
  have h : faceB (okF f) (.mk k n kids ns p) = true := h
  unfold faceB namelessB at h
  simp only [Bool.and_eq_true, decide_eq_true_eq] at h
  obtain ⟨rfl, ⟨rfl, rfl⟩, h⟩ := h
  exact ⟨p, kids, h, rfl⟩
theorem sx_eq {f : Nat} {t : Sx} (h : okF (f + 1) 4 t = true) : ∃ p n d, nameB n = true ∧ digB d = true ∧ t = .mk 13 n [] [d] p := by
  obtain ⟨k, n, kids, ns, p⟩ := t
  rw [okF_s] at h
  have h : eqB (.mk k n kids ns p) = true := h
  unfold eqB digitsB at h
  simp only [Bool.and_eq_true, decide_eq_true_eq] at h
  obtain ⟨rfl, h1, h2, rfl⟩ := h
  match ns, h2 with
  | [d], h2 => exact ⟨p, n, d, h1, h2, rfl⟩
theorem line1 (f : Nat) (n : Bs) (p : Int) : lineK (f + 1) (.mk 1 n [] [] p) = [nk n] := rfl
theorem line17 (f : Nat) (n : Bs) (p : Int) : lineK (f + 1) (.mk 17 n [] [] p) = [sg n] := rfl
theorem line2 (f : Nat) (a : Sx) (ns : List Bs) (p : Int) : lineK (f + 1) (.mk 2 [] [a] ns p) = sg [92] :: (ns.map nk ++ (sg [46] :: partK f 0 a)) := rfl
theorem line3 (f : Nat) (a : Sx) (ns : List Bs) (p : Int) : lineK (f + 1) (.mk 3 [] [a] ns p) = sg [60] :: (ns.map nk ++ (sg [62] :: partK f 0 a)) := rfl
theorem line4 (f : Nat) (a c : Sx) (p : Int) : lineK (f + 1) (.mk 4 [] [a, c] [] p) = partK f 1 a ++ (sg [45, 62] :: partK f 0 c) := rfl
theorem line5 (f : Nat) (a c : Sx) (p : Int) : lineK (f + 1) (.mk 5 [] [a, c] [] p) = partK f 1 a ++ (sg [42] :: partK f 0 c) := rfl
theorem line4n (f : Nat) (a c : Sx) (n : Bs) (p : Int) : lineK (f + 1) (.mk 4 [] [a, c] [n] p) = sg [40] :: nk n :: sg [58] :: (partK f 0 a ++ (sg [41] :: sg [45, 62] :: partK f 0 c)) := rfl
theorem line5n (f : Nat) (a c : Sx) (n : Bs) (p : Int) : lineK (f + 1) (.mk 5 [] [a, c] [n] p) = sg [40] :: nk n :: sg [58] :: (partK f 0 a ++ (sg [41] :: sg [42] :: partK f 0 c)) := rfl
theorem line6 (f : Nat) (a c : Sx) (p : Int) : lineK (f + 1) (.mk 6 [] [a, c] [] p) = partK f 2 a ++ partK f 3 c := rfl
theorem line7 (f : Nat) (a c : Sx) (p : Int) : lineK (f + 1) (.mk 7 [] [a, c] [] p) = partK f 2 a ++ (sg [64] :: partK f 6 c) := rfl
theorem line8 (f : Nat) (a c : Sx) (p : Int) : lineK (f + 1) (.mk 8 [] [a, c] [] p) = sg [40] :: (partK f 0 a ++ (sg [44] :: (partK f 0 c ++ [sg [41]]))) := rfl
theorem line9 (f : Nat) (a c : Sx) (p : Int) : lineK (f + 1) (.mk 9 [] [a, c] [] p) = sg [40] :: (partK f 0 a ++ (sg [58] :: (partK f 0 c ++ [sg [41]]))) := rfl
theorem line10 (f : Nat) (l : List Sx) (p : Int) : lineK (f + 1) (.mk 10 [] l [] p) = sg [91] :: (jnK (sg [44]) (l.map (lineK f)) ++ [sg [93]]) := rfl
theorem line11 (f : Nat) (c : Sx) (p : Int) : lineK (f + 1) (.mk 11 [] [c] [] p) = lineK f c := by
  show lineK f c ++ [] = _
  rw [List.append_nil]
theorem line11t (f : Nat) (c a : Sx) (p : Int) : lineK (f + 1) (.mk 11 [] [c, a] [] p) = lineK f c ++ (sg [45, 62] :: partK f 0 a) := rfl
theorem line12 (f : Nat) (l : List Sx) (p : Int) : lineK (f + 1) (.mk 12 [] l [] p) = if l = [] then [sg [49]] else (l.map (lineK f)).flatten := rfl
theorem line13 (f : Nat) (n d : Bs) (p : Int) : lineK (f + 1) (.mk 13 n [] [d] p) = [sg [40], nk n, sg [61], sg d, sg [41]] := rfl
theorem line14 (f : Nat) (a c : Sx) (p : Int) : lineK (f + 1) (.mk 14 [] [a, c] [] p) = partK f 4 a ++ (sg [92, 47] :: partK f 5 c) := rfl
theorem line15 (f : Nat) (a c : Sx) (p : Int) : lineK (f + 1) (.mk 15 [] [a, c] [] p) = partK f 5 a ++ (sg [47, 92] :: partK f 6 c) := rfl
theorem line16 (f : Nat) (a : Sx) (p : Int) : lineK (f + 1) (.mk 16 [] [a] [] p) = sg [126] :: partK f 6 a := rfl
theorem partN {f pl : Nat} {t : Sx} (h : needB t pl = false) : partK f pl t = lineK f t := by
  unfold partK partKR
  rw [if_neg (by rw [h]; simp)]
theorem partY {f pl : Nat} {t : Sx} (h : needB t pl = true) : partK f pl t = sg [40] :: (lineK f t ++ [sg [41]]) := by
  unfold partK partKR
  rw [if_pos h]
theorem part_0 (f : Nat) (t : Sx) : partK f 0 t = lineK f t := partN (by unfold needB; simp)
theorem part_bal (f pl : Nat) (t : Sx) : partK f pl t = lineK f t ∨ partK f pl t = sg [40] :: (lineK f t ++ [sg [41]]) := by
  cases h : needB t pl
  · exact .inl (partN h)
  · exact .inr (partY h)
end Go.Proofs.YtahnbigkdfmpbaaDoor

namespace Go.Proofs.YtahnbigkdfmpbaaDoor
set_option linter.unusedVariables false
set_option linter.unusedSimpArgs false

/-! ### first tokens -/
def fsT : List Bs := [[92], [60], [40], [91]]
def fsA : List Bs := [[40], [91]]
def fsD : List Bs := [[48], [49], [126], [40]]
theorem hd_nk {n : Bs} (h : nameB n = true) (s : List Bs) (r : List Kt) : hdB s (nk n :: r) = true := by simp [hdB, nk, h]
theorem hd_sg {x : Bs} {s : List Bs} (h : x ∈ s) (r : List Kt) : hdB s (sg x :: r) = true := by simp [hdB, sg, h]
theorem need_ann {t : Sx} (k : Int) (n : Bs) (kids : List Sx) (ns : List Bs) (p : Int) : lastP (Sx.mk k n kids ns p).kind = lastP k := rfl
/-- The tokens of a term, and of an app's part, begin so. -/
theorem hd_term (f : Nat) : ∀ t : Sx, okF f 0 t = true → hdB fsT (lineK f t) = true ∧ hdB fsA (partK f 2 t) = true ∧ hdB fsA (partK f 3 t) = true := by
  induction f with
  | zero => intro t h; cases h
  | succ f ih =>
    intro t h
    have top : hdB fsT (lineK (f + 1) t) = true ∧ (needB t 2 = false → hdB fsA (lineK (f + 1) t) = true) ∧ (needB t 3 = false → hdB fsA (lineK (f + 1) t) = true) := by
      have q4 : ∀ a : Sx, okF f 0 a = true → ∀ r, hdB fsT (partK f 1 a ++ r) = true := by
        intro a ha r
        rcases part_bal f 1 a with e | e
        · rw [e]; exact hd_app (ih a ha).1 r
        · rw [e]; exact hd_sg (by decide) _
      obtain ⟨p, h⟩ := sx_term h
      rcases h with ⟨n, hn, rfl⟩ | ⟨ns, a, k, h0, hns, ha, hk, rfl⟩ | ⟨a, c, k, ha, hc, hk, rfl⟩ | ⟨n, a, c, k, hn, ha, hc, hk, rfl⟩ | ⟨a, c, ha, hc, rfl⟩ | ⟨a, c, ha, hc, rfl⟩ | ⟨a, c, k, ha, hc, hk, rfl⟩ | ⟨l, hl, rfl⟩
      · rw [line1]; exact ⟨hd_nk hn _ _, fun _ => hd_nk hn _ _, fun _ => hd_nk hn _ _⟩
      · rcases hk with rfl | rfl
        · rw [line2]; exact ⟨hd_sg (by decide) _, fun h => (by cases h), fun h => (by cases h)⟩
        · rw [line3]; exact ⟨hd_sg (by decide) _, fun h => (by cases h), fun h => (by cases h)⟩
      · rcases hk with rfl | rfl
        · rw [line4]; exact ⟨q4 a ha _, fun h => (by cases h), fun h => (by cases h)⟩
        · rw [line5]; exact ⟨q4 a ha _, fun h => (by cases h), fun h => (by cases h)⟩
      · rcases hk with rfl | rfl
        · rw [line4n]; exact ⟨hd_sg (by decide) _, fun h => (by cases h), fun h => (by cases h)⟩
        · rw [line5n]; exact ⟨hd_sg (by decide) _, fun h => (by cases h), fun h => (by cases h)⟩
      · rw [line6]
        have := hd_app (ih a ha).2.1 (partK f 3 c)
        exact ⟨hd_sub this (by decide), fun _ => this, fun h => (by cases h)⟩
      · rw [line7]
        have := hd_app (ih a ha).2.1 (sg [64] :: partK f 6 c)
        exact ⟨hd_sub this (by decide), fun _ => this, fun h => (by cases h)⟩
      · rcases hk with rfl | rfl
        · rw [line8]; exact ⟨hd_sg (by decide) _, fun _ => hd_sg (by decide) _, fun _ => hd_sg (by decide) _⟩
        · rw [line9]; exact ⟨hd_sg (by decide) _, fun _ => hd_sg (by decide) _, fun _ => hd_sg (by decide) _⟩
      · rw [line10]; exact ⟨hd_sg (by decide) _, fun _ => hd_sg (by decide) _, fun _ => hd_sg (by decide) _⟩
    refine ⟨top.1, ?_, ?_⟩
    · cases q : needB t 2
      · rw [partN q]; exact top.2.1 q
      · rw [partY q]; exact hd_sg (by decide) _
    · cases q : needB t 3
      · rw [partN q]; exact top.2.2 q
      · rw [partY q]; exact hd_sg (by decide) _
theorem hd_dig {n : Bs} (h : digB n = true) (r : List Kt) : hdB fsD (sg n :: r) = true := by
  unfold digB at h
  simp only [Bool.or_eq_true, decide_eq_true_eq] at h
  rcases h with rfl | rfl <;> exact hd_sg (by decide) _
/-- The tokens of a dim begin so. -/
theorem hd_dim (f : Nat) : ∀ t : Sx, okF f 1 t = true → ∀ pl, hdB fsD (partK f pl t) = true := by
  induction f with
  | zero => intro t h; cases h
  | succ f ih =>
    intro t h pl
    have top : hdB fsD (lineK (f + 1) t) = true := by
      obtain ⟨p, h⟩ := sx_dim h
      rcases h with ⟨n, hn, rfl⟩ | ⟨n, hn, rfl⟩ | ⟨a, ha, rfl⟩ | ⟨a, c, ha, hc, rfl⟩ | ⟨a, c, ha, hc, rfl⟩
      · rw [line1]; exact hd_nk hn _ _
      · rw [line17]; exact hd_dig hn _
      · rw [line16]; exact hd_sg (by decide) _
      · rw [line15]; exact hd_app (ih a ha 5) _
      · rw [line14]; exact hd_app (ih a ha 4) _
    rcases part_bal (f + 1) pl t with e | e
    · rw [e]; exact top
    · rw [e]; exact hd_sg (by decide) _

/-! ### brackets are even -/
def BalK (ks : List Kt) : Prop := ∀ A : Ts, A.map ktT = ks → ∀ o : Int, 1 ≤ o → ∀ X, behindL o (A ++ X) = behindL o X
theorem bk_nil : BalK [] := by
  intro A h o ho X
  rw [spN h]; rfl
theorem bk_app {a c : List Kt} (ha : BalK a) (hc : BalK c) : BalK (a ++ c) := by
  intro A h o ho X
  obtain ⟨A1, A2, rfl, h1, h2⟩ := spA h
  rw [List.append_assoc, ha A1 h1 o ho, hc A2 h2 o ho]
theorem bk_cons {n : Nat} {s : Bs} {ks : List Kt} (h1 : s ≠ [40]) (h2 : s ≠ [41]) (h : BalK ks) : BalK ((n, s) :: ks) := by
  intro A hA o ho X
  obtain ⟨a, A2, rfl, ha, h3⟩ := spC hA
  have hs : stepO o a = o := by unfold stepO; rw [(tk ha).2, if_neg h1, if_neg h2]
  show (if stepO o a = 0 then _ else behindL (stepO o a) (A2 ++ X)) = _
  rw [hs, if_neg (by omega), h A2 h3 o ho]
theorem bk_sg {s : Bs} {ks : List Kt} (h1 : s ≠ [40]) (h2 : s ≠ [41]) (h : BalK ks) : BalK (sg s :: ks) := bk_cons h1 h2 h
theorem bk_nk {s : Bs} {ks : List Kt} (hs : nameB s = true) (h : BalK ks) : BalK (nk s :: ks) := bk_cons (name_ne hs (by decide)) (name_ne hs (by decide)) h
theorem bk_in {ks rs : List Kt} (h : BalK ks) (hr : BalK rs) : BalK (sg [40] :: (ks ++ (sg [41] :: rs))) := by
  intro A hA o ho X
  obtain ⟨a, A2, rfl, ha, h3⟩ := spC hA
  obtain ⟨A3, A4, rfl, h4, h5⟩ := spA h3
  obtain ⟨c, A5, rfl, hc, h6⟩ := spC h5
  have hs : stepO o a = o + 1 := by unfold stepO; rw [(tk ha).2, if_pos rfl]
  have hs2 : stepO (o + 1) c = o := by unfold stepO; rw [(tk hc).2, if_neg (by decide), if_pos rfl]; omega
  show (if stepO o a = 0 then _ else behindL (stepO o a) ((A3 ++ c :: A5) ++ X)) = _
  rw [hs, if_neg (by omega), List.append_assoc, h A3 h4 (o + 1) (by omega)]
  show (if stepO (o + 1) c = 0 then _ else behindL (stepO (o + 1) c) (A5 ++ X)) = _
  rw [hs2, if_neg (by omega), hr A5 h6 o ho]
theorem bk_part {f : Nat} {t : Sx} (h : BalK (lineK f t)) (pl : Nat) : BalK (partK f pl t) := by
  rcases part_bal f pl t with e | e
  · rw [e]; exact h
  · rw [e]; exact bk_in h bk_nil
theorem bk_names {ns : List Bs} {ks : List Kt} (h : ns.all nameB = true) (hk : BalK ks) : BalK (ns.map nk ++ ks) := by
  induction ns with
  | nil => exact hk
  | cons n ns ih =>
    rw [List.all_cons, Bool.and_eq_true] at h
    exact bk_nk h.1 (ih h.2)
theorem bk_flat {l : List (List Kt)} (h : ∀ x ∈ l, BalK x) : BalK l.flatten := by
  induction l with
  | nil => exact bk_nil
  | cons x l ih =>
    rw [List.flatten_cons]
    exact bk_app (h x (by simp)) (ih fun y hy => h y (by simp [hy]))
theorem bk_jn {l : List (List Kt)} (h : ∀ x ∈ l, BalK x) : BalK (jnK (sg [44]) l) := by
  cases l with
  | nil => exact bk_nil
  | cons x l =>
    refine bk_app (h x (by simp)) (bk_flat fun y hy => ?_)
    obtain ⟨z, hz, rfl⟩ := List.mem_map.1 hy
    exact bk_sg (by decide) (by decide) (h z (by simp [hz]))
theorem bk_line (f : Nat) : ∀ (g : Nat) (t : Sx), g < 5 → okF f g t = true → BalK (lineK f t) := by
  induction f with
  | zero => intro g t _ h; cases h
  | succ f ih =>
    intro g t hg h
    have i0 := fun (a : Sx) (ha : okF f 0 a = true) (pl : Nat) => bk_part (ih 0 a (by omega) ha) pl
    have i1 := fun (a : Sx) (ha : okF f 1 a = true) (pl : Nat) => bk_part (ih 1 a (by omega) ha) pl
    match g, hg with
    | 0, _ =>
      obtain ⟨p, h⟩ := sx_term h
      rcases h with ⟨n, hn, rfl⟩ | ⟨ns, a, k, h0, hns, ha, hk, rfl⟩ | ⟨a, c, k, ha, hc, hk, rfl⟩ | ⟨n, a, c, k, hn, ha, hc, hk, rfl⟩ | ⟨a, c, ha, hc, rfl⟩ | ⟨a, c, ha, hc, rfl⟩ | ⟨a, c, k, ha, hc, hk, rfl⟩ | ⟨l, hl, rfl⟩
      · rw [line1]; exact bk_nk hn bk_nil
      · rcases hk with rfl | rfl
        · rw [line2]; exact bk_sg (by decide) (by decide) (bk_names hns (bk_sg (by decide) (by decide) (i0 a ha 0)))
        · rw [line3]; exact bk_sg (by decide) (by decide) (bk_names hns (bk_sg (by decide) (by decide) (i0 a ha 0)))
      · rcases hk with rfl | rfl
        · rw [line4]; exact bk_app (i0 a ha 1) (bk_sg (by decide) (by decide) (i0 c hc 0))
        · rw [line5]; exact bk_app (i0 a ha 1) (bk_sg (by decide) (by decide) (i0 c hc 0))
      · rcases hk with rfl | rfl
        · rw [line4n]
          exact bk_in (ks := nk n :: sg [58] :: partK f 0 a) (bk_nk hn (bk_sg (by decide) (by decide) (i0 a ha 0))) (bk_sg (by decide) (by decide) (i0 c hc 0))
        · rw [line5n]
          exact bk_in (ks := nk n :: sg [58] :: partK f 0 a) (bk_nk hn (bk_sg (by decide) (by decide) (i0 a ha 0))) (bk_sg (by decide) (by decide) (i0 c hc 0))
      · rw [line6]; exact bk_app (i0 a ha 2) (i0 c hc 3)
      · rw [line7]; exact bk_app (i0 a ha 2) (bk_sg (by decide) (by decide) (i1 c hc 6))
      · rcases hk with rfl | rfl
        · rw [line8]
          have := bk_in (bk_app (i0 a ha 0) (bk_sg (s := [44]) (by decide) (by decide) (i0 c hc 0))) bk_nil
          simpa only [List.append_assoc, List.cons_append] using this
        · rw [line9]
          have := bk_in (bk_app (i0 a ha 0) (bk_sg (s := [58]) (by decide) (by decide) (i0 c hc 0))) bk_nil
          simpa only [List.append_assoc, List.cons_append] using this
      · rw [line10]
        refine bk_sg (by decide) (by decide) (bk_app (bk_jn fun y hy => ?_) (bk_sg (by decide) (by decide) bk_nil))
        obtain ⟨z, hz, rfl⟩ := List.mem_map.1 hy
        exact ih 2 z (by omega) (List.all_eq_true.1 hl z hz)
    | 1, _ =>
      obtain ⟨p, h⟩ := sx_dim h
      rcases h with ⟨n, hn, rfl⟩ | ⟨n, hn, rfl⟩ | ⟨a, ha, rfl⟩ | ⟨a, c, ha, hc, rfl⟩ | ⟨a, c, ha, hc, rfl⟩
      · rw [line1]; exact bk_nk hn bk_nil
      · rw [line17]
        unfold digB at hn
        simp only [Bool.or_eq_true, decide_eq_true_eq] at hn
        rcases hn with rfl | rfl <;> exact bk_sg (by decide) (by decide) bk_nil
      · rw [line16]; exact bk_sg (by decide) (by decide) (i1 a ha 6)
      · rw [line15]; exact bk_app (i1 a ha 5) (bk_sg (by decide) (by decide) (i1 c hc 6))
      · rw [line14]; exact bk_app (i1 a ha 4) (bk_sg (by decide) (by decide) (i1 c hc 5))
    | 2, _ =>
      obtain ⟨p, c, hc, rfl | ⟨a, ha, rfl⟩⟩ := sx_elem h
      · rw [line11]; exact ih 3 c (by omega) hc
      · rw [line11t]; exact bk_app (ih 3 c (by omega) hc) (bk_sg (by decide) (by decide) (i0 a ha 0))
    | 3, _ =>
      obtain ⟨p, l, hl, rfl⟩ := sx_face h
      rw [line12]
      split
      · exact bk_sg (by decide) (by decide) bk_nil
      · refine bk_flat fun y hy => ?_
        obtain ⟨z, hz, rfl⟩ := List.mem_map.1 hy
        exact ih 4 z (by omega) (List.all_eq_true.1 hl z hz)
    | 4, _ =>
      obtain ⟨p, n, d, hn, hd, rfl⟩ := sx_eq h
      rw [line13]
      unfold digB at hd
      simp only [Bool.or_eq_true, decide_eq_true_eq] at hd
      rcases hd with rfl | rfl <;> exact bk_in (ks := [nk n, sg [61], sg _]) (bk_nk hn (bk_sg (by decide) (by decide) (bk_sg (by decide) (by decide) bk_nil))) bk_nil
/-- What stands behind the brackets. -/
theorem behind_in {a c : Tok} {A X : Ts} {ks : List Kt} (ha : ktT a = sg [40]) (hc : ktT c = sg [41]) (hA : A.map ktT = ks) (hb : BalK ks) : behindL 0 (a :: (A ++ c :: X)) = txt X := by
  have hs : stepO 0 a = 1 := by unfold stepO; rw [(tk ha).2, if_pos rfl]; rfl
  have hs2 : stepO 1 c = 0 := by unfold stepO; rw [(tk hc).2, if_neg (by decide), if_pos rfl]; rfl
  show (if stepO 0 a = 0 then _ else behindL (stepO 0 a) (A ++ c :: X)) = _
  rw [hs, if_neg (by omega), hb A hA 1 (by omega)]
  show (if stepO 1 c = 0 then txt X else _) = _
  rw [hs2, if_pos rfl]

/-! ### where no binder begins -/
/-- If the first token is a name, the second one, if there is one, is no colon. -/
def Sec (ks : List Kt) : Prop := ∀ k1 k2 r, ks = k1 :: k2 :: r → k1.1 = 1 → k2.2 ≠ [58]
theorem sec_app {ks r : List Kt} {k : Kt} (h : Sec ks) (h0 : ks ≠ []) (hk : k.2 ≠ [58]) : Sec (ks ++ k :: r) := by
  intro k1 k2 q e h1
  match ks, h0 with
  | [x], _ =>
    injection e with _ e
    injection e with e _
    rw [← e]; exact hk
  | x :: y :: s, _ =>
    injection e with e0 e
    injection e with e _
    subst e0 e
    exact h x y s rfl h1
theorem sec_first {k : Kt} {r : List Kt} (h : k.1 ≠ 1) : Sec (k :: r) := by
  intro k1 k2 q e h1
  injection e with e _
  subst e
  exact absurd h1 h
theorem hd_not58 {s : List Bs} {ks : List Kt} (h : hdB s ks = true) (hs : [58] ∉ s) : ∃ k r, ks = k :: r ∧ k.2 ≠ [58] := by
  match ks, h with
  | k :: r, h =>
    refine ⟨k, r, rfl, fun e => ?_⟩
    simp only [hdB, Bool.or_eq_true, Bool.and_eq_true, decide_eq_true_eq] at h
    rcases h with h | h
    · rw [e] at h; exact absurd h.2 (by decide)
    · rw [e] at h; exact hs h.2
theorem sec_line (f : Nat) : ∀ t : Sx, okF f 0 t = true → Sec (lineK f t) ∧ (∀ k, lineK f t = [k] → t.kind = 1) := by
  induction f with
  | zero => intro t h; cases h
  | succ f ih =>
    intro t h
    have q1 : ∀ a : Sx, okF f 0 a = true → ∀ pl k r, k.2 ≠ [58] → Sec (partK f pl a ++ k :: r) := by
      intro a ha pl k r hk
      rcases part_bal f pl a with e | e
      · rw [e]; exact sec_app (ih a ha).1 (hd_ne (hd_term f a ha).1) hk
      · rw [e]; exact sec_first (by decide)
    have q2 : ∀ a : Sx, okF f 0 a = true → ∀ pl k r x, partK f pl a ++ k :: r ≠ [x] := by
      intro a ha pl k r x e
      have := congrArg List.length e
      have h0 : partK f pl a ≠ [] := by
        rcases part_bal f pl a with e | e
        · rw [e]; exact hd_ne (hd_term f a ha).1
        · rw [e]; simp
      have := List.length_pos_iff.2 h0
      simp at *
      omega
    obtain ⟨p, h⟩ := sx_term h
    rcases h with ⟨n, hn, rfl⟩ | ⟨ns, a, k, h0, hns, ha, hk, rfl⟩ | ⟨a, c, k, ha, hc, hk, rfl⟩ | ⟨n, a, c, k, hn, ha, hc, hk, rfl⟩ | ⟨a, c, ha, hc, rfl⟩ | ⟨a, c, ha, hc, rfl⟩ | ⟨a, c, k, ha, hc, hk, rfl⟩ | ⟨l, hl, rfl⟩
    · rw [line1]; exact ⟨fun k1 k2 r e _ => by simp at e, fun _ _ => rfl⟩
    · rcases hk with rfl | rfl
      · rw [line2]; exact ⟨sec_first (by decide), fun k e => by simp at e⟩
      · rw [line3]; exact ⟨sec_first (by decide), fun k e => by simp at e⟩
    · rcases hk with rfl | rfl
      · rw [line4]; exact ⟨q1 a ha 1 _ _ (by decide), fun k e => absurd e (q2 a ha 1 _ _ _)⟩
      · rw [line5]; exact ⟨q1 a ha 1 _ _ (by decide), fun k e => absurd e (q2 a ha 1 _ _ _)⟩
    · rcases hk with rfl | rfl
      · rw [line4n]; exact ⟨sec_first (by decide), fun k e => by simp at e⟩
      · rw [line5n]; exact ⟨sec_first (by decide), fun k e => by simp at e⟩
    · rw [line6]
      obtain ⟨k, r, e, hk⟩ := hd_not58 (hd_term f c hc).2.2 (by decide)
      rw [e]
      exact ⟨q1 a ha 2 _ _ hk, fun k e => absurd e (q2 a ha 2 _ _ _)⟩
    · rw [line7]; exact ⟨q1 a ha 2 _ _ (by decide), fun k e => absurd e (q2 a ha 2 _ _ _)⟩
    · rcases hk with rfl | rfl
      · rw [line8]; exact ⟨sec_first (by decide), fun k e => by simp at e⟩
      · rw [line9]; exact ⟨sec_first (by decide), fun k e => by simp at e⟩
    · rw [line10]; exact ⟨sec_first (by decide), fun k e => by simp at e⟩
theorem nb_first {R : Ts} (h : sees [40] R = false) : binderQ R = false := by
  unfold binderQ
  rw [h]; rfl
/-- Behind a bracket: tokens that are no name and a colon. -/
theorem nb_sec {a : Tok} {S : Ts} (h : Sec (S.map ktT)) : binderQ (a :: S) = false := by
  unfold binderQ
  rw [Bool.and_eq_false_iff]
  refine .inr ?_
  show (isN S && _) = false
  match S, h with
  | [], _ => rfl
  | [x], _ =>
    rw [Bool.and_eq_false_iff]
    exact .inr rfl
  | x :: y :: r, h =>
    by_cases hx : x.kind = 1
    · have hy : sees [58] (y :: r) = false := decide_eq_false (h (ktT x) (ktT y) (r.map ktT) rfl hx)
      show (_ && (sees [58] (y :: r) && _)) = false
      rw [hy]
      simp
    · have : isN (x :: y :: r) = false := decide_eq_false hx
      rw [this]; rfl
theorem arr_tx2 (X : Ts) : (decide (txt X = [45, 62]) || decide (txt X = [42])) = arrB X := by
  unfold arrB
  cases X with
  | nil => rfl
  | cons a X => rfl
theorem hd_arr {s : List Bs} {A : Ts} {ks : List Kt} (hA : A.map ktT = ks) (h : hdB s ks = true) (h1 : [45, 62] ∉ s) (h2 : [42] ∉ s) (X : Ts) : arrB (A ++ X) = false := by
  unfold arrB
  rw [hd_sees hA h h1 (by decide), hd_sees hA h h2 (by decide)]; rfl
theorem sec_more {S Y : Ts} {ks : List Kt} {c : Tok} (hS : S.map ktT = ks) (hs : Sec ks) (h0 : ks ≠ []) (hc : c.text ≠ [58]) : Sec ((S ++ c :: Y).map ktT) := by
  rw [List.map_append, hS, List.map_cons]
  exact sec_app hs h0 hc
/-- An app begins no binder, but for an Ann of a Name ahead of an arrow. -/
theorem no_binder (f : Nat) : ∀ t : Sx, okF f 0 t = true → ∀ A X : Ts, A.map ktT = partK f 2 t → (frontB t = true → arrB X = false) → binderQ (A ++ X) = false := by
  induction f with
  | zero => intro t h; cases h
  | succ f ih =>
    intro t h A X hA hX
    have brk : needB t 2 = true → binderQ (A ++ X) = false := by
      intro q
      rw [partY q] at hA
      obtain ⟨a, A2, rfl, ha, h3⟩ := spC hA
      obtain ⟨A3, A4, rfl, h4, h5⟩ := spA h3
      obtain ⟨c, A5, rfl, hc, h6⟩ := spC h5
      show binderQ (a :: ((A3 ++ c :: A5) ++ X)) = false
      rw [List.append_assoc]
      exact nb_sec (sec_more h4 (sec_line _ t h).1 (hd_ne (hd_term _ t h).1) (by rw [(tk hc).2]; decide))
    cases q : needB t 2
    · rw [partN q] at hA
      obtain ⟨p, h⟩ := sx_term h
      rcases h with ⟨n, hn, rfl⟩ | ⟨ns, a, k, h0, hns, ha, hk, rfl⟩ | ⟨a, c, k, ha, hc, hk, rfl⟩ | ⟨n, a, c, k, hn, ha, hc, hk, rfl⟩ | ⟨a, c, ha, hc, rfl⟩ | ⟨a, c, ha, hc, rfl⟩ | ⟨a, c, k, ha, hc, hk, rfl⟩ | ⟨l, hl, rfl⟩
      · rw [line1] at hA
        exact nb_first (hd_sees hA (hd_nk hn [] _) (by decide) (by decide) X)
      · rcases hk with rfl | rfl <;> cases q
      · rcases hk with rfl | rfl <;> cases q
      · rcases hk with rfl | rfl <;> cases q
      · rw [line6] at hA
        obtain ⟨A1, A2, rfl, h1, h2⟩ := spA hA
        rw [List.append_assoc]
        exact ih a ha A1 (A2 ++ X) h1 fun _ => hd_arr h2 (hd_term f c hc).2.2 (by decide) (by decide) X
      · rw [line7] at hA
        obtain ⟨A1, A2, rfl, h1, h2⟩ := spA hA
        obtain ⟨b, A3, rfl, hb, h3⟩ := spC h2
        rw [List.append_assoc]
        refine ih a ha A1 _ h1 fun _ => ?_
        show arrB (b :: (A3 ++ X)) = false
        unfold arrB
        rw [sees_k hb, sees_k hb]; decide
      · rcases hk with rfl | rfl
        · rw [line8] at hA
          obtain ⟨b, A2, rfl, hb, h3⟩ := spC hA
          obtain ⟨A3, A4, rfl, h4, h5⟩ := spA h3
          obtain ⟨d, A5, rfl, hd, h6⟩ := spC h5
          show binderQ (b :: ((A3 ++ d :: A5) ++ X)) = false
          rw [List.append_assoc]
          rw [part_0] at h4
          exact nb_sec (sec_more h4 (sec_line _ a ha).1 (hd_ne (hd_term _ a ha).1) (by rw [(tk hd).2]; decide))
        · rw [line9] at hA
          obtain ⟨b, A2, rfl, hb, h3⟩ := spC hA
          have h3' := h3
          obtain ⟨A3, A4, rfl, h4, h5⟩ := spA h3
          obtain ⟨d, A5, rfl, hd, h6⟩ := spC h5
          obtain ⟨A6, A7, rfl, h7, h8⟩ := spA h6
          obtain ⟨g, A8, rfl, hg, h9⟩ := spC h8
          rw [spN h9]
          by_cases h1 : a.kind = 1
          · have hf : frontB (.mk 9 [] [a, c] [] p) = true := by
              show (true && decide (a.kind = 1)) = true
              rw [decide_eq_true h1]; rfl
            have hb2 : behindL 0 (b :: ((A3 ++ d :: A6) ++ g :: X)) = txt X := by
              refine behind_in hb hg (ks := partK f 0 a ++ sg [58] :: partK f 0 c) ?_ (bk_app (bk_part (bk_line f 0 a (by omega) ha) 0) (bk_sg (by decide) (by decide) (bk_part (bk_line f 0 c (by omega) hc) 0)))
              rw [List.map_append, List.map_cons, h4, h7, hd]
            have e : b :: (A3 ++ d :: (A6 ++ [g])) ++ X = b :: ((A3 ++ d :: A6) ++ g :: X) := by simp
            rw [e]
            unfold binderQ
            rw [hb2, arr_tx2, hX hf]
            simp
          · rw [part_0] at h4
            show binderQ (b :: ((A3 ++ d :: (A6 ++ [g])) ++ X)) = false
            rw [List.append_assoc]
            refine nb_sec ?_
            rw [List.map_append, h4]
            intro k1 k2 r e hk1
            obtain ⟨s1, s2⟩ := sec_line f a ha
            match hl : lineK f a, hd_ne (hd_term _ a ha).1 with
            | [x], _ => exact absurd (s2 x hl) h1
            | x :: y :: s, _ =>
              rw [hl] at e
              injection e with e0 e
              injection e with e _
              subst e0 e
              exact s1 _ _ s hl hk1
      · rw [line10] at hA
        exact nb_first (hd_sees hA (hd_sg (x := [91]) (s := [[91]]) (by decide) _) (by decide) (by decide) X)
    · exact brk q
end Go.Proofs.YtahnbigkdfmpbaaDoor

namespace Go.Proofs.YtahnbigkdfmpbaaDoor
set_option linter.unusedVariables false
set_option linter.unusedSimpArgs false

def stJ : List Bs := [[41], [92, 47]]
theorem er_two {k : Nat} {a c : Tr} : erTr (two k a c) = .mk k [] [erTr a, erTr c] [] 0 := by
  unfold two
  rw [erTr_mk]; rfl
theorem Rg.mono {t : Sx} {r : Rs Tr} {k : Nat → Tr → Rs Tr} {m n : Nat} (h : Rg t r k m) (hn : n ≤ m) : Rg t r k n := h.imp id fun ⟨u, f, h1, h2, h3⟩ => ⟨u, f, h1, h2, by omega⟩
theorem meetL_st {e f l : Nat} {m : Tr} {X : Ts} (hf : 1 ≤ f) (h : sees [47, 92] X = false) : meetL e f l m X = .ok m X := by
  obtain ⟨f, rfl⟩ : ∃ k, f = k + 1 := ⟨f - 1, by omega⟩
  rw [meetL_s, if_neg (by rw [h]; simp)]
theorem joinL_st {e f l : Nat} {m : Tr} {X : Ts} (hf : 1 ≤ f) (h : sees [92, 47] X = false) : joinL e f l m X = .ok m X := by
  obtain ⟨f, rfl⟩ : ∃ k, f = k + 1 := ⟨f - 1, by omega⟩
  rw [joinL_s, if_neg (by rw [h]; simp)]
/-- What is read of a dim's tokens: by itself, as what is met, as what is joined. -/
structure DimA (e f : Nat) : Prop where
  D : ∀ t, okF f 1 t = true → ∀ A X l F, A.map ktT = partK f 6 t → 10 * A.length ≤ F + 5 → Rd t X (dimP e F l (A ++ X))
  M : ∀ t, okF f 1 t = true → ∀ A X l F, A.map ktT = partK f 5 t → 10 * A.length ≤ F + 4 → Rg t (meetP e F l (A ++ X)) (fun F u => meetL e F l u X) (F - 1 - A.length)
  J : ∀ t, okF f 1 t = true → ∀ A X l F, A.map ktT = partK f 4 t → stB stJ X → 10 * A.length ≤ F + 3 → Rg t (joinP e F l (A ++ X)) (fun F u => joinL e F l u X) (F - 1 - A.length)
theorem dimA_z (e : Nat) : DimA e 0 := ⟨fun t h => (by cases h), fun t h => (by cases h), fun t h => (by cases h)⟩
theorem dimA_s {e f : Nat} (ih : DimA e f) : DimA e (f + 1) := by
  -- by itself, where no brackets are wanted
  have core : ∀ t, okF (f + 1) 1 t = true → needB t 6 = false → ∀ A X l F, A.map ktT = lineK (f + 1) t → 10 * A.length ≤ F + 5 → Rd t X (dimP e F l (A ++ X)) := by
    intro t h q A X l F hA hF
    have hen := hd_enter (partN (f := f + 1) q ▸ hA) (hd_dim _ t h 6) X
    obtain ⟨F, rfl⟩ : ∃ k, F = k + 1 := ⟨F - 1, by have := hd_len (partN (f := f + 1) q ▸ hA) (hd_dim _ t h 6); omega⟩
    rw [dimP_s]
    refine enter_rd (X := X) hen ?_
    obtain ⟨p, h⟩ := sx_dim h
    rcases h with ⟨n, hn, rfl⟩ | ⟨n, hn, rfl⟩ | ⟨a, ha, rfl⟩ | ⟨a, c, ha, hc, rfl⟩ | ⟨a, c, ha, hc, rfl⟩
    · rw [line1] at hA
      obtain ⟨b, A2, rfl, hb, h2⟩ := spC hA
      rw [spN h2]
      show Rd _ X (if isN (b :: X) then _ else _)
      rw [if_pos (by rw [isN_k hb]; rfl)]
      refine .inr ⟨_, rfl, ?_⟩
      rw [erTr_mk, toTr_mk, show txt ([b] ++ X) = n from txt_k hb X]; rfl
    · rw [line17] at hA
      obtain ⟨b, A2, rfl, hb, h2⟩ := spC hA
      rw [spN h2]
      show Rd _ X (if isN (b :: X) then _ else if sees [126] (b :: X) then _ else if sees [40] (b :: X) then _ else _)
      unfold digB at hn
      simp only [Bool.or_eq_true, decide_eq_true_eq] at hn
      rcases hn with rfl | rfl
      · rw [if_neg (by rw [isN_k hb]; decide), if_neg (by rw [sees_k hb]; decide), if_neg (by rw [sees_k hb]; decide)]
        unfold digitP
        rw [if_pos (by show sees [48] (b :: X) = true; rw [sees_k hb]; rfl)]
        refine .inr ⟨_, rfl, ?_⟩
        rw [erTr_mk, toTr_mk]; rfl
      · rw [if_neg (by rw [isN_k hb]; decide), if_neg (by rw [sees_k hb]; decide), if_neg (by rw [sees_k hb]; decide)]
        unfold digitP
        rw [if_neg (by show ¬ sees [48] (b :: X) = true; rw [sees_k hb]; decide), if_pos (by show sees [49] (b :: X) = true; rw [sees_k hb]; rfl)]
        refine .inr ⟨_, rfl, ?_⟩
        rw [erTr_mk, toTr_mk]; rfl
    · rw [line16] at hA
      obtain ⟨b, A2, rfl, hb, h2⟩ := spC hA
      show Rd _ X (if isN (b :: (A2 ++ X)) then _ else if sees [126] (b :: (A2 ++ X)) then _ else _)
      rw [if_neg (by rw [isN_k hb]; decide), if_pos (by rw [sees_k hb]; rfl)]
      refine (ih.D a ha A2 X (l + 1) F h2 (by simp at hF; omega)).bnd fun u hu => .inr ⟨_, rfl, ?_⟩
      rw [erTr_mk, erTrs_map, List.map_cons, List.map_nil, hu, toTr_mk]; rfl
    · cases q
    · cases q
  -- as what is joined, an Or
  have j14 : ∀ a c p, okF f 1 a = true → okF f 1 c = true → ∀ A X l F, A.map ktT = lineK (f + 1) (.mk 14 [] [a, c] [] p) → stB stJ X → 10 * A.length ≤ F + 3 → Rg (.mk 14 [] [a, c] [] p) (joinP e F l (A ++ X)) (fun F u => joinL e F l u X) (F - 1 - A.length) := by
    intro a c p ha hc A X l F hA hX hF
    rw [line14] at hA
    obtain ⟨A1, A2, rfl, h1, h2⟩ := spA hA
    obtain ⟨b, A3, rfl, hb, h3⟩ := spC h2
    have l1 := hd_len h1 (hd_dim f a ha 4)
    have l3 := hd_len h3 (hd_dim f c hc 5)
    simp only [List.length_append, List.length_cons] at hF ⊢
    rw [List.append_assoc]
    rcases ih.J a ha A1 ((b :: A3) ++ X) l F h1 (st_cons hb (by decide) _) (by omega) with hp | ⟨u, G, hu, eu, hG⟩
    · exact .inl hp
    · rw [hu]
      obtain ⟨G, rfl⟩ : ∃ k, G = k + 1 := ⟨G - 1, by omega⟩
      show Rg _ (joinL e (G + 1) l u (b :: (A3 ++ X))) _ _
      rw [joinL_s, if_pos (by rw [sees_k hb]; rfl)]
      show Rg _ ((meetP e G l (A3 ++ X)).bnd _) _ _
      rcases ih.M c hc A3 X l G h3 (by omega) with ⟨q, hq⟩ | ⟨v, H, hv, ev, hH⟩
      · rw [hq]; exact .inl ⟨q, rfl⟩
      · rw [hv]
        show Rg _ ((meetL e H l v X).bnd _) _ _
        rw [meetL_st (by omega) (st_sees hX (by decide) (by decide)), bnd_ok]
        refine .inr ⟨_, G, rfl, ?_, by omega⟩
        rw [er_two, eu, ev, toTr_mk]; rfl
  -- brackets round what is joined
  have brk : ∀ t, (∀ A X l F, A.map ktT = lineK (f + 1) t → stB stJ X → 10 * A.length ≤ F + 3 → Rg t (joinP e F l (A ++ X)) (fun F u => joinL e F l u X) (F - 1 - A.length)) → 1 ≤ (lineK (f + 1) t).length →
      ∀ A X l F, A.map ktT = sg [40] :: (lineK (f + 1) t ++ [sg [41]]) → 10 * A.length ≤ F + 5 → Rd t X (dimP e F l (A ++ X)) := by
    intro t hj hl A X l F hA hF
    obtain ⟨b, A2, rfl, hb, h2⟩ := spC hA
    obtain ⟨A3, A4, rfl, h3, h4⟩ := spA h2
    obtain ⟨c, A5, rfl, hc, h5⟩ := spC h4
    rw [spN h5] at hF ⊢
    have hl3 : A3.length = (lineK (f + 1) t).length := by rw [← h3, List.length_map]
    simp only [List.length_append, List.length_cons, List.length_nil] at hF
    obtain ⟨F, rfl⟩ : ∃ k, F = k + 1 := ⟨F - 1, by omega⟩
    rw [dimP_s]
    have eq : (b :: (A3 ++ [c])) ++ X = b :: (A3 ++ (c :: X)) := by simp
    rw [eq]
    refine enter_rd (X := X) (by rw [isN_k hb, txt_k hb]; decide) ?_
    rw [if_neg (by rw [isN_k hb]; decide), if_neg (by rw [sees_k hb]; decide), if_pos (by rw [sees_k hb]; rfl)]
    show Rd t X ((joinP e F (l + 1) (A3 ++ (c :: X))).bnd _)
    rcases hj A3 (c :: X) (l + 1) F h3 (st_cons hc (by decide) _) (by omega) with ⟨q, hq⟩ | ⟨u, G, hu, eu, hG⟩
    · rw [hq]; exact .inl ⟨q, rfl⟩
    · rw [hu]
      show Rd t X ((joinL e G (l + 1) u (c :: X)).bnd _)
      rw [joinL_st (by omega) (by rw [sees_k hc]; rfl), bnd_ok, must_k hc, bnd_ok]
      exact .inr ⟨u, rfl, eu⟩
  have M : ∀ t, okF (f + 1) 1 t = true → ∀ A X l F, A.map ktT = partK (f + 1) 5 t → 10 * A.length ≤ F + 4 → Rg t (meetP e F l (A ++ X)) (fun F u => meetL e F l u X) (F - 1 - A.length) := by
    intro t h A X l F hA hF
    have l0 := hd_len hA (hd_dim _ t h 5)
    have one : (∀ F, 10 * A.length ≤ F + 5 → Rd t (X) (dimP e F l (A ++ X))) → Rg t (meetP e F l (A ++ X)) (fun F u => meetL e F l u X) (F - 1 - A.length) := by
      intro hd
      obtain ⟨F, rfl⟩ : ∃ k, F = k + 1 := ⟨F - 1, by omega⟩
      rw [meetP_s]
      rcases hd F (by omega) with ⟨q, hq⟩ | ⟨u, hu, eu⟩
      · rw [hq]; exact .inl ⟨q, rfl⟩
      · rw [hu, bnd_ok]
        exact .inr ⟨u, F, rfl, eu, by omega⟩
    have hh := h
    obtain ⟨p, h⟩ := sx_dim h
    rcases h with ⟨n, hn, rfl⟩ | ⟨n, hn, rfl⟩ | ⟨a, ha, rfl⟩ | ⟨a, c, ha, hc, rfl⟩ | ⟨a, c, ha, hc, rfl⟩
    · exact one fun F hF => core _ hh rfl A X l F (by rw [hA, partN rfl]) hF
    · exact one fun F hF => core _ hh rfl A X l F (by rw [hA, partN rfl]) hF
    · exact one fun F hF => core _ hh rfl A X l F (by rw [hA, partN rfl]) hF
    · rw [partN rfl, line15] at hA
      obtain ⟨A1, A2, rfl, h1, h2⟩ := spA hA
      obtain ⟨b, A3, rfl, hb, h3⟩ := spC h2
      have l1 := hd_len h1 (hd_dim f a ha 5)
      have l3 := hd_len h3 (hd_dim f c hc 6)
      simp only [List.length_append, List.length_cons] at hF ⊢
      rw [List.append_assoc]
      rcases ih.M a ha A1 ((b :: A3) ++ X) l F h1 (by omega) with hp | ⟨u, G, hu, eu, hG⟩
      · exact .inl hp
      · rw [hu]
        obtain ⟨G, rfl⟩ : ∃ k, G = k + 1 := ⟨G - 1, by omega⟩
        show Rg _ (meetL e (G + 1) l u (b :: (A3 ++ X))) _ _
        rw [meetL_s, if_pos (by rw [sees_k hb]; rfl)]
        show Rg _ ((dimP e G l (A3 ++ X)).bnd _) _ _
        rcases ih.D c hc A3 X l G h3 (by omega) with ⟨q, hq⟩ | ⟨v, hv, ev⟩
        · rw [hq]; exact .inl ⟨q, rfl⟩
        · rw [hv, bnd_ok]
          refine .inr ⟨_, G, rfl, ?_, by omega⟩
          rw [er_two, eu, ev, toTr_mk]; rfl
    · rw [partY rfl] at hA
      have hl : 1 ≤ (lineK (f + 1) (.mk 14 [] [a, c] [] p)).length := by
        have h4 := hd_dim (f + 1) _ hh 0
        rw [part_0] at h4
        exact List.length_pos_iff.2 (hd_ne h4)
      exact one fun F hF => brk _ (j14 a c p ha hc) hl A X l F hA hF
  have J : ∀ t, okF (f + 1) 1 t = true → ∀ A X l F, A.map ktT = lineK (f + 1) t → stB stJ X → 10 * A.length ≤ F + 3 → Rg t (joinP e F l (A ++ X)) (fun F u => joinL e F l u X) (F - 1 - A.length) := by
    intro t h A X l F hA hX hF
    have more : needB t 5 = false → Rg t (joinP e F l (A ++ X)) (fun F u => joinL e F l u X) (F - 1 - A.length) := by
      intro q
      have hA2 : A.map ktT = partK (f + 1) 5 t := by rw [partN q, hA]
      have l0 := hd_len hA2 (hd_dim _ t h 5)
      obtain ⟨F, rfl⟩ : ∃ k, F = k + 1 := ⟨F - 1, by omega⟩
      rw [joinP_s]
      rcases M t h A X l F hA2 (by omega) with ⟨q, hq⟩ | ⟨u, G, hu, eu, hG⟩
      · rw [hq]; exact .inl ⟨q, rfl⟩
      · rw [hu]
        show Rg t ((meetL e G l u X).bnd _) _ _
        rw [meetL_st (by omega) (st_sees hX (by decide) (by decide)), bnd_ok]
        exact .inr ⟨u, F, rfl, eu, by omega⟩
    have hh := h
    obtain ⟨p, h⟩ := sx_dim h
    rcases h with ⟨n, hn, rfl⟩ | ⟨n, hn, rfl⟩ | ⟨a, ha, rfl⟩ | ⟨a, c, ha, hc, rfl⟩ | ⟨a, c, ha, hc, rfl⟩
    · exact more rfl
    · exact more rfl
    · exact more rfl
    · exact more rfl
    · exact j14 a c p ha hc A X l F hA hX hF
  refine ⟨?_, M, ?_⟩
  · intro t h A X l F hA hF
    cases q : needB t 6
    · exact core t h q A X l F (by rw [hA, partN q]) hF
    · rw [partY q] at hA
      have hl : 1 ≤ (lineK (f + 1) t).length := by
        have h4 := hd_dim (f + 1) t h 0
        rw [part_0] at h4
        exact List.length_pos_iff.2 (hd_ne h4)
      exact brk t (J t h) hl A X l F hA hF
  · intro t h A X l F hA hX hF
    have q : needB t 4 = false := by
      obtain ⟨p, h⟩ := sx_dim h
      rcases h with ⟨n, hn, rfl⟩ | ⟨n, hn, rfl⟩ | ⟨a, ha, rfl⟩ | ⟨a, c, ha, hc, rfl⟩ | ⟨a, c, ha, hc, rfl⟩ <;> rfl
    exact J t h A X l F (by rw [hA, partN q]) hX hF
theorem dimA_all (e f : Nat) : DimA e f := by
  induction f with
  | zero => exact dimA_z e
  | succ f ih => exact dimA_s ih
end Go.Proofs.YtahnbigkdfmpbaaDoor

namespace Go.Proofs.YtahnbigkdfmpbaaDoor
set_option linter.unusedVariables false
set_option linter.unusedSimpArgs false

def stE : List Bs := [[44], [93]]
theorem appL_st {e f l : Nat} {m : Tr} {X : Ts} (hf : 1 ≤ f) (h1 : sees [64] X = false) (h2 : isN X = false) (h3 : sees [40] X = false) (h4 : sees [91] X = false) : appL e f l m X = .ok m X := by
  obtain ⟨f, rfl⟩ : ∃ k, f = k + 1 := ⟨f - 1, by omega⟩
  rw [appL_s, if_neg (by rw [h1]; simp), if_neg (by rw [h2, h3, h4]; simp)]
theorem namesL_k {ns : List Bs} : ∀ {A : Ts} {c : Tok} {Y : Ts} (acc : List Bs), A.map ktT = ns.map nk → c.kind ≠ 1 → namesL acc (A ++ c :: Y) = .ok (acc ++ ns) (c :: Y) := by
  induction ns with
  | nil =>
    intro A c Y acc h hc
    rw [spN h, List.append_nil]
    show (if c.kind = 1 then _ else _) = _
    rw [if_neg hc]
  | cons n ns ih =>
    intro A c Y acc h hc
    obtain ⟨a, A2, rfl, ha, h2⟩ := spC h
    show (if a.kind = 1 then namesL (acc ++ [a.text]) (A2 ++ c :: Y) else _) = _
    rw [if_pos (tk ha).1, (tk ha).2, ih (acc ++ [n]) h2 hc]
    simp
theorem namesP_k {ns : List Bs} {A : Ts} {c : Tok} {Y : Ts} (e : Nat) (h0 : ns ≠ []) (h : A.map ktT = ns.map nk) (hc : c.kind ≠ 1) : namesP e (A ++ c :: Y) = .ok ns (c :: Y) := by
  match ns, h0 with
  | n :: ns, _ =>
    obtain ⟨a, A2, rfl, ha, h2⟩ := spC h
    unfold namesP
    show (nameP e (a :: (A2 ++ c :: Y))).bnd _ = _
    rw [name_k ha, bnd_ok, namesL_k [n] h2 hc]
    rfl
/-! ### faces -/
theorem eq_rd {e f : Nat} {t : Sx} (h : okF f 4 t = true) {A : Ts} (hA : A.map ktT = lineK f t) (X : Ts) : ∃ u, eqP e (A ++ X) = .ok u X ∧ erTr u = toTr t := by
  cases f with
  | zero => cases h
  | succ f =>
    obtain ⟨p, n, d, hn, hd, rfl⟩ := sx_eq h
    rw [line13] at hA
    obtain ⟨a1, A2, rfl, h1, hA⟩ := spC hA
    obtain ⟨a2, A3, rfl, h2, hA⟩ := spC hA
    obtain ⟨a3, A4, rfl, h3, hA⟩ := spC hA
    obtain ⟨a4, A5, rfl, h4, hA⟩ := spC hA
    obtain ⟨a5, A6, rfl, h5, hA⟩ := spC hA
    rw [spN hA]
    unfold eqP
    show ∃ u, (mustP e [40] (a1 :: a2 :: a3 :: a4 :: a5 :: X)).bnd _ = _ ∧ _
    rw [must_k h1, bnd_ok, name_k h2, bnd_ok, must_k h3, bnd_ok]
    have hdig : digitP e (a4 :: a5 :: X) = .ok d (a5 :: X) := by
      unfold digitP
      unfold digB at hd
      simp only [Bool.or_eq_true, decide_eq_true_eq] at hd
      rcases hd with rfl | rfl
      · rw [if_pos (by rw [sees_k h4]; rfl)]; rfl
      · rw [if_neg (by rw [sees_k h4]; decide), if_pos (by rw [sees_k h4]; rfl)]; rfl
    rw [hdig, bnd_ok, must_k h5, bnd_ok]
    refine ⟨_, rfl, ?_⟩
    rw [erTr_mk, toTr_mk]; rfl
theorem eq_hd {f : Nat} {t : Sx} (h : okF f 4 t = true) : ∃ r, lineK f t = sg [40] :: r := by
  cases f with
  | zero => cases h
  | succ f =>
    obtain ⟨p, n, d, hn, hd, rfl⟩ := sx_eq h
    exact ⟨_, line13 f n d p⟩
theorem faceL_rd {e f : Nat} : ∀ (l : List Sx), l.all (okF f 4) = true → ∀ (A X : Ts) (F p : Nat) (acc : List Tr) (dn : List Sx), A.map ktT = (l.map (lineK f)).flatten → sees [40] X = false → A.length < F → acc.map erTr = dn.map toTr →
    ∃ u, faceL e F p acc (A ++ X) = .ok u X ∧ erTr u = .mk 12 [] ((dn ++ l).map toTr) [] 0 := by
  intro l
  induction l with
  | nil =>
    intro _ A X F p acc dn hA hX hF hacc
    obtain ⟨F, rfl⟩ : ∃ k, F = k + 1 := ⟨F - 1, by omega⟩
    rw [spN hA]
    refine ⟨.mk 12 [] acc [] p, ?_, ?_⟩
    · show (if sees [40] X then _ else _) = _
      rw [if_neg (by rw [hX]; simp)]
      rfl
    · rw [erTr_mk, erTrs_map, hacc, List.append_nil]
  | cons x l ih =>
    intro hl A X F p acc dn hA hX hF hacc
    rw [List.all_cons, Bool.and_eq_true] at hl
    rw [List.map_cons, List.flatten_cons] at hA
    obtain ⟨A1, A2, rfl, h1, h2⟩ := spA hA
    obtain ⟨F, rfl⟩ : ∃ k, F = k + 1 := ⟨F - 1, by omega⟩
    obtain ⟨u, hu, eu⟩ := eq_rd (e := e) hl.1 h1 (A2 ++ X)
    obtain ⟨r, hr⟩ := eq_hd hl.1
    have hs : sees [40] (A1 ++ (A2 ++ X)) = true := by
      rw [hr] at h1
      obtain ⟨a, A3, rfl, ha, _⟩ := spC h1
      show sees [40] (a :: (A3 ++ (A2 ++ X))) = true
      rw [sees_k ha]; rfl
    have hlen : 1 ≤ A1.length := by rw [hr] at h1; obtain ⟨a, A3, rfl, ha, _⟩ := spC h1; simp
    obtain ⟨v, hv, ev⟩ := ih hl.2 A2 X F p (acc ++ [u]) (dn ++ [x]) h2 hX (by rw [List.length_append] at hF; omega) (by simp [hacc, eu])
    refine ⟨v, ?_, by rw [ev]; simp⟩
    rw [List.append_assoc]
    show (if sees [40] (A1 ++ (A2 ++ X)) then (eqP e (A1 ++ (A2 ++ X))).bnd _ else _) = _
    rw [if_pos hs, hu, bnd_ok, hv]
theorem face_rd {e f : Nat} {t : Sx} (h : okF f 3 t = true) {A : Ts} (hA : A.map ktT = lineK f t) {X : Ts} (hX : sees [40] X = false) {F : Nat} (hF : A.length < F) : ∃ u, faceP e F (A ++ X) = .ok u X ∧ erTr u = toTr t := by
  cases f with
  | zero => cases h
  | succ f =>
    obtain ⟨p, l, hl, rfl⟩ := sx_face h
    rw [line12] at hA
    cases l with
    | nil =>
      rw [if_pos rfl] at hA
      obtain ⟨a, A2, rfl, ha, h2⟩ := spC hA
      rw [spN h2]
      unfold faceP
      show ∃ u, (if sees [49] (a :: X) then _ else _) = _ ∧ _
      rw [if_pos (by rw [sees_k ha]; rfl)]
      refine ⟨_, rfl, ?_⟩
      rw [erTr_mk, toTr_mk]; rfl
    | cons x l =>
      rw [if_neg (by simp), List.map_cons, List.flatten_cons] at hA
      rw [List.all_cons, Bool.and_eq_true] at hl
      obtain ⟨A1, A2, rfl, h1, h2⟩ := spA hA
      obtain ⟨u, hu, eu⟩ := eq_rd (e := e) hl.1 h1 (A2 ++ X)
      obtain ⟨r, hr⟩ := eq_hd hl.1
      have hs : sees [49] (A1 ++ (A2 ++ X)) = false := by
        rw [hr] at h1
        obtain ⟨a, A3, rfl, ha, _⟩ := spC h1
        show sees [49] (a :: (A3 ++ (A2 ++ X))) = false
        rw [sees_k ha]; rfl
      rw [List.length_append] at hF
      obtain ⟨v, hv, ev⟩ := faceL_rd (e := e) l hl.2 A2 X F (atP e (A1 ++ (A2 ++ X))) [u] [x] h2 hX (by omega) (by simp [eu])
      refine ⟨v, ?_, by rw [ev, toTr_mk]; rfl⟩
      rw [List.append_assoc]
      unfold faceP
      rw [if_neg (by rw [hs]; simp), hu, bnd_ok, hv]
theorem hd_face {f : Nat} {t : Sx} (h : okF f 3 t = true) : hdB [[49], [40]] (lineK f t) = true := by
  cases f with
  | zero => cases h
  | succ f =>
    obtain ⟨p, l, hl, rfl⟩ := sx_face h
    rw [line12]
    cases l with
    | nil => rfl
    | cons x l =>
      rw [if_neg (by simp), List.map_cons, List.flatten_cons]
      rw [List.all_cons, Bool.and_eq_true] at hl
      obtain ⟨r, hr⟩ := eq_hd hl.1
      rw [hr]; rfl
theorem hd_elem {f : Nat} {t : Sx} (h : okF f 2 t = true) : hdB [[49], [40]] (lineK f t) = true := by
  cases f with
  | zero => cases h
  | succ f =>
    obtain ⟨p, c, hc, rfl | ⟨a, ha, rfl⟩⟩ := sx_elem h
    · rw [line11]; exact hd_face hc
    · rw [line11t]; exact hd_app (hd_face hc) _
/-! ### terms -/
/-- What is read of a term's tokens: by itself, as an app's first part, as an atom; of an elem's. -/
structure TrmA (e f : Nat) : Prop where
  T : ∀ t, okF f 0 t = true → ∀ A X l F, A.map ktT = lineK f t → stB stT X → 10 * A.length ≤ F → Rd t X (termP e F l (A ++ X))
  C : ∀ t, okF f 0 t = true → ∀ A X l F, A.map ktT = partK f 2 t → 10 * A.length ≤ F + 4 → Rg t (appP e F l (A ++ X)) (fun F u => appL e F l u X) (F - 1 - A.length)
  B : ∀ t, okF f 0 t = true → ∀ A X l F, A.map ktT = partK f 3 t → 10 * A.length ≤ F + 5 → Rd t X (atomP e F l (A ++ X))
  E : ∀ t, okF f 2 t = true → ∀ A X l F, A.map ktT = lineK f t → stB stE X → 10 * A.length ≤ F + 5 → Rd t X (elemP e F l (A ++ X))
/-- Brackets round a term. -/
theorem brk_rd {e f : Nat} {t : Sx} (ok : okF f 0 t = true) (hT : ∀ A X l F, A.map ktT = lineK f t → stB stT X → 10 * A.length ≤ F → Rd t X (termP e F l (A ++ X))) :
    ∀ A X l F, A.map ktT = sg [40] :: (lineK f t ++ [sg [41]]) → 10 * A.length ≤ F + 5 → Rd t X (atomP e F l (A ++ X)) := by
  intro A X l F hA hF
  obtain ⟨b, A2, rfl, hb, h2⟩ := spC hA
  obtain ⟨A3, A4, rfl, h3, h4⟩ := spA h2
  obtain ⟨c, A5, rfl, hc, h5⟩ := spC h4
  rw [spN h5] at hF ⊢
  have l3 := hd_len h3 (hd_term f t ok).1
  simp only [List.length_append, List.length_cons, List.length_nil] at hF
  obtain ⟨F, rfl⟩ : ∃ k, F = k + 2 := ⟨F - 2, by omega⟩
  have eq : (b :: (A3 ++ [c])) ++ X = b :: (A3 ++ (c :: X)) := by simp
  rw [eq, atomP_s, if_neg (by rw [isN_k hb]; decide), if_neg (by rw [sees_k hb]; decide), brackP_s, must_k hb, bnd_ok]
  refine (hT A3 (c :: X) (l + 1) F h3 (st_cons hc (by decide) _) (by omega)).bnd fun u hu => ?_
  rw [if_neg (by rw [sees_k hc]; decide), if_neg (by rw [sees_k hc]; decide), must_k hc, bnd_ok]
  exact .inr ⟨u, rfl, hu⟩
theorem app_one {e F l : Nat} {t : Sx} {A X : Ts} (h0 : 1 ≤ A.length) (hF : 10 * A.length ≤ F + 4) (h : ∀ F, 10 * A.length ≤ F + 5 → Rd t X (atomP e F l (A ++ X))) : Rg t (appP e F l (A ++ X)) (fun F u => appL e F l u X) (F - 1 - A.length) := by
  obtain ⟨F, rfl⟩ : ∃ k, F = k + 1 := ⟨F - 1, by omega⟩
  rw [appP_s]
  rcases h F (by omega) with ⟨q, hq⟩ | ⟨u, hu, eu⟩
  · rw [hq]; exact .inl ⟨q, rfl⟩
  · rw [hu, bnd_ok]
    exact .inr ⟨u, F, rfl, eu, by omega⟩
theorem need12 {f : Nat} {t : Sx} (h : okF f 0 t = true) (q : needB t 1 = false) : needB t 2 = false ∧ frontB t = false := by
  cases f with
  | zero => cases h
  | succ f =>
    unfold needB at q ⊢
    rw [Bool.or_eq_false_iff] at q
    obtain ⟨q1, q2⟩ := q
    have q2 : frontB t = false := by simpa using q2
    refine ⟨?_, q2⟩
    obtain ⟨p, h⟩ := sx_term h
    rcases h with ⟨n, hn, rfl⟩ | ⟨ns, a, k, h0, hns, ha, hk, rfl⟩ | ⟨a, c, k, ha, hc, hk, rfl⟩ | ⟨n, a, c, k, hn, ha, hc, hk, rfl⟩ | ⟨a, c, ha, hc, rfl⟩ | ⟨a, c, ha, hc, rfl⟩ | ⟨a, c, k, ha, hc, hk, rfl⟩ | ⟨l, hl, rfl⟩
    · rfl
    · rcases hk with rfl | rfl <;> cases q1
    · rcases hk with rfl | rfl <;> cases q1
    · rcases hk with rfl | rfl <;> cases q1
    · rfl
    · rfl
    · rcases hk with rfl | rfl <;> rfl
    · rfl
/-- The first part of an arrow. -/
theorem front_rd {e f : Nat} (ih : TrmA e f) {t : Sx} (ok : okF f 0 t = true) {A X : Ts} {l F : Nat} (hA : A.map ktT = partK f 1 t) (hF : 10 * A.length ≤ F + 4) :
    Rg t (appP e F l (A ++ X)) (fun F u => appL e F l u X) (F - 1 - A.length) ∧ binderQ (A ++ X) = false ∧ hdB fsA (partK f 1 t) = true := by
  cases q : needB t 1
  · obtain ⟨q2, q3⟩ := need12 ok q
    have hA2 : A.map ktT = partK f 2 t := by rw [hA, partN q, partN q2]
    exact ⟨ih.C t ok A X l F hA2 hF, no_binder f t ok A X hA2 (fun h => by rw [q3] at h; cases h), by rw [partN q, ← partN (pl := 2) q2]; exact (hd_term f t ok).2.1⟩
  · rw [partY q] at hA ⊢
    refine ⟨app_one ?_ hF fun F hF => brk_rd ok (ih.T t ok) A X l F hA hF, ?_, hd_sg (by decide) _⟩
    · obtain ⟨b, A2, rfl, _⟩ := spC hA; simp
    · obtain ⟨a, A2, rfl, ha, h3⟩ := spC hA
      obtain ⟨A3, A4, rfl, h4, h5⟩ := spA h3
      obtain ⟨c, A5, rfl, hc, h6⟩ := spC h5
      show binderQ (a :: ((A3 ++ c :: A5) ++ X)) = false
      rw [List.append_assoc]
      exact nb_sec (sec_more h4 (sec_line _ t ok).1 (hd_ne (hd_term _ t ok).1) (by rw [(tk hc).2]; decide))
theorem boxL_rd {e f : Nat} (ih : TrmA e f) : ∀ (l : List Sx), l.all (okF f 2) = true → ∀ (A X : Ts) (lv F p : Nat) (acc : List Tr) (dn : List Sx), A.map ktT = (l.map fun x => sg [44] :: lineK f x).flatten ++ [sg [93]] → 10 * A.length ≤ F + 5 → acc.map erTr = dn.map toTr →
    (∃ q, boxL e F lv p acc (A ++ X) = .bad q 62) ∨ ∃ u, boxL e F lv p acc (A ++ X) = .ok u X ∧ erTr u = .mk 10 [] ((dn ++ l).map toTr) [] 0 := by
  intro l
  induction l with
  | nil =>
    intro _ A X lv F p acc dn hA hF hacc
    obtain ⟨a, A2, rfl, ha, h2⟩ := spC hA
    obtain ⟨F, rfl⟩ : ∃ k, F = k + 1 := ⟨F - 1, by simp at hF; omega⟩
    rw [spN h2]
    refine .inr ⟨.mk 10 [] acc [] p, ?_, ?_⟩
    · show boxL e (F + 1) lv p acc (a :: X) = _
      rw [boxL_s, if_neg (by rw [sees_k ha]; decide), must_k ha, bnd_ok]
    · rw [erTr_mk, erTrs_map, hacc, List.append_nil]
  | cons x l lh =>
    intro hl A X lv F p acc dn hA hF hacc
    rw [List.all_cons, Bool.and_eq_true] at hl
    rw [List.map_cons, List.flatten_cons] at hA
    simp only [List.cons_append, List.append_assoc] at hA
    obtain ⟨a, A2, rfl, ha, h2⟩ := spC hA
    obtain ⟨A3, A4, rfl, h3, h4⟩ := spA h2
    have l4 : 1 ≤ A4.length := by rw [← List.length_map ktT, h4]; simp
    simp only [List.length_cons, List.length_append] at hF
    obtain ⟨F, rfl⟩ : ∃ k, F = k + 1 := ⟨F - 1, by omega⟩
    have eq : (a :: (A3 ++ A4)) ++ X = a :: (A3 ++ (A4 ++ X)) := by simp
    rw [eq, boxL_s, if_pos (by rw [sees_k ha]; rfl)]
    have hst : stB stE (A4 ++ X) := by
      cases l with
      | nil => obtain ⟨b, A5, rfl, hb, _⟩ := spC h4; exact st_cons hb (by decide) _
      | cons y l => obtain ⟨b, A5, rfl, hb, _⟩ := spC h4; exact st_cons hb (by decide) _
    show (∃ q, ((elemP e F lv (A3 ++ (A4 ++ X))).bnd _) = _) ∨ ∃ u, ((elemP e F lv (A3 ++ (A4 ++ X))).bnd _) = _ ∧ _
    rcases ih.E x hl.1 A3 (A4 ++ X) lv F h3 hst (by omega) with ⟨q, hq⟩ | ⟨u, hu, eu⟩
    · rw [hq]; exact .inl ⟨q, rfl⟩
    · rw [hu, bnd_ok]
      have := lh hl.2 A4 X lv F p (acc ++ [u]) (dn ++ [x]) h4 (by omega) (by simp [hacc, eu])
      rw [List.append_assoc] at this
      exact this
theorem trmA_s {e f : Nat} (ih : TrmA e f) : TrmA e (f + 1) := by
  have E : ∀ t, okF (f + 1) 2 t = true → ∀ A X l F, A.map ktT = lineK (f + 1) t → stB stE X → 10 * A.length ≤ F + 5 → Rd t X (elemP e F l (A ++ X)) := by
    intro t h A X l F hA hX hF
    have l0 := hd_len hA (hd_elem h)
    obtain ⟨F, rfl⟩ : ∃ k, F = k + 1 := ⟨F - 1, by omega⟩
    rw [elemP_s]
    obtain ⟨p, c, hc, rfl | ⟨a, ha, rfl⟩⟩ := sx_elem h
    · rw [line11] at hA
      obtain ⟨u, hu, eu⟩ := face_rd (e := e) hc hA (X := X) (st_sees hX (by decide) (by decide)) (F := F) (by omega)
      rw [hu, bnd_ok, if_neg (by rw [st_sees hX (by decide) (by decide)]; simp)]
      refine .inr ⟨_, rfl, ?_⟩
      rw [erTr_mk, erTrs_map, List.map_cons, List.map_nil, eu, toTr_mk]; rfl
    · rw [line11t] at hA
      obtain ⟨A1, A2, rfl, h1, h2⟩ := spA hA
      obtain ⟨b, A3, rfl, hb, h3⟩ := spC h2
      simp only [List.length_append, List.length_cons] at hF
      have eq : (A1 ++ (b :: A3)) ++ X = A1 ++ (b :: (A3 ++ X)) := by simp
      rw [eq]
      obtain ⟨u, hu, eu⟩ := face_rd (e := e) hc h1 (X := b :: (A3 ++ X)) (by rw [sees_k hb]; rfl) (F := F) (by omega)
      rw [hu, bnd_ok, if_pos (by rw [sees_k hb]; rfl)]
      rw [part_0] at h3
      refine (ih.T a ha A3 X (l + 1) F h3 (st_sub hX (by decide)) (by omega)).bnd fun v hv => .inr ⟨_, rfl, ?_⟩
      rw [erTr_mk, erTrs_map, List.map_cons, List.map_cons, List.map_nil, eu, hv, toTr_mk]; rfl
  -- atoms as they stand
  have core : ∀ t, okF (f + 1) 0 t = true → needB t 3 = false → ∀ A X l F, A.map ktT = lineK (f + 1) t → 10 * A.length ≤ F + 5 → Rd t X (atomP e F l (A ++ X)) := by
    intro t h q A X l F hA hF
    have l0 := hd_len hA (hd_term _ t h).1
    obtain ⟨F, rfl⟩ : ∃ k, F = k + 1 := ⟨F - 1, by omega⟩
    rw [atomP_s]
    obtain ⟨p, h⟩ := sx_term h
    rcases h with ⟨n, hn, rfl⟩ | ⟨ns, a, k, h0, hns, ha, hk, rfl⟩ | ⟨a, c, k, ha, hc, hk, rfl⟩ | ⟨n, a, c, k, hn, ha, hc, hk, rfl⟩ | ⟨a, c, ha, hc, rfl⟩ | ⟨a, c, ha, hc, rfl⟩ | ⟨a, c, k, ha, hc, hk, rfl⟩ | ⟨ls, hl, rfl⟩
    · rw [line1] at hA
      obtain ⟨b, A2, rfl, hb, h2⟩ := spC hA
      rw [spN h2]
      show Rd _ X (if isN (b :: X) then _ else _)
      rw [if_pos (by rw [isN_k hb]; rfl)]
      refine .inr ⟨_, rfl, ?_⟩
      rw [erTr_mk, toTr_mk, show txt ([b] ++ X) = n from txt_k hb X]; rfl
    · rcases hk with rfl | rfl <;> cases q
    · rcases hk with rfl | rfl <;> cases q
    · rcases hk with rfl | rfl <;> cases q
    · cases q
    · cases q
    · have hk2 : lineK (f + 1) (.mk k [] [a, c] [] p) = sg [40] :: (lineK f a ++ (sg (if k = 8 then [44] else [58]) :: (lineK f c ++ [sg [41]]))) := by
        rcases hk with rfl | rfl
        · rw [line8, part_0, part_0]; rfl
        · rw [line9, part_0, part_0]; rfl
      rw [hk2] at hA
      obtain ⟨b, A2, rfl, hb, hA⟩ := spC hA
      obtain ⟨A3, A4, rfl, h3, hA⟩ := spA hA
      obtain ⟨d, A5, rfl, hd, hA⟩ := spC hA
      obtain ⟨A6, A7, rfl, h6, hA⟩ := spA hA
      obtain ⟨g, A8, rfl, hg, hA⟩ := spC hA
      rw [spN hA] at hF ⊢
      simp only [List.length_append, List.length_cons, List.length_nil] at hF
      obtain ⟨F, rfl⟩ : ∃ k, F = k + 1 := ⟨F - 1, by omega⟩
      have eq : (b :: (A3 ++ d :: (A6 ++ [g]))) ++ X = b :: (A3 ++ (d :: (A6 ++ (g :: X)))) := by simp
      rw [eq, if_neg (by rw [isN_k hb]; decide), if_neg (by rw [sees_k hb]; decide), brackP_s, must_k hb, bnd_ok]
      refine (ih.T a ha A3 _ (l + 1) F h3 (st_cons hd (by rcases hk with rfl | rfl <;> decide) _) (by omega)).bnd fun u hu => ?_
      have hc2 := ih.T c hc A6 (g :: X) (l + 1) F h6 (st_cons hg (by decide) _) (by omega)
      rcases hk with rfl | rfl
      · rw [if_pos (by rw [sees_k hd]; rfl)]
        refine hc2.bnd fun v hv => ?_
        rw [must_k hg, bnd_ok]
        refine .inr ⟨_, rfl, ?_⟩
        rw [erTr_mk, erTrs_map, List.map_cons, List.map_cons, List.map_nil, hu, hv, toTr_mk]; rfl
      · rw [if_neg (by rw [sees_k hd]; decide), if_pos (by rw [sees_k hd]; rfl)]
        refine hc2.bnd fun v hv => ?_
        rw [must_k hg, bnd_ok]
        refine .inr ⟨_, rfl, ?_⟩
        rw [erTr_mk, erTrs_map, List.map_cons, List.map_cons, List.map_nil, hu, hv, toTr_mk]; rfl
    · rw [line10] at hA
      obtain ⟨b, A2, rfl, hb, hA⟩ := spC hA
      have l2 : 1 ≤ A2.length := by rw [← List.length_map ktT, hA]; simp
      simp only [List.length_cons] at hF
      obtain ⟨F, rfl⟩ : ∃ k, F = k + 1 := ⟨F - 1, by omega⟩
      show Rd _ X (if isN (b :: (A2 ++ X)) then _ else if sees [91] (b :: (A2 ++ X)) then boxP e (F + 1) l (b :: (A2 ++ X)) else _)
      rw [if_neg (by rw [isN_k hb]; decide), if_pos (by rw [sees_k hb]; rfl), boxP_s]
      show Rd _ X (if sees [93] (A2 ++ X) then _ else (elemP e F l (A2 ++ X)).bnd _)
      cases ls with
      | nil =>
        obtain ⟨c, A3, rfl, hc, h3⟩ := spC hA
        rw [spN h3, if_pos (by show sees [93] (c :: X) = true; rw [sees_k hc]; rfl)]
        refine .inr ⟨_, rfl, ?_⟩
        rw [erTr_mk, toTr_mk]; rfl
      | cons x ls =>
        rw [List.all_cons, Bool.and_eq_true] at hl
        have hA : A2.map ktT = lineK f x ++ ((ls.map fun x => sg [44] :: lineK f x).flatten ++ [sg [93]]) := by
          rw [hA]
          show (lineK f x ++ ((ls.map (lineK f)).map fun y => sg [44] :: y).flatten) ++ _ = _
          rw [List.map_map, List.append_assoc]; rfl
        obtain ⟨A3, A4, rfl, h3, h4⟩ := spA hA
        have l3 := hd_len h3 (hd_elem hl.1)
        rw [List.length_append] at hF
        rw [List.append_assoc, if_neg (by rw [hd_sees h3 (hd_elem hl.1) (by decide) (by decide)]; simp)]
        have hst : stB stE (A4 ++ X) := by
          cases ls with
          | nil => obtain ⟨b, A5, rfl, hb, _⟩ := spC h4; exact st_cons hb (by decide) _
          | cons y l => obtain ⟨b, A5, rfl, hb, _⟩ := spC h4; exact st_cons hb (by decide) _
        refine (ih.E x hl.1 A3 (A4 ++ X) l F h3 hst (by omega)).bnd fun u hu => ?_
        rcases boxL_rd ih ls hl.2 A4 X l F (atP e (b :: (A3 ++ A4) ++ X)) [u] [x] h4 (by omega) (by simp [hu]) with ⟨q, hq⟩ | ⟨v, hv, ev⟩
        · exact .inl ⟨q, hq⟩
        · exact .inr ⟨v, hv, by rw [ev, toTr_mk]; rfl⟩
  -- terms that bind
  have bind : ∀ t, okF (f + 1) 0 t = true → needB t 2 = true → ∀ A X l F, A.map ktT = lineK (f + 1) t → stB stT X → 10 * A.length ≤ F → Rd t X (termP e F l (A ++ X)) := by
    intro t h q A X l F hA hX hF
    have l0 := hd_len hA (hd_term _ t h).1
    have hen := hd_enter hA (hd_term _ t h).1 X
    obtain ⟨F, rfl⟩ : ∃ k, F = k + 2 := ⟨F - 2, by omega⟩
    rw [termP_s]
    refine enter_rd (X := X) hen ?_
    obtain ⟨p, h⟩ := sx_term h
    rcases h with ⟨n, hn, rfl⟩ | ⟨ns, a, k, h0, hns, ha, hk, rfl⟩ | ⟨a, c, k, ha, hc, hk, rfl⟩ | ⟨n, a, c, k, hn, ha, hc, hk, rfl⟩ | ⟨a, c, ha, hc, rfl⟩ | ⟨a, c, ha, hc, rfl⟩ | ⟨a, c, k, ha, hc, hk, rfl⟩ | ⟨ls, hl, rfl⟩
    · cases q
    · have hk2 : lineK (f + 1) (.mk k [] [a] ns p) = sg (if k = 2 then [92] else [60]) :: (ns.map nk ++ (sg (if k = 2 then [46] else [62]) :: lineK f a)) := by
        rcases hk with rfl | rfl
        · rw [line2, part_0]; rfl
        · rw [line3, part_0]; rfl
      rw [hk2] at hA
      obtain ⟨b, A2, rfl, hb, hA⟩ := spC hA
      obtain ⟨A3, A4, rfl, h3, hA⟩ := spA hA
      obtain ⟨d, A5, rfl, hd, hA⟩ := spC hA
      simp only [List.length_append, List.length_cons] at hF
      have hIH := ih.T a ha A5 X (l + 1) F hA hX (by omega)
      have eq : (b :: (A3 ++ d :: A5)) ++ X = b :: (A3 ++ (d :: (A5 ++ X))) := by simp
      rw [eq]
      have hns2 := namesP_k e (Y := A5 ++ X) h0 h3 (c := d) (by rw [(tk hd).1]; decide)
      rcases hk with rfl | rfl
      · rw [if_pos (by rw [sees_k hb]; rfl), bindsP_s]
        show Rd _ X ((namesP e (A3 ++ (d :: (A5 ++ X)))).bnd _)
        rw [hns2, bnd_ok, must_k (show ktT d = sg [46] from hd), bnd_ok]
        refine hIH.bnd fun u hu => .inr ⟨_, rfl, ?_⟩
        rw [erTr_mk, erTrs_map, List.map_cons, List.map_nil, hu, toTr_mk]; rfl
      · rw [if_neg (by rw [sees_k hb]; decide), if_pos (by rw [sees_k hb]; rfl), bindsP_s]
        show Rd _ X ((namesP e (A3 ++ (d :: (A5 ++ X)))).bnd _)
        rw [hns2, bnd_ok, must_k (show ktT d = sg [62] from hd), bnd_ok]
        refine hIH.bnd fun u hu => .inr ⟨_, rfl, ?_⟩
        rw [erTr_mk, erTrs_map, List.map_cons, List.map_nil, hu, toTr_mk]; rfl
    · have hk2 : lineK (f + 1) (.mk k [] [a, c] [] p) = partK f 1 a ++ (sg (if k = 4 then [45, 62] else [42]) :: lineK f c) := by
        rcases hk with rfl | rfl
        · rw [line4, part_0]; rfl
        · rw [line5, part_0]; rfl
      rw [hk2] at hA
      obtain ⟨A3, A4, rfl, h3, hA⟩ := spA hA
      obtain ⟨d, A5, rfl, hd, hA⟩ := spC hA
      simp only [List.length_append, List.length_cons] at hF
      have hIH := ih.T c hc A5 X (l + 1) (F + 1) hA hX (by omega)
      have eq : (A3 ++ d :: A5) ++ X = A3 ++ (d :: (A5 ++ X)) := by simp
      rw [eq]
      obtain ⟨q1, q2, q3⟩ := front_rd ih ha (X := d :: (A5 ++ X)) (l := l) (F := F + 1) h3 (by omega)
      rw [if_neg (by rw [hd_sees h3 q3 (by decide) (by decide)]; simp), if_neg (by rw [hd_sees h3 q3 (by decide) (by decide)]; simp), if_neg (by rw [q2]; simp)]
      rcases q1 with ⟨q, hq⟩ | ⟨u, G, hu, eu, hG⟩
      · rw [hq]; exact .inl ⟨q, rfl⟩
      · rw [hu]
        show Rd _ X ((appL e G l u (d :: (A5 ++ X))).bnd _)
        rcases hk with rfl | rfl
        · rw [appL_st (by omega) (by rw [sees_k hd]; rfl) (by rw [isN_k hd]; rfl) (by rw [sees_k hd]; rfl) (by rw [sees_k hd]; rfl), bnd_ok]
          rw [if_pos (by unfold arrB; rw [sees_k hd]; rfl)]
          refine hIH.bnd fun v hv => .inr ⟨_, rfl, ?_⟩
          rw [er_two, eu, hv, toTr_mk]
          unfold arrK
          rw [if_pos (by rw [sees_k hd]; rfl)]; rfl
        · rw [appL_st (by omega) (by rw [sees_k hd]; rfl) (by rw [isN_k hd]; rfl) (by rw [sees_k hd]; rfl) (by rw [sees_k hd]; rfl), bnd_ok]
          rw [if_pos (by unfold arrB; rw [sees_k hd, sees_k hd]; rfl)]
          refine hIH.bnd fun v hv => .inr ⟨_, rfl, ?_⟩
          rw [er_two, eu, hv, toTr_mk]
          unfold arrK
          rw [if_neg (by rw [sees_k hd]; decide)]; rfl
    · have hk2 : lineK (f + 1) (.mk k [] [a, c] [n] p) = sg [40] :: nk n :: sg [58] :: (lineK f a ++ (sg [41] :: sg (if k = 4 then [45, 62] else [42]) :: lineK f c)) := by
        rcases hk with rfl | rfl
        · rw [line4n, part_0, part_0]; rfl
        · rw [line5n, part_0, part_0]; rfl
      rw [hk2] at hA
      obtain ⟨b, A2, rfl, hb, hA⟩ := spC hA
      obtain ⟨m, A3, rfl, hm, hA⟩ := spC hA
      obtain ⟨g, A4, rfl, hg, hA⟩ := spC hA
      obtain ⟨A5, A6, rfl, h5, hA⟩ := spA hA
      obtain ⟨s, A7, rfl, hs, hA⟩ := spC hA
      obtain ⟨d, A8, rfl, hd, hA⟩ := spC hA
      simp only [List.length_append, List.length_cons] at hF
      have eq : (b :: m :: g :: (A5 ++ s :: d :: A8)) ++ X = b :: m :: g :: (A5 ++ (s :: d :: (A8 ++ X))) := by simp
      rw [eq]
      have hbeh : behindL 0 (b :: m :: g :: (A5 ++ (s :: d :: (A8 ++ X)))) = txt (d :: (A8 ++ X)) :=
        behind_in (A := m :: g :: A5) (ks := nk n :: sg [58] :: lineK f a) hb hs (by rw [List.map_cons, List.map_cons, hm, hg, h5]) (bk_nk hn (bk_sg (by decide) (by decide) (bk_line f 0 a (by omega) ha)))
      have hq : binderQ (b :: m :: g :: (A5 ++ (s :: d :: (A8 ++ X)))) = true := by
        unfold binderQ
        rw [hbeh, arr_tx2]
        show (sees [40] (b :: _) && (isN (m :: _) && (sees [58] (g :: _) && _))) = true
        rw [sees_k hb, isN_k hm, sees_k hg]
        unfold arrB
        rw [sees_k hd, sees_k hd]
        rcases hk with rfl | rfl <;> rfl
      rw [if_neg (by rw [sees_k hb]; decide), if_neg (by rw [sees_k hb]; decide), if_pos hq, binderP_s]
      show Rd _ X ((nameP e (m :: g :: (A5 ++ (s :: d :: (A8 ++ X))))).bnd _)
      rw [name_k hm, bnd_ok, must_k hg, bnd_ok]
      refine (ih.T a ha A5 _ (l + 1) F h5 (st_cons hs (by decide) _) (by omega)).bnd fun u hu => ?_
      rw [must_k hs, bnd_ok]
      have har : arrB (d :: (A8 ++ X)) = true := by
        unfold arrB
        rw [sees_k hd, sees_k hd]
        rcases hk with rfl | rfl <;> rfl
      have hark : arrK (d :: (A8 ++ X)) = k.toNat := by
        unfold arrK
        rw [sees_k hd]
        rcases hk with rfl | rfl <;> rfl
      have harr : arrR (d :: (A8 ++ X)) = A8 ++ X := by
        unfold arrR
        rw [if_pos har]; rfl
      rw [harr, hark]
      refine (ih.T c hc A8 X (l + 1) F hA hX (by omega)).bnd fun v hv => .inr ⟨_, rfl, ?_⟩
      rw [erTr_mk, erTrs_map, List.map_cons, List.map_cons, List.map_nil, hu, hv, toTr_mk]; rfl
    · cases q
    · cases q
    · rcases hk with rfl | rfl <;> cases q
    · cases q
  have C : ∀ t, okF (f + 1) 0 t = true → ∀ A X l F, A.map ktT = partK (f + 1) 2 t → 10 * A.length ≤ F + 4 → Rg t (appP e F l (A ++ X)) (fun F u => appL e F l u X) (F - 1 - A.length) := by
    intro t h A X l F hA hF
    have l0 := hd_len hA (hd_term _ t h).2.1
    cases q : needB t 2
    · cases q3 : needB t 3
      · exact app_one l0 hF fun F hF => core t h q3 A X l F (by rw [hA, partN q]) hF
      · rw [partN q] at hA
        obtain ⟨p, h⟩ := sx_term h
        rcases h with ⟨n, hn, rfl⟩ | ⟨ns, a, k, h0, hns, ha, hk, rfl⟩ | ⟨a, c, k, ha, hc, hk, rfl⟩ | ⟨n, a, c, k, hn, ha, hc, hk, rfl⟩ | ⟨a, c, ha, hc, rfl⟩ | ⟨a, c, ha, hc, rfl⟩ | ⟨a, c, k, ha, hc, hk, rfl⟩ | ⟨ls, hl, rfl⟩
        · cases q3
        · rcases hk with rfl | rfl <;> cases q
        · rcases hk with rfl | rfl <;> cases q
        · rcases hk with rfl | rfl <;> cases q
        · rw [line6] at hA
          obtain ⟨A1, A2, rfl, h1, h2⟩ := spA hA
          have l1 := hd_len h1 (hd_term f a ha).2.1
          have l2 := hd_len h2 (hd_term f c hc).2.2
          simp only [List.length_append] at hF ⊢
          rw [List.append_assoc]
          rcases ih.C a ha A1 (A2 ++ X) l F h1 (by omega) with hp | ⟨u, G, hu, eu, hG⟩
          · exact .inl hp
          · rw [hu]
            obtain ⟨G, rfl⟩ : ∃ k, G = k + 1 := ⟨G - 1, by omega⟩
            show Rg _ (appL e (G + 1) l u (A2 ++ X)) _ _
            have hh := (hd_term f c hc).2.2
            have hen := hd_enter h2 hh X
            have hen2 : (isN (A2 ++ X) || (sees [40] (A2 ++ X) || sees [91] (A2 ++ X))) = true := by
              match A2, l2, hen with
              | b :: A2, _, hen =>
                rw [Bool.or_eq_true, decide_eq_true_eq] at hen
                rw [Bool.or_eq_true, Bool.or_eq_true]
                rcases hen with hen | hen
                · exact .inl hen
                · rcases List.mem_cons.1 hen with e1 | hen
                  · exact .inr (.inl (decide_eq_true e1))
                  · rcases List.mem_cons.1 hen with e1 | hen
                    · exact .inr (.inr (decide_eq_true e1))
                    · cases hen
            rw [appL_s, if_neg (by rw [hd_sees h2 hh (by decide) (by decide)]; simp), if_pos hen2]
            rcases ih.B c hc A2 X l G h2 (by omega) with ⟨q, hq⟩ | ⟨v, hv, ev⟩
            · rw [hq]; exact .inl ⟨q, rfl⟩
            · rw [hv, bnd_ok]
              refine .inr ⟨_, G, rfl, ?_, by omega⟩
              rw [er_two, eu, ev, toTr_mk]; rfl
        · rw [line7] at hA
          obtain ⟨A1, A2, rfl, h1, h2⟩ := spA hA
          obtain ⟨b, A3, rfl, hb, h3⟩ := spC h2
          have l1 := hd_len h1 (hd_term f a ha).2.1
          have l3 := hd_len h3 (hd_dim f c hc 6)
          simp only [List.length_append, List.length_cons] at hF ⊢
          rw [List.append_assoc]
          rcases ih.C a ha A1 ((b :: A3) ++ X) l F h1 (by omega) with hp | ⟨u, G, hu, eu, hG⟩
          · exact .inl hp
          · rw [hu]
            obtain ⟨G, rfl⟩ : ∃ k, G = k + 1 := ⟨G - 1, by omega⟩
            show Rg _ (appL e (G + 1) l u (b :: (A3 ++ X))) _ _
            rw [appL_s, if_pos (by rw [sees_k hb]; rfl)]
            show Rg _ ((dimP e G (l + 1) (A3 ++ X)).bnd _) _ _
            rcases (dimA_all e f).D c hc A3 X (l + 1) G h3 (by omega) with ⟨q, hq⟩ | ⟨v, hv, ev⟩
            · rw [hq]; exact .inl ⟨q, rfl⟩
            · rw [hv, bnd_ok]
              refine .inr ⟨_, G, rfl, ?_, by omega⟩
              rw [er_two, eu, ev, toTr_mk]; rfl
        · rcases hk with rfl | rfl <;> cases q3
        · cases q3
    · rw [partY q] at hA
      exact app_one l0 hF fun F hF => brk_rd h (bind t h q) A X l F hA hF
  have T : ∀ t, okF (f + 1) 0 t = true → ∀ A X l F, A.map ktT = lineK (f + 1) t → stB stT X → 10 * A.length ≤ F → Rd t X (termP e F l (A ++ X)) := by
    intro t h A X l F hA hX hF
    cases q : needB t 2
    · have hA2 : A.map ktT = partK (f + 1) 2 t := by rw [partN q, hA]
      have hh := (hd_term _ t h).2.1
      have l0 := hd_len hA2 hh
      have hen := hd_enter hA (hd_term _ t h).1 X
      obtain ⟨F, rfl⟩ : ∃ k, F = k + 1 := ⟨F - 1, by omega⟩
      rw [termP_s]
      refine enter_rd (X := X) hen ?_
      have harr : arrB X = false := by
        unfold arrB
        rw [st_sees hX (by decide) (by decide), st_sees hX (by decide) (by decide)]; rfl
      rw [if_neg (by rw [hd_sees hA2 hh (by decide) (by decide)]; simp), if_neg (by rw [hd_sees hA2 hh (by decide) (by decide)]; simp), if_neg (by rw [no_binder _ t h A X hA2 fun _ => harr]; simp)]
      rcases C t h A X l F hA2 (by omega) with ⟨q, hq⟩ | ⟨u, G, hu, eu, hG⟩
      · rw [hq]; exact .inl ⟨q, rfl⟩
      · rw [hu]
        show Rd _ X ((appL e G l u X).bnd _)
        rw [appL_st (by omega) (st_sees hX (by decide) (by decide)) (st_isN hX) (st_sees hX (by decide) (by decide)) (st_sees hX (by decide) (by decide)), bnd_ok, if_neg (by rw [harr]; simp)]
        exact .inr ⟨u, rfl, eu⟩
    · exact bind t h q A X l F hA hX hF
  refine ⟨T, C, ?_, E⟩
  intro t h A X l F hA hF
  cases q : needB t 3
  · exact core t h q A X l F (by rw [hA, partN q]) hF
  · rw [partY q] at hA
    exact brk_rd h (T t h) A X l F hA hF
theorem trmA_all (e f : Nat) : TrmA e f := by
  induction f with
  | zero => exact ⟨fun t h => (by cases h), fun t h => (by cases h), fun t h => (by cases h), fun t h => (by cases h)⟩
  | succ f ih => exact trmA_s ih
/-- The text of a tree that may be is read as that tree, but for places, or is too deep. -/
theorem back_text {f F : Nat} {t : Sx} (h : okF f 0 t = true) (hl : (lineF f t).length ≤ 65536) (hF : 655364 ≤ F) :
    (termA F (lineF f t)).2.2 = 62 ∨ ((termA F (lineF f t)).2.2 = 0 ∧ erTr (termA F (lineF f t)).1 = toTr t) := by
  have hs : Sc (lineF f t) (lineK f t ++ [(0, [])]) := by
    have := lx_line f 0 t h [] [(0, [])] (fun c t e => by cases e) sc_nil
    rwa [List.append_nil] at this
  obtain ⟨h0, hk⟩ := scanF_sc (as_line f 0 t h) hl hs
  have hA : (rdA (lineF f t)).map ktT = lineK f t := by
    unfold rdA
    rw [List.map_dropLast, hk, List.dropLast_concat]
  have hlen : (rdA (lineF f t)).length ≤ 65536 := by
    obtain ⟨h1, _, _, _, h2, _⟩ := scan_form h0
    omega
  have r := (trmA_all (lineF f t).length f).T t h (rdA (lineF f t)) [] 1 F hA (st_nil _) (by omega)
  rw [List.append_nil] at r
  unfold termA
  rw [if_pos h0]
  unfold singleP
  rcases r with ⟨q, hq⟩ | ⟨u, hu, eu⟩
  · rw [hq]; exact .inl rfl
  · rw [hu, bnd_ok, if_pos rfl]
    exact .inr ⟨rfl, eu⟩
end Go.Proofs.YtahnbigkdfmpbaaDoor

