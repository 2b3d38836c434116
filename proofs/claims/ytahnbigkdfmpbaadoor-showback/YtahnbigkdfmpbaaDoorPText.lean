/- Texts as trees: what Term and Parse answer, and what follows. -/
import Derived.Test.YtahnbigkdfmpbaaDoorPScan
namespace Go.Proofs.YtahnbigkdfmpbaaDoor
set_option linter.unusedVariables false
set_option linter.unusedSimpArgs false

def zeroTr : Tr := .mk 0 [] [] [] 0
def rdA (s : Bs) : Ts := (scanF s).1.dropLast
def ansT (r : Rs Tr) : Tr × Nat × Nat := match r with | .inr (t, _) => (t, 0, 0) | .inl (p, x) => (zeroTr, p, x)
def ansL (r : Rs (List Tr)) : List Tr × Nat × Nat := match r with | .inr (t, _) => (t, 0, 0) | .inl (p, x) => ([], p, x)
def termA (f : Nat) (s : Bs) : Tr × Nat × Nat := if (scanF s).2.2 = 0 then ansT (singleP s.length f (rdA s)) else (zeroTr, (scanF s).2)
def fileA (f g : Nat) (s : Bs) : List Tr × Nat × Nat := if (scanF s).2.2 = 0 then ansL (fileL s.length f g [] (rdA s)) else ([], (scanF s).2)
def lkS (s : Bs) (p : Nat) : Option Bs := ((scanF s).1.find? fun t => decide (t.at_ = p)).map (·.text)

theorem scan_form {s : Bs} (h : (scanF s).2.2 = 0) : s.length ≤ 65536 ∧ (scanF s).1 = rdA s ++ [⟨0, [], s.length⟩] ∧ (∀ t ∈ rdA s, TokG t ∧ t.at_ < s.length) ∧ SUp (rdA s) ∧ (rdA s).length ≤ s.length ∧ U s = s.length ∧ scanQ (s.length + 1) 0 s = .inr (scanF s).1 := by
  obtain ⟨h1, h2, h3, h4⟩ := scanF_ok h
  have h5 := h3
  unfold scanQ at h5
  obtain ⟨A, e, hA, hS⟩ := scanP_toks _ _ _ _ h5
  have hp := passN_le false s
  have hl : 0 + passN false s + (s.drop (passN false s)).length = s.length := by simp; omega
  rw [hl] at e hA
  have hr : rdA s = A := by unfold rdA; rw [e]; simp
  have hc := tok_count_list h
  refine ⟨h1, by rw [hr]; exact e, fun t ht => ?_, by rw [hr]; exact hS, ?_, h2, h3⟩
  · rw [hr] at ht; exact ⟨(hA t ht).1, (hA t ht).2.2⟩
  · rw [e] at hc; rw [hr]; simp at hc; omega
theorem find_sup {L : Ts} (h : SUp L) {t : Tok} (ht : t ∈ L) : L.find? (fun u => decide (u.at_ = t.at_)) = some t := by
  induction L with
  | nil => simp at ht
  | cons a L ih =>
    rcases List.mem_cons.1 ht with rfl | ht
    · simp
    · have := h.1 t ht
      rw [List.find?_cons_of_neg (by simp; omega)]
      exact ih h.2 ht
theorem sup_end {A : Ts} {e : Nat} (h : SUp A) (hl : ∀ t ∈ A, t.at_ < e) : SUp (A ++ [⟨0, [], e⟩]) := by
  induction A with
  | nil => exact ⟨fun u hu => by simp at hu, trivial⟩
  | cons a A ih =>
    refine ⟨fun u hu => ?_, ih h.2 (fun t ht => hl t (by simp [ht]))⟩
    rcases List.mem_append.1 hu with hu | hu
    · exact h.1 u hu
    · simp at hu; subst hu; exact hl a (by simp)
theorem SUp.up {A : Ts} (h : SUp A) : UpT A := by
  induction A with
  | nil => trivial
  | cons a A ih => exact ⟨fun u hu => Nat.le_of_lt (h.1 u hu), ih h.2⟩
theorem good_scan {s : Bs} (h : (scanF s).2.2 = 0) : GoodR (lkS s) (rdA s) := by
  obtain ⟨_, h2, h3, h4, _⟩ := scan_form h
  refine ⟨fun t ht hk => (h3 t ht).1.2.2 hk, fun t ht => ?_, h4.up⟩
  unfold lkS
  rw [h2, find_sup (sup_end h4 (fun t ht => (h3 t ht).2)) (by simp [ht])]
  rfl
/-- Any tokens that rise serve, with their own places. -/
def lkR (R : Ts) (p : Nat) : Option Bs := (R.find? fun t => decide (t.at_ = p)).map (·.text)
theorem good_own {A : Ts} (h1 : ∀ t ∈ A, TokG t) (h2 : SUp A) : GoodR (lkR A) A := by
  refine ⟨fun t ht hk => (h1 t ht).2.2 hk, fun t ht => ?_, h2.up⟩
  unfold lkR
  rw [find_sup h2 ht]
  rfl
theorem single_inv {Lk : Nat → Option Bs} {e f : Nat} {R : Ts} (hf : 10 * R.length + 4 ≤ f) (hg : GoodR Lk R) : (∃ p x, singleP e f R = .bad p x ∧ BadIn e R p x) ∨ ∃ t, singleP e f R = .ok t [] ∧ termP e f 1 R = .ok t [] ∧ Wt Lk (atP e R) t ∧ R ≠ [] := by
  have hi := (terms_inv (Lk := Lk) e f).1 1 R hf hg
  unfold singleP
  cases hq : termP e f 1 R using Rs.cs with
  | bad p x => rw [hq] at hi; exact .inl ⟨p, x, rfl, hi⟩
  | ok t R1 =>
    rw [hq] at hi
    obtain ⟨i1, i2, i3, i4⟩ := hi
    rw [bnd_ok]
    cases R1 with
    | nil => right; exact ⟨t, by rw [if_pos rfl], rfl, i3, ne_of_lt i2⟩
    | cons a R1 =>
      left
      refine ⟨_, _, by rw [if_neg (by simp)]; rfl, ?_⟩
      exact (bad_here e 61 (a :: R1) (.inl rfl)).up (fun v hv => i1.mem hv)
theorem decl_inv {Lk : Nat → Option Bs} {e f : Nat} {R : Ts} (hf : 10 * R.length + 4 ≤ f) (hg : GoodR Lk R) : (∃ p x, declP e f R = .bad p x ∧ BadIn e R p x) ∨ ∃ t R', declP e f R = .ok t R' ∧ Step R R' ∧ R'.length < R.length := by
  unfold declP
  rcases name_cases e R with ⟨n, R1, rfl, hn, e1⟩ | e1
  · rw [e1, bnd_ok]
    have hnn := name_not (hg.nam n (by simp) hn)
    rcases must_cases e [58] (by simp) R1 with ⟨b, R2, rfl, hb, e2⟩ | e2
    · rw [e2, bnd_ok]
      have s2 : Step (n :: b :: R2) R2 := (Step.pass hnn.1 hnn.2).trans (Step.pass (by rw [hb]; decide) (by rw [hb]; decide))
      have hi := (terms_inv (Lk := Lk) e f).1 1 R2 (by simp at hf; omega) (hg.step s2)
      cases hq : termP e f 1 R2 using Rs.cs with
      | bad p x => rw [hq] at hi; exact .inl ⟨p, x, rfl, BadIn.up hi (fun v hv => s2.mem hv)⟩
      | ok a R3 =>
        rw [hq] at hi
        obtain ⟨i1, i2, _, _⟩ := hi
        rw [bnd_ok]
        rcases must_cases e [61] (by simp) R3 with ⟨c, R4, rfl, hc, e3⟩ | e3
        · rw [e3, bnd_ok]
          have s4 : Step (n :: b :: R2) R4 := (s2.trans i1).trans (Step.pass (by rw [hc]; decide) (by rw [hc]; decide))
          have hj := (terms_inv (Lk := Lk) e f).1 1 R4 (by simp at hf i2; omega) (hg.step s4)
          cases hq2 : termP e f 1 R4 using Rs.cs with
          | bad p x => rw [hq2] at hj; exact .inl ⟨p, x, rfl, BadIn.up hj (fun v hv => s4.mem hv)⟩
          | ok d R5 =>
            rw [hq2] at hj
            obtain ⟨j1, j2, _, _⟩ := hj
            rw [bnd_ok]
            rcases must_cases e [59] (by simp) R5 with ⟨g, R6, rfl, hg6, e4⟩ | e4
            · rw [e4, bnd_ok]
              right
              exact ⟨_, _, rfl, (s4.trans j1).trans (Step.pass (by rw [hg6]; decide) (by rw [hg6]; decide)), by simp at i2 j2 ⊢; omega⟩
            · rw [e4]; exact .inl ⟨_, _, rfl, (bad_here e 61 _ (.inl rfl)).up (fun v hv => s4.mem (j1.mem hv))⟩
        · rw [e3]; exact .inl ⟨_, _, rfl, (bad_here e 61 _ (.inl rfl)).up (fun v hv => s2.mem (i1.mem hv))⟩
    · rw [e2]; exact .inl ⟨_, _, rfl, (bad_here e 61 _ (.inl rfl)).up (fun v hv => by simp [hv])⟩
  · rw [e1]; exact .inl ⟨_, _, rfl, bad_here e 61 _ (.inl rfl)⟩
theorem file_inv {Lk : Nat → Option Bs} {e f : Nat} : ∀ (g : Nat) (acc : List Tr) (R : Ts), 10 * R.length + 4 ≤ f → R.length + 1 ≤ g → GoodR Lk R → (∃ p x, fileL e f g acc R = .bad p x ∧ BadIn e R p x) ∨ ∃ l, fileL e f g acc R = .ok l [] := by
  intro g
  induction g with
  | zero => intro acc R _ h; omega
  | succ g ih =>
    intro acc R hf hg hgo
    rw [fileL]
    cases R with
    | nil => right; exact ⟨acc, by rw [if_pos rfl]⟩
    | cons a R =>
      rw [if_neg (by simp)]
      rcases decl_inv (Lk := Lk) (e := e) hf hgo with ⟨p, x, e1, hb⟩ | ⟨t, R1, e1, s1, l1⟩
      · left; exact ⟨p, x, by rw [e1]; rfl, hb⟩
      · rw [e1, bnd_ok]
        rcases ih (acc ++ [t]) R1 (by omega) (by omega) (hgo.step s1) with ⟨p, x, e2, hb⟩ | h
        · exact .inl ⟨p, x, e2, hb.up (fun v hv => s1.mem hv)⟩
        · exact .inr h
theorem term_cases {f : Nat} {s : Bs} (hf : 655364 ≤ f) (h : (scanF s).2.2 = 0) : (∃ p x, singleP s.length f (rdA s) = .bad p x ∧ (x = 61 ∨ x = 62) ∧ p ≤ s.length) ∨ ∃ t, singleP s.length f (rdA s) = .ok t [] ∧ termP s.length f 1 (rdA s) = .ok t [] ∧ Wt (lkS s) 0 t ∧ rdA s ≠ [] := by
  obtain ⟨h1, h2, h3, h4, h5, _⟩ := scan_form h
  rcases single_inv (e := s.length) (f := f) (by omega) (good_scan h) with ⟨p, x, e1, hb⟩ | ⟨t, e1, e2, e3, e4⟩
  · left
    refine ⟨p, x, e1, hb.1, ?_⟩
    rcases hb.2 with h | ⟨t, ht, h⟩
    · omega
    · have := (h3 t ht).2; omega
  · right; exact ⟨t, e1, e2, e3.low (Nat.zero_le _), e4⟩
theorem file_cases {f g : Nat} {s : Bs} (hf : 655364 ≤ f) (hg : 65537 ≤ g) (h : (scanF s).2.2 = 0) : (∃ p x, fileL s.length f g [] (rdA s) = .bad p x ∧ (x = 61 ∨ x = 62)) ∨ ∃ l, fileL s.length f g [] (rdA s) = .ok l [] := by
  obtain ⟨h1, h2, h3, h4, h5, _⟩ := scan_form h
  rcases file_inv (e := s.length) (f := f) g [] (rdA s) (by omega) (by omega) (good_scan h) with ⟨p, x, e1, hb⟩ | h
  · exact .inl ⟨p, x, e1, hb.1⟩
  · exact .inr h
/-- What TreePlaces asks. -/
theorem places_text {f : Nat} {s : Bs} (hf : 655364 ≤ f) : ((termA f s).2.2 ≠ 0 → (termA f s).2.1 ≤ s.length) ∧ ((termA f s).2.2 = 0 → (scanF s).2.2 = 0 ∧ 2 ≤ (scanF s).1.length ∧ Wt (lkS s) 0 (termA f s).1) := by
  unfold termA
  by_cases h : (scanF s).2.2 = 0
  · rw [if_pos h]
    rcases term_cases hf h with ⟨p, x, e1, hx, hp⟩ | ⟨t, e1, e2, e3, e4⟩
    · rw [e1]
      refine ⟨fun _ => hp, fun h0 => ?_⟩
      have h0' : x = 0 := h0
      omega
    · rw [e1]
      refine ⟨fun h0 => absurd rfl h0, fun _ => ⟨h, ?_, e3⟩⟩
      rw [(scan_form h).2.1]
      have : (rdA s).length ≠ 0 := fun h => e4 (List.length_eq_zero_iff.1 h)
      simp; omega
  · rw [if_neg h]
    exact ⟨fun _ => (scanF_bad h).2, fun h0 => absurd h0 h⟩
theorem term_err {f : Nat} {s : Bs} (hf : 655364 ≤ f) (h : (termA f s).2.2 = 60) : (scanF s).2.2 = 60 ∧ (termA f s).2.1 = (scanF s).2.1 := by
  unfold termA at h ⊢
  by_cases h0 : (scanF s).2.2 = 0
  · rw [if_pos h0] at h
    rcases term_cases hf h0 with ⟨p, x, e1, hx, hp⟩ | ⟨t, e1, _⟩
    · rw [e1] at h
      have h' : x = 60 := h
      omega
    · rw [e1] at h; exact absurd h (by simp [ansT])
  · rw [if_neg h0] at h ⊢; exact ⟨h, rfl⟩
theorem scan60 {s : Bs} (hs : s.length ≤ 65536) : (scanF s).2.2 = 60 ↔ U s < s.length := by
  unfold scanF U
  rw [if_neg (by omega)]
  by_cases h : utfP (s.length + 1) s < s.length
  · rw [if_pos h]; exact ⟨fun _ => h, fun _ => rfl⟩
  · rw [if_neg h]
    refine ⟨fun h2 => ?_, fun h2 => absurd h2 h⟩
    cases hq : scanP (s.length + 1) (passN false s) (s.drop (passN false s)) with
    | inl e => rw [hq] at h2; simp [ansOf] at h2
    | inr ts => rw [hq] at h2; simp [ansOf] at h2
theorem scanF_utf' {s : Bs} (hs : s.length ≤ 65536) (h : U s < s.length) : scanF s = ([], U s, 60) := by
  unfold scanF
  rw [if_neg (by omega), if_pos (show utfP (s.length + 1) s < s.length from h)]; rfl
theorem scanF_of {s : Bs} (hs : s.length ≤ 65536) (h : ¬ U s < s.length) : scanF s = ansOf (scanQ (s.length + 1) 0 s) := by
  unfold scanF
  rw [if_neg (by omega), if_neg (show ¬ utfP (s.length + 1) s < s.length from h), scanQ, Nat.zero_add]
theorem U_nil : U [] = 0 := rfl
theorem bad_utf_brackets {s : Bs} (hs : s.length ≤ 60000) (h : (scanF s).2.2 = 60) : (scanF (40 :: (s ++ [10, 41]))).2 = ((scanF s).2.1 + 1, 60) := by
  have hu := (scan60 (by omega)).1 h
  have e1 : U (40 :: (s ++ [10, 41])) = U s + 1 := by rw [U_ascii _ _ (by decide), U_line s [41], if_pos hu]; omega
  rw [scanF_utf' (by simp; omega) (by rw [e1]; simp; omega), e1, scanF_utf' (by omega) hu]
/-! ### in brackets -/
theorem tok_one (c : UInt8) (l : Bs) (h1 : oneB c = true) (h2 : twoB c l = false) (h3 : letterB c = false) : tokN (c :: l) = 1 ∧ kindN (c :: l) = 2 := by
  have hn : nameN (c :: l) = 0 := by simp [nameN, h3]
  have hs : signN (c :: l) = 1 := by simp [signN, h1, h2]
  exact ⟨by simp [tokN, hn, hs], by simp [kindN, hn]⟩
theorem two_not (c : UInt8) (l : Bs) (h : c.toNat ≠ 45 ∧ c.toNat ≠ 47 ∧ c.toNat ≠ 92) : twoB c l = false := by
  cases l with
  | nil => rfl
  | cons d l => simp only [twoB, decide_eq_false_iff_not]; omega
theorem pass_not (c : UInt8) (l : Bs) (h1 : blankB c = false) (h2 : c.toNat ≠ 45) : passN false (c :: l) = 0 := passN_stop h1 (fun h => h2 h.1)
/-- One sign ahead. -/
theorem scan_sign (c : UInt8) (l : Bs) (f p : Nat) (h1 : oneB c = true) (h2 : c.toNat ≠ 45 ∧ c.toNat ≠ 47 ∧ c.toNat ≠ 92) : scanQ (f + 1) p (c :: l) = finR [⟨2, [c], p⟩] (scanQ f (p + 1) l) := by
  obtain ⟨_, _, hb, hl⟩ := one_cases h1
  obtain ⟨ht, hk⟩ := tok_one c l h1 (two_not c l h2) hl
  have e : scanQ (f + 1) p (c :: l) = scanP (f + 1) p (c :: l) := by rw [scanQ, pass_not c l hb h2.1]; rfl
  rw [e, scanP_tok f p (c :: l) (by simp) (by rw [ht]; simp), ht, hk]
  rfl
theorem scan_blank (c : UInt8) (l : Bs) (f p : Nat) (h : blankB c = true) : scanQ f p (c :: l) = scanQ f (p + 1) l := by
  rw [scanQ, scanQ, passN_blank h, Nat.add_comm 1, List.drop_succ_cons]
  congr 1; omega
theorem scan_end (f p : Nat) : scanQ (f + 1) p [] = .inr [⟨0, [], p⟩] := rfl
theorem scan_letter (c d : UInt8) (l : Bs) (f p : Nat) (h : letterB c = true) (hd : (letterB d || digitB d) = false) : scanQ (f + 1) p (c :: d :: l) = finR [⟨1, [c], p⟩] (scanQ f (p + 1) (d :: l)) := by
  have hw : wordN (d :: l) = 0 := by simp [wordN, hd]
  have hn : nameN (c :: d :: l) = 1 := by simp [nameN, h, hw]
  have ht : tokN (c :: d :: l) = 1 := by simp [tokN, hn]
  have hk : kindN (c :: d :: l) = 1 := by simp [kindN, hn]
  have e : scanQ (f + 1) p (c :: d :: l) = scanP (f + 1) p (c :: d :: l) := by rw [scanQ, letter_pass h]; rfl
  rw [e, scanP_tok f p (c :: d :: l) (by simp) (by rw [ht]; simp), ht, hk]
  rfl
theorem scan_part {s r : Bs} (h : (scanF s).2.2 = 0) (g p : Nat) (hg : s.length + 1 + r.length < g) : ∃ g', r.length < g' ∧ scanQ g p (s ++ 10 :: r) = finR (shL p (rdA s)) (scanQ g' (p + s.length + 1) r) := by
  obtain ⟨_, h2, _, _, _, _, h7⟩ := scan_form h
  have hp : scanQ (s.length + 1) p s = .inr (shL p (scanF s).1) := by
    have := scanQ_sh p (s.length + 1) 0 s
    rw [Nat.zero_add, h7] at this
    exact this
  obtain ⟨g', hg', e⟩ := scan_line r s.length s (s.length + 1) g p _ (Nat.le_refl _) hp hg
  refine ⟨g', hg', ?_⟩
  rw [e]
  congr 1
  rw [h2]
  simp [shL]
theorem ansOf_fin (A B : List Tok) : ansOf (finR A (.inr B)) = (A ++ B, 0, 0) := rfl
theorem scan_brackets {s : Bs} (hs : s.length ≤ 60000) (h : (scanF s).2.2 = 0) : scanF (40 :: (s ++ [10, 41])) = (⟨2, [40], 0⟩ :: (shL 1 (rdA s) ++ [⟨2, [41], s.length + 2⟩, ⟨0, [], s.length + 3⟩]), 0, 0) := by
  obtain ⟨_, _, _, _, _, h6, _⟩ := scan_form h
  have e1 : U (40 :: (s ++ [10, 41])) = s.length + 3 := by rw [U_ascii _ _ (by decide), U_line s [41], if_neg (by omega), U_ascii _ _ (by decide), U_nil]; omega
  rw [scanF_of (by simp; omega) (by rw [e1]; simp)]
  have hl : (40 :: (s ++ [10, 41])).length = s.length + 3 := by simp
  rw [hl, scan_sign 40 _ _ _ (by decide) (by decide)]
  obtain ⟨g', hg', e⟩ := scan_part (r := [41]) h (s.length + 3) 1 (by simp)
  rw [Nat.zero_add, show s ++ [10, 41] = s ++ 10 :: [41] from rfl, e]
  obtain ⟨g, rfl⟩ : ∃ k, g' = k + 2 := ⟨g' - 2, by simp at hg'; omega⟩
  rw [scan_sign 41 _ _ _ (by decide) (by decide), scan_end]
  have e2 : 1 + s.length + 1 = s.length + 2 := by omega
  rw [e2]
  simp [finR, ansOf]
theorem name_colon {Lk : Nat → Option Bs} {e f : Nat} {n b : Tok} {R : Ts} (hg : GoodR Lk (n :: b :: R)) (hn : n.kind = 1) (hb : b.text = [58]) : termP e (f + 4) 1 (n :: b :: R) = .ok (.mk 1 n.text [] [] n.at_) (b :: R) := by
  obtain ⟨c, l, hc, hcl⟩ := hg.nam n (by simp) hn
  have hns : ∀ s : Bs, (∀ d m, s = d :: m → letterB d = false) → s ≠ [] → sees s (n :: b :: R) = false := by
    intro s hs hs0
    simp only [sees, decide_eq_false_iff_not]
    intro hh
    rw [hc] at hh
    have := hs c l hh.symm
    rw [hcl] at this; cases this
  have hbk : b.kind ≠ 1 := by
    intro hk
    obtain ⟨c2, l2, h2, h3⟩ := hg.nam b (by simp) hk
    rw [hb] at h2
    injection h2 with h2 _
    subst h2
    revert h3; decide
  have hN : isN (n :: b :: R) = true := by simp [isN, hn]
  rw [termP_s, enterQ, if_pos (by rw [hN]; rfl), if_neg (by omega), if_neg (by rw [hns [92] (by intro d m h; injection h with h _; subst h; decide) (by simp)]; simp), if_neg (by rw [hns [60] (by intro d m h; injection h with h _; subst h; decide) (by simp)]; simp)]
  have hbq : binderQ (n :: b :: R) = false := by
    unfold binderQ
    rw [hns [40] (by intro d m h; injection h with h _; subst h; decide) (by simp)]; rfl
  rw [if_neg (by rw [hbq]; simp), appP_s, atomP_s, if_pos hN, bnd_ok]
  show ((appL e (f + 2) 1 _ (b :: R)).bnd _) = _
  rw [appL_s, if_neg (by simp [sees, hb]), if_neg (by simp [isN, hbk, sees, hb]), bnd_ok, if_neg (by simp [arrB, sees, hb])]
  rfl
theorem sh_good {Lk : Nat → Option Bs} {A : Ts} (d : Nat) (h1 : ∀ t ∈ A, TokG t) (h2 : SUp A) : (∀ t ∈ shL d A, TokG t) ∧ SUp (shL d A) := by
  refine ⟨fun t ht => ?_, ?_⟩
  · simp only [shL, List.mem_map] at ht
    obtain ⟨u, hu, rfl⟩ := ht
    exact h1 u hu
  · clear h1
    induction A with
    | nil => trivial
    | cons a A ih =>
      refine ⟨fun u hu => ?_, ih h2.2⟩
      simp only [List.mem_map] at hu
      obtain ⟨v, hv, rfl⟩ := hu
      have := h2.1 v hv
      show a.at_ + d < v.at_ + d
      omega
theorem term_shifted {f d : Nat} {s : Bs} (hf : 655364 ≤ f) (h : (scanF s).2.2 = 0) {t : Tr} (ht : termP s.length f 1 (rdA s) = .ok t []) : termP (s.length + d) f 1 (shL d (rdA s)) = .ok (shTr d t) [] := by
  rw [(terms_sh d s.length f).1, ht]; rfl
/-- What TreeBrackets asks, first: in brackets. -/
theorem brackets_text {f : Nat} {s : Bs} (hf : 655364 ≤ f) (hs : s.length ≤ 60000) (h : (termA f s).2.2 = 0) : (termA (f + 4) (40 :: (s ++ [10, 41]))).2.2 = 62 ∨ ((termA (f + 4) (40 :: (s ++ [10, 41]))).2.2 = 0 ∧ erTr (termA (f + 4) (40 :: (s ++ [10, 41]))).1 = erTr (termA f s).1) := by
  have h0 : (scanF s).2.2 = 0 := by
    unfold termA at h
    by_cases h0 : (scanF s).2.2 = 0
    · exact h0
    · rw [if_neg h0] at h; exact absurd h h0
  obtain ⟨hl, h2, h3, h4, h5, _⟩ := scan_form h0
  rcases term_cases hf h0 with ⟨p, x, e1, hx, hp⟩ | ⟨t, e1, e2, e3, e4⟩
  · unfold termA at h
    rw [if_pos h0, e1] at h
    have h' : x = 0 := h
    omega
  · have ht : termA f s = (t, 0, 0) := by unfold termA; rw [if_pos h0, e1]; rfl
    rw [ht]
    have hsc := scan_brackets hs h0
    have hrd : rdA (40 :: (s ++ [10, 41])) = ⟨2, [40], 0⟩ :: (shL 1 (rdA s) ++ [⟨2, [41], s.length + 2⟩]) := by
      unfold rdA
      rw [hsc]
      show (⟨2, [40], 0⟩ :: (shL 1 (rdA s) ++ [⟨2, [41], s.length + 2⟩, ⟨0, [], s.length + 3⟩]) : Ts).dropLast = _
      have : (⟨2, [40], 0⟩ :: (shL 1 (rdA s) ++ [⟨2, [41], s.length + 2⟩, ⟨0, [], s.length + 3⟩]) : Ts) = (⟨2, [40], 0⟩ :: (shL 1 (rdA s) ++ [⟨2, [41], s.length + 2⟩])) ++ [⟨0, [], s.length + 3⟩] := by simp
      rw [this, List.dropLast_concat]
      rfl
    obtain ⟨g1, g2⟩ := sh_good (Lk := lkS s) 1 (fun t ht => (h3 t ht).1) h4
    have hgo := good_own g1 g2
    have hts := term_shifted (d := 1) hf h0 e2
    have hlA : (shL 1 (rdA s)).length = (rdA s).length := by simp [shL]
    have hsim := (terms_sim (Lk := lkR (shL 1 (rdA s))) True (s.length + 1) (s.length + 3) f).1 1 2 (shL 1 (rdA s)) [] [⟨2, [41], s.length + 2⟩] (shTr 1 t) (by rw [hlA]; omega) hgo (.inr trivial) hts (.inr ⟨rfl, .inr (.inl rfl)⟩)
    -- no binder
    have hnb : binderQ (⟨2, [40], 0⟩ :: (shL 1 (rdA s) ++ [⟨2, [41], s.length + 2⟩])) = false := by
      cases hA : shL 1 (rdA s) with
      | nil =>
        have : (shL 1 (rdA s)).length = 0 := by rw [hA]; rfl
        rw [hlA] at this
        exact absurd (List.length_eq_zero_iff.1 this) e4
      | cons n A =>
        cases A with
        | nil => simp [binderQ, isN, sees]
        | cons b A =>
          by_cases hn : n.kind = 1
          · by_cases hb : b.text = [58]
            · exfalso
              obtain ⟨f', rfl⟩ : ∃ k, f = k + 4 := ⟨f - 4, by omega⟩
              rw [hA] at hts hgo
              rw [name_colon hgo hn hb] at hts
              injection hts with h8
              injection h8 with _ h9
              cases h9
            · simp [binderQ, isN, sees, hn, hb]
          · simp [binderQ, isN, sees, hn]
    have hsc0 : (scanF (40 :: (s ++ [10, 41]))).2.2 = 0 := by rw [hsc]
    have hlen : (40 :: (s ++ [10, 41])).length = s.length + 3 := by simp
    unfold termA
    rw [if_pos hsc0, hrd, hlen]
    have hterm : termP (s.length + 3) (f + 4) 1 (⟨2, [40], 0⟩ :: (shL 1 (rdA s) ++ [⟨2, [41], s.length + 2⟩])) = (brackP (s.length + 3) (f + 1) 1 (⟨2, [40], 0⟩ :: (shL 1 (rdA s) ++ [⟨2, [41], s.length + 2⟩]))).bnd fun u R4 => (appL (s.length + 3) (f + 2) 1 u R4).bnd fun t R1 => if arrB R1 then (termP (s.length + 3) (f + 3) 2 R1.tail).bnd fun u R2 => .ok (two (arrK R1) t u) R2 else .ok t R1 := by
      rw [termP_s, enterQ, if_pos (by simp [isN, txt]), if_neg (by omega), if_neg (by simp [sees]), if_neg (by simp [sees]), if_neg (by rw [hnb]; simp), appP_s, atomP_s, if_neg (by simp [isN]), if_neg (by simp [sees])]
      cases brackP (s.length + 3) (f + 1) 1 (⟨2, [40], 0⟩ :: (shL 1 (rdA s) ++ [⟨2, [41], s.length + 2⟩])) <;> rfl
    have hbr : brackP (s.length + 3) (f + 1) 1 (⟨2, [40], 0⟩ :: (shL 1 (rdA s) ++ [⟨2, [41], s.length + 2⟩])) = (termP (s.length + 3) f 2 (shL 1 (rdA s) ++ [⟨2, [41], s.length + 2⟩])).bnd fun t R2 =>
        if sees [44] R2 then (termP (s.length + 3) f 2 R2.tail).bnd fun u R3 => (mustP (s.length + 3) [41] R3).bnd fun _ R4 => .ok (.mk 8 [] [t, u] [] 0) R4
        else if sees [58] R2 then (termP (s.length + 3) f 2 R2.tail).bnd fun u R3 => (mustP (s.length + 3) [41] R3).bnd fun _ R4 => .ok (.mk 9 [] [t, u] [] 0) R4
        else (mustP (s.length + 3) [41] R2).bnd fun _ R3 => .ok t R3 := by
      rw [brackP_s, must_t (t := ⟨2, [40], 0⟩) (s := [40]) rfl, bnd_ok]
      rfl
    unfold singleP
    rw [hterm, hbr]
    rcases hsim with e | ⟨_, p, e⟩
    · rw [List.nil_append] at e
      rw [e, bnd_ok, if_neg (by simp [sees]), if_neg (by simp [sees]), must_t (t := ⟨2, [41], s.length + 2⟩) (s := [41]) rfl, bnd_ok, bnd_ok, appL_s, if_neg (by simp [sees]), if_neg (by simp [isN, sees]), bnd_ok, if_neg (by simp [arrB, sees]), bnd_ok, if_pos rfl]
      right
      exact ⟨rfl, er_sh 1 t⟩
    · rw [e]
      left
      rfl
end Go.Proofs.YtahnbigkdfmpbaaDoor
