/- What every rule keeps: fuel is enough, what is passed is balanced, trees begin at tokens; where a rule gives up. -/
import Derived.Test.YtahnbigkdfmpbaaDoorPMath
namespace Go.Proofs.YtahnbigkdfmpbaaDoor
set_option linter.unusedVariables false
set_option linter.unusedSimpArgs false

def Bal (C : Ts) : Prop := ∀ (o : Int) (Y : Ts), 1 ≤ o → behindL o (C ++ Y) = behindL o Y
def Step (R R' : Ts) : Prop := ∃ C, R = C ++ R' ∧ Bal C
theorem Step.refl (R : Ts) : Step R R := ⟨[], rfl, fun _ _ _ => rfl⟩
theorem Step.trans {R R1 R2 : Ts} (h : Step R R1) (h2 : Step R1 R2) : Step R R2 := by
  obtain ⟨C, rfl, hC⟩ := h
  obtain ⟨D, rfl, hD⟩ := h2
  exact ⟨C ++ D, by rw [List.append_assoc], fun o Y ho => by rw [List.append_assoc, hC o _ ho, hD o _ ho]⟩
theorem Step.pass {t : Tok} {R : Ts} (h1 : t.text ≠ [40]) (h2 : t.text ≠ [41]) : Step (t :: R) R :=
  ⟨[t], rfl, fun o Y ho => by
    have : stepO o t = o := by rw [stepO, if_neg h1, if_neg h2]
    show (if stepO o t = 0 then _ else _) = _
    rw [this, if_neg (by omega)]; rfl⟩
theorem Step.paren {a b : Tok} {R1 R2 : Ts} (ha : a.text = [40]) (hb : b.text = [41]) (h : Step R1 (b :: R2)) : Step (a :: R1) R2 := by
  obtain ⟨C, rfl, hC⟩ := h
  refine ⟨a :: (C ++ [b]), by simp, fun o Y ho => ?_⟩
  have e1 : stepO o a = o + 1 := by rw [stepO, if_pos ha]
  have e2 : stepO (o + 1) b = o := by rw [stepO, if_neg (by rw [hb]; decide), if_pos hb]; omega
  show (if stepO o a = 0 then _ else behindL (stepO o a) ((C ++ [b]) ++ Y)) = _
  rw [e1, if_neg (by omega), List.append_assoc, hC (o + 1) _ (by omega)]
  show (if stepO (o + 1) b = 0 then _ else behindL (stepO (o + 1) b) Y) = _
  rw [e2, if_neg (by omega)]
theorem Step.behind {a b : Tok} {R1 R2 : Ts} (ha : a.text = [40]) (hb : b.text = [41]) (h : Step R1 (b :: R2)) : behindL 0 (a :: R1) = txt R2 := by
  obtain ⟨C, rfl, hC⟩ := h
  have e1 : stepO 0 a = 1 := by rw [stepO, if_pos ha]; rfl
  have e2 : stepO 1 b = 0 := by rw [stepO, if_neg (by rw [hb]; decide), if_pos hb]; omega
  show (if stepO 0 a = 0 then _ else behindL (stepO 0 a) (C ++ b :: R2)) = _
  rw [e1, if_neg (by omega), hC 1 _ (by omega)]
  show (if stepO 1 b = 0 then txt R2 else _) = _
  rw [e2, if_pos rfl]
theorem Step.len {R R' : Ts} (h : Step R R') : R'.length ≤ R.length := by obtain ⟨C, rfl, _⟩ := h; simp
theorem Step.mem {R R' : Ts} (h : Step R R') {v : Tok} (hv : v ∈ R') : v ∈ R := by obtain ⟨C, rfl, _⟩ := h; simp [hv]

/-- A tree whose parts begin at tokens, none ahead of the whole. -/
def WtCl (Lk : Nat → Option Bs) (P : Nat → Tr → Prop) : Prop :=
  ∀ (lo k : Nat) (nm : Bs) (kids : List Tr) (ns : List Bs) (p : Nat) (tx : Bs), Lk p = some tx → (k = 1 → tx = nm) → lo ≤ p → 1 ≤ k → k ≤ 17 → (∀ kid ∈ kids, P p kid) → P lo (.mk k nm kids ns p)
def Wt (Lk : Nat → Option Bs) (lo : Nat) (t : Tr) : Prop := ∀ P : Nat → Tr → Prop, WtCl Lk P → P lo t
theorem Wt.mk {Lk : Nat → Option Bs} (lo k : Nat) (nm : Bs) (kids : List Tr) (ns : List Bs) (p : Nat) (tx : Bs) (h1 : Lk p = some tx) (h2 : k = 1 → tx = nm) (h3 : lo ≤ p) (h4 : 1 ≤ k) (h5 : k ≤ 17) (h6 : ∀ kid ∈ kids, Wt Lk p kid) : Wt Lk lo (.mk k nm kids ns p) :=
  fun P h => h lo k nm kids ns p tx h1 h2 h3 h4 h5 (fun kid hm => h6 kid hm P h)
def WtTop (Lk : Nat → Option Bs) (lo : Nat) (t : Tr) : Prop := ∃ (k : Nat) (nm : Bs) (kids : List Tr) (ns : List Bs) (p : Nat) (tx : Bs), Lk p = some tx ∧ (k = 1 → tx = nm) ∧ lo ≤ p ∧ 1 ≤ k ∧ k ≤ 17 ∧ (∀ kid ∈ kids, Wt Lk p kid) ∧ t = .mk k nm kids ns p
theorem Wt.inv {Lk : Nat → Option Bs} {lo : Nat} {t : Tr} (h : Wt Lk lo t) : WtTop Lk lo t :=
  (h (fun lo t => Wt Lk lo t ∧ WtTop Lk lo t) (fun lo k nm kids ns p tx h1 h2 h3 h4 h5 h6 => ⟨.mk lo k nm kids ns p tx h1 h2 h3 h4 h5 (fun kid hm => (h6 kid hm).1), k, nm, kids, ns, p, tx, h1, h2, h3, h4, h5, fun kid hm => (h6 kid hm).1, rfl⟩)).2
theorem Wt.low {Lk : Nat → Option Bs} {a b : Nat} {t : Tr} (h : Wt Lk a t) (hb : b ≤ a) : Wt Lk b t := by
  obtain ⟨k, nm, kids, ns, p, tx, h1, h2, h3, h4, h5, h6, rfl⟩ := h.inv
  exact .mk b k nm kids ns p tx h1 h2 (by omega) h4 h5 h6
theorem Wt.le {Lk : Nat → Option Bs} {a : Nat} {t : Tr} (h : Wt Lk a t) : a ≤ t.at_ := by obtain ⟨k, nm, kids, ns, p, tx, h1, h2, h3, h4, h5, h6, rfl⟩ := h.inv; exact h3
theorem Wt.self {Lk : Nat → Option Bs} {a : Nat} {t : Tr} (h : Wt Lk a t) : Wt Lk t.at_ t := by
  obtain ⟨k, nm, kids, ns, p, tx, h1, h2, h3, h4, h5, h6, rfl⟩ := h.inv
  exact .mk _ k nm kids ns p tx h1 h2 (Nat.le_refl _) h4 h5 h6
theorem Wt.two {Lk : Nat → Option Bs} {a k : Nat} {t u : Tr} (ht : Wt Lk a t) (hu : Wt Lk t.at_ u) (hk : 2 ≤ k) (hk2 : k ≤ 17) : Wt Lk a (two k t u) := by
  have hs := ht.self
  obtain ⟨k0, nm, kids, ns, p, tx, h1, h2, h3, h4, h5, h6, rfl⟩ := ht.inv
  · refine .mk a k [] _ [] p tx h1 (fun h => by omega) h3 (by omega) hk2 ?_
    intro kid hm
    simp at hm
    rcases hm with rfl | rfl
    · exact hs
    · exact hu
theorem two_at (k : Nat) (a b : Tr) : (two k a b).at_ = a.at_ := rfl

def UpT : Ts → Prop
  | [] => True
  | t :: R => (∀ u ∈ R, t.at_ ≤ u.at_) ∧ UpT R
structure GoodR (Lk : Nat → Option Bs) (R : Ts) : Prop where
  nam : ∀ t ∈ R, t.kind = 1 → ∃ c l, t.text = c :: l ∧ letterB c = true
  lk : ∀ t ∈ R, Lk t.at_ = some t.text
  up : UpT R
theorem UpT.suf {C R : Ts} (h : UpT (C ++ R)) : UpT R := by
  induction C with
  | nil => exact h
  | cons c C ih => exact ih h.2
theorem GoodR.step {Lk : Nat → Option Bs} {R R' : Ts} (h : GoodR Lk R) (hs : Step R R') : GoodR Lk R' :=
  ⟨fun t ht => h.nam t (hs.mem ht), fun t ht => h.lk t (hs.mem ht), by obtain ⟨C, rfl, _⟩ := hs; exact h.up.suf⟩
theorem GoodR.tail {Lk : Nat → Option Bs} {t : Tok} {R : Ts} (h : GoodR Lk (t :: R)) : GoodR Lk R :=
  ⟨fun u hu => h.nam u (by simp [hu]), fun u hu => h.lk u (by simp [hu]), h.up.2⟩
theorem name_not {t : Tok} (h : ∃ c l, t.text = c :: l ∧ letterB c = true) : t.text ≠ [40] ∧ t.text ≠ [41] := by
  obtain ⟨c, l, e, hl⟩ := h
  rw [e]
  refine ⟨fun h => ?_, fun h => ?_⟩
  · injection h with h _; subst h; revert hl; decide
  · injection h with h _; subst h; revert hl; decide
/-- Where a rule gives up. -/
def BadIn (e : Nat) (R : Ts) (p x : Nat) : Prop := (x = 61 ∨ x = 62) ∧ (p = e ∨ ∃ t ∈ R, p = t.at_)
theorem BadIn.up {e : Nat} {R R' : Ts} {p x : Nat} (h : BadIn e R' p x) (hs : ∀ v ∈ R', v ∈ R) : BadIn e R p x := ⟨h.1, h.2.elim .inl fun ⟨t, ht, hp⟩ => .inr ⟨t, hs t ht, hp⟩⟩
theorem bad_here (e x : Nat) (R : Ts) (hx : x = 61 ∨ x = 62) : BadIn e R (atP e R) x := by
  refine ⟨hx, ?_⟩
  cases R with
  | nil => exact .inl rfl
  | cons t R => exact .inr ⟨t, by simp, rfl⟩
/-- What a rule tells, of R. -/
def Inv (Lk : Nat → Option Bs) (e : Nat) (R : Ts) : Rs Tr → Prop
  | .inl (p, x) => BadIn e R p x
  | .inr (t, R') => Step R R' ∧ R'.length < R.length ∧ Wt Lk (atP e R) t ∧ ∀ v ∈ R', t.at_ ≤ v.at_
/-- What a loop tells, of R, with a tree that began at a. -/
def InvL (Lk : Nat → Option Bs) (e : Nat) (a : Nat) (R : Ts) : Rs Tr → Prop
  | .inl (p, x) => BadIn e R p x
  | .inr (t, R') => Step R R' ∧ Wt Lk a t ∧ ∀ v ∈ R', t.at_ ≤ v.at_
theorem must_cases (e : Nat) (s : Bs) (hs : s ≠ []) (R : Ts) : (∃ t R', R = t :: R' ∧ t.text = s ∧ mustP e s R = .ok () R') ∨ mustP e s R = .bad (atP e R) 61 := by
  unfold mustP
  cases R with
  | nil => right; rw [if_neg (by simp [sees, hs])]; rfl
  | cons t R =>
    by_cases h : t.text = s
    · left; exact ⟨t, R, rfl, h, by rw [if_pos (by simp [sees, h])]; rfl⟩
    · right; rw [if_neg (by simp [sees, h])]; rfl
theorem name_cases (e : Nat) (R : Ts) : (∃ t R', R = t :: R' ∧ t.kind = 1 ∧ nameP e R = .ok t.text R') ∨ nameP e R = .bad (atP e R) 61 := by
  unfold nameP
  cases R with
  | nil => right; rfl
  | cons t R =>
    by_cases h : t.kind = 1
    · left; exact ⟨t, R, rfl, h, by rw [if_pos (by simp [isN, h])]; rfl⟩
    · right; rw [if_neg (by simp [isN, h])]; rfl
theorem digit_cases (e : Nat) (R : Ts) : (∃ t R', R = t :: R' ∧ (t.text = [48] ∨ t.text = [49]) ∧ digitP e R = .ok t.text R') ∨ digitP e R = .bad (atP e R) 61 := by
  unfold digitP
  cases R with
  | nil => right; rfl
  | cons t R =>
    by_cases h : t.text = [48]
    · left; exact ⟨t, R, rfl, .inl h, by rw [if_pos (by simp [sees, h]), h]; rfl⟩
    · by_cases h2 : t.text = [49]
      · left; exact ⟨t, R, rfl, .inr h2, by rw [if_neg (by simp [sees, h]), if_pos (by simp [sees, h2]), h2]; rfl⟩
      · right; rw [if_neg (by simp [sees, h]), if_neg (by simp [sees, h2])]; rfl
theorem sees_split {s : Bs} (hs : s ≠ []) {R : Ts} (h : sees s R = true) : ∃ t R', R = t :: R' ∧ t.text = s := by
  cases R with
  | nil => simp [sees] at h; exact absurd h hs
  | cons t R => exact ⟨t, R, rfl, by simpa [sees] using h⟩
theorem isN_split {R : Ts} (h : isN R = true) : ∃ t R', R = t :: R' ∧ t.kind = 1 := by
  cases R with
  | nil => cases h
  | cons t R => exact ⟨t, R, rfl, by simpa [isN] using h⟩
theorem namesL_ok {Lk : Nat → Option Bs} (R : Ts) : ∀ acc, GoodR Lk R → ∃ ns R', namesL acc R = .ok ns R' ∧ Step R R' := by
  induction R with
  | nil => intro acc _; exact ⟨acc, [], rfl, Step.refl _⟩
  | cons t R ih =>
    intro acc hg
    by_cases h : t.kind = 1
    · obtain ⟨ns, R', e, hs⟩ := ih (acc ++ [t.text]) hg.tail
      have hn := name_not (hg.nam t (by simp) h)
      exact ⟨ns, R', by rw [namesL, if_pos h, e], (Step.pass hn.1 hn.2).trans hs⟩
    · exact ⟨acc, t :: R, by rw [namesL, if_neg h], Step.refl _⟩
theorem names_cases {Lk : Nat → Option Bs} (e : Nat) (R : Ts) (hg : GoodR Lk R) : (∃ ns R', namesP e R = .ok ns R' ∧ Step R R') ∨ namesP e R = .bad (atP e R) 61 := by
  unfold namesP
  rcases name_cases e R with ⟨t, R', rfl, hk, e1⟩ | e1
  · left
    rw [e1, bnd_ok]
    obtain ⟨ns, R2, e2, hs⟩ := namesL_ok R' [t.text] hg.tail
    have hn := name_not (hg.nam t (by simp) hk)
    exact ⟨ns, R2, e2, (Step.pass hn.1 hn.2).trans hs⟩
  · right; rw [e1]; rfl
theorem eq_inv {Lk : Nat → Option Bs} (e : Nat) (R : Ts) (hg : GoodR Lk R) : Inv Lk e R (eqP e R) := by
  unfold eqP
  rcases must_cases e [40] (by simp) R with ⟨a, R1, rfl, ha, e1⟩ | e1
  · rw [e1, bnd_ok]
    rcases name_cases e R1 with ⟨t, R2, rfl, hk, e2⟩ | e2
    · rw [e2, bnd_ok]
      have hn := name_not (hg.nam t (by simp) hk)
      rcases must_cases e [61] (by simp) R2 with ⟨b, R3, rfl, hb, e3⟩ | e3
      · rw [e3, bnd_ok]
        rcases digit_cases e R3 with ⟨d, R4, rfl, hd, e4⟩ | e4
        · rw [e4, bnd_ok]
          rcases must_cases e [41] (by simp) R4 with ⟨c, R5, rfl, hc, e5⟩ | e5
          · rw [e5, bnd_ok]
            have hs : Step (t :: b :: d :: c :: R5) (c :: R5) := ((Step.pass hn.1 hn.2).trans (Step.pass (by rw [hb]; decide) (by rw [hb]; decide))).trans (Step.pass (by rcases hd with h | h <;> rw [h] <;> decide) (by rcases hd with h | h <;> rw [h] <;> decide))
            refine ⟨Step.paren ha hc hs, by simp; omega, .mk _ 13 _ _ _ _ _ (hg.lk a (by simp)) (fun h => by omega) (Nat.le_refl _) (by omega) (by omega) (fun kid hk => by simp at hk), ?_⟩
            intro v hv
            exact hg.up.1 v (by simp [hv])
          · rw [e5]; exact (bad_here e 61 _ (.inl rfl)).up (fun v hv => by simp at hv ⊢; simp [hv])
        · rw [e4]; exact (bad_here e 61 _ (.inl rfl)).up (fun v hv => by simp at hv ⊢; simp [hv])
      · rw [e3]; exact (bad_here e 61 _ (.inl rfl)).up (fun v hv => by simp at hv ⊢; simp [hv])
    · rw [e2]; exact (bad_here e 61 _ (.inl rfl)).up (fun v hv => by simp [hv])
  · rw [e1]; exact bad_here e 61 _ (.inl rfl)
theorem faceL_inv {Lk : Nat → Option Bs} (e : Nat) : ∀ (f p : Nat) (acc : List Tr) (R : Ts) (tx : Bs), R.length + 1 ≤ f → GoodR Lk R → Lk p = some tx → (∀ kid ∈ acc, Wt Lk p kid) → (∀ v ∈ R, p ≤ v.at_) → InvL Lk e p R (faceL e f p acc R) := by
  intro f
  induction f with
  | zero => intro p acc R tx h; omega
  | succ f ih =>
    intro p acc R tx hf hg hp hacc hv
    rw [faceL]
    by_cases hs : sees [40] R = true
    · rw [if_pos hs]
      have hi := eq_inv (Lk := Lk) e R hg
      cases hq : eqP e R using Rs.cs with
      | bad q x => rw [hq] at hi; exact hi
      | ok u R1 =>
        rw [hq] at hi
        obtain ⟨h1, h2, h3, h4⟩ := hi
        rw [bnd_ok]
        have hle : p ≤ atP e R := by
          cases R with
          | nil => simp at h2
          | cons t R => exact hv t (by simp)
        have hr := ih p (acc ++ [u]) R1 tx (by omega) (hg.step h1) hp (fun kid hm => by
          rcases List.mem_append.1 hm with hm | hm
          · exact hacc kid hm
          · simp at hm; subst hm; exact h3.low hle) (fun v hm => hv v (h1.mem hm))
        cases hq2 : faceL e f p (acc ++ [u]) R1 using Rs.cs with
        | bad q x => rw [hq2] at hr; exact BadIn.up hr (fun v hm => h1.mem hm)
        | ok t R2 => rw [hq2] at hr; exact ⟨h1.trans hr.1, hr.2⟩
    · rw [if_neg hs]
      exact ⟨Step.refl _, .mk _ 12 _ _ _ _ tx hp (fun h => by omega) (Nat.le_refl _) (by omega) (by omega) hacc, hv⟩
theorem up_head {Lk : Nat → Option Bs} {e : Nat} {R : Ts} (hg : GoodR Lk R) : ∀ v ∈ R, atP e R ≤ v.at_ := by
  cases R with
  | nil => intro v hv; simp at hv
  | cons t R =>
    intro v hv
    rcases List.mem_cons.1 hv with rfl | hv
    · exact Nat.le_refl _
    · exact hg.up.1 v hv
theorem face_inv {Lk : Nat → Option Bs} (e f : Nat) (R : Ts) (hf : R.length + 1 ≤ f) (hg : GoodR Lk R) : Inv Lk e R (faceP e f R) := by
  unfold faceP
  by_cases hs : sees [49] R = true
  · rw [if_pos hs]
    obtain ⟨t, R1, rfl, ht⟩ := sees_split (by simp) hs
    exact ⟨Step.pass (by rw [ht]; decide) (by rw [ht]; decide), by simp, .mk _ 12 _ _ _ _ _ (hg.lk t (by simp)) (fun h => by omega) (Nat.le_refl _) (by omega) (by omega) (fun k hk => by simp at hk), fun v hv => hg.up.1 v hv⟩
  · rw [if_neg hs]
    have hi := eq_inv (Lk := Lk) e R hg
    cases hq : eqP e R using Rs.cs with
    | bad q x => rw [hq] at hi; exact hi
    | ok u R1 =>
      rw [hq] at hi
      obtain ⟨h1, h2, h3, h4⟩ := hi
      rw [bnd_ok]
      have hp : ∃ tx, Lk (atP e R) = some tx := by
        cases R with
        | nil => simp at h2
        | cons t R => exact ⟨_, hg.lk t (by simp)⟩
      obtain ⟨tx, hp⟩ := hp
      have hr := faceL_inv (Lk := Lk) e f (atP e R) [u] R1 tx (by omega) (hg.step h1) hp (fun k hk => by simp at hk; subst hk; exact h3) (fun v hm => up_head hg v (h1.mem hm))
      cases hq2 : faceL e f (atP e R) [u] R1 using Rs.cs with
      | bad q x => rw [hq2] at hr; exact BadIn.up hr (fun v hm => h1.mem hm)
      | ok t R2 => rw [hq2] at hr; exact ⟨h1.trans hr.1, by have := hr.1.len; omega, hr.2⟩
end Go.Proofs.YtahnbigkdfmpbaaDoor
