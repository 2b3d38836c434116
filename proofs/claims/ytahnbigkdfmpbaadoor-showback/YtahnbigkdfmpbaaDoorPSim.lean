/- The same tokens with more behind them, and further in: the same tree, or it is too deep. -/
import Derived.Test.YtahnbigkdfmpbaaDoorPInvC
namespace Go.Proofs.YtahnbigkdfmpbaaDoor
set_option linter.unusedVariables false
set_option linter.unusedSimpArgs false

/-- The same answer, or too deep (where that may be). -/
def Sm {α : Type} (Dp : Prop) (r : Rs α) (t : α) (R : Ts) : Prop := r = .ok t R ∨ (Dp ∧ ∃ p, r = .bad p 62)
theorem Sm.bnd {α β : Type} {Dp : Prop} {x : Rs α} {k : α → Ts → Rs β} {u : α} {R1 R : Ts} {t : β} (h : Sm Dp x u R1) (hk : Sm Dp (k u R1) t R) : Sm Dp (x.bnd k) t R := by
  rcases h with rfl | ⟨hd, p, rfl⟩
  · exact hk
  · exact .inr ⟨hd, p, rfl⟩
theorem bnd_inv {α β : Type} {x : Rs α} {k : α → Ts → Rs β} {t : β} {B : Ts} (h : x.bnd k = .ok t B) : ∃ a R, x = .ok a R ∧ k a R = .ok t B := by
  cases x using Rs.cs with
  | bad p e => cases h
  | ok a R => exact ⟨a, R, rfl, h⟩
def StopX (X : Ts) : Prop := isN X = false ∧ (txt X = [] ∨ txt X = [41] ∨ txt X = [61] ∨ txt X = [59])
def Cnd (B X : Ts) : Prop := B ≠ [] ∨ StopX X
theorem Cnd.back {B B1 X : Ts} (h : Cnd B X) (hs : Step B1 B) : Cnd B1 X := by
  rcases h with h | h
  · left
    rintro rfl
    have := hs.len
    simp at this
    exact h this
  · exact .inr h
theorem sees_app {s : Bs} (h0 : s ≠ []) (h1 : s ≠ [41]) (h2 : s ≠ [61]) (h3 : s ≠ [59]) {B X : Ts} (hc : Cnd B X) : sees s (B ++ X) = sees s B := by
  cases B with
  | cons t B => rfl
  | nil =>
    rcases hc with h | ⟨hx, hx2⟩
    · exact absurd rfl h
    · have : sees s X = decide (txt X = s) := by cases X <;> simp [sees, txt, eq_comm]
      rw [List.nil_append, this]
      have e : sees s [] = false := by simp [sees, h0]
      rw [e, decide_eq_false_iff_not]
      rcases hx2 with h | h | h | h <;> rw [h]
      · exact fun e => h0 e.symm
      · exact fun e => h1 e.symm
      · exact fun e => h2 e.symm
      · exact fun e => h3 e.symm
theorem isN_app {B X : Ts} (hc : Cnd B X) : isN (B ++ X) = isN B := by
  cases B with
  | cons t B => rfl
  | nil =>
    rcases hc with h | ⟨hx, _⟩
    · exact absurd rfl h
    · rw [List.nil_append, hx]; rfl
theorem arrB_app {B X : Ts} (hc : Cnd B X) : arrB (B ++ X) = arrB B := by
  unfold arrB
  rw [sees_app (by simp) (by decide) (by decide) (by decide) hc, sees_app (by simp) (by decide) (by decide) (by decide) hc]
theorem must_ok {e : Nat} {s : Bs} (hs : s ≠ []) {R R' : Ts} {u : Unit} (h : mustP e s R = .ok u R') : ∃ t, R = t :: R' ∧ t.text = s := by
  rcases must_cases e s hs R with ⟨t, R1, rfl, ht, e1⟩ | e1
  · rw [e1] at h; cases h; exact ⟨t, rfl, ht⟩
  · rw [e1] at h; cases h
theorem must_t {e : Nat} {s : Bs} {t : Tok} {R : Ts} (h : t.text = s) : mustP e s (t :: R) = .ok () R := by
  unfold mustP; rw [if_pos (by simp [sees, h])]; rfl
theorem name_ok {e : Nat} {R R' : Ts} {n : Bs} (h : nameP e R = .ok n R') : ∃ t, R = t :: R' ∧ t.kind = 1 ∧ n = t.text := by
  rcases name_cases e R with ⟨t, R1, rfl, ht, e1⟩ | e1
  · rw [e1] at h; cases h; exact ⟨t, rfl, ht, rfl⟩
  · rw [e1] at h; cases h
theorem name_t {e : Nat} {t : Tok} {R : Ts} (h : t.kind = 1) : nameP e (t :: R) = .ok t.text R := by
  unfold nameP; rw [if_pos (by simp [isN, h])]; rfl
theorem digit_ok {e : Nat} {R R' : Ts} {n : Bs} (h : digitP e R = .ok n R') : ∃ t, R = t :: R' ∧ (t.text = [48] ∨ t.text = [49]) ∧ n = t.text := by
  rcases digit_cases e R with ⟨t, R1, rfl, ht, e1⟩ | e1
  · rw [e1] at h; cases h; exact ⟨t, rfl, ht, rfl⟩
  · rw [e1] at h; cases h
theorem digit_t {e : Nat} {t : Tok} {R : Ts} (h : t.text = [48] ∨ t.text = [49]) : digitP e (t :: R) = .ok t.text R := by
  unfold digitP
  rcases h with h | h
  · rw [if_pos (by simp [sees, h]), h]; rfl
  · rw [if_neg (by simp [sees, h]), if_pos (by simp [sees, h]), h]; rfl
theorem namesL_app (R : Ts) : ∀ (acc ns : List Bs) (R' X : Ts), namesL acc R = .ok ns R' → R' ≠ [] → namesL acc (R ++ X) = .ok ns (R' ++ X) := by
  induction R with
  | nil => intro acc ns R' X h hn; cases h; exact absurd rfl hn
  | cons t R ih =>
    intro acc ns R' X h hn
    rw [List.cons_append]
    rw [namesL] at h ⊢
    by_cases hk : t.kind = 1
    · rw [if_pos hk] at h ⊢; exact ih _ _ _ _ h hn
    · rw [if_neg hk] at h ⊢; cases h; rfl
theorem eq_app {e1 e2 : Nat} {A B X : Ts} {t : Tr} (h : eqP e1 A = .ok t B) : eqP e2 (A ++ X) = .ok t (B ++ X) := by
  unfold eqP at h
  obtain ⟨_, R1, h1, h⟩ := bnd_inv h
  obtain ⟨a, rfl, ha⟩ := must_ok (by simp) h1
  obtain ⟨n, R2, h2, h⟩ := bnd_inv h
  obtain ⟨b, rfl, hb, rfl⟩ := name_ok h2
  obtain ⟨_, R3, h3, h⟩ := bnd_inv h
  obtain ⟨c, rfl, hc⟩ := must_ok (by simp) h3
  obtain ⟨d, R4, h4, h⟩ := bnd_inv h
  obtain ⟨g, rfl, hg, rfl⟩ := digit_ok h4
  obtain ⟨_, R5, h5, h⟩ := bnd_inv h
  obtain ⟨k, rfl, hk⟩ := must_ok (by simp) h5
  cases h
  unfold eqP
  simp only [List.cons_append]
  rw [must_t ha, bnd_ok, name_t hb, bnd_ok, must_t hc, bnd_ok, digit_t hg, bnd_ok, must_t hk, bnd_ok]
  rfl
theorem faceL_app {Lk : Nat → Option Bs} {e1 e2 : Nat} : ∀ (f p : Nat) (acc : List Tr) (A B X : Ts) (t : Tr), GoodR Lk A → faceL e1 f p acc A = .ok t B → Step A B ∧ (Cnd B X → faceL e2 f p acc (A ++ X) = .ok t (B ++ X)) := by
  intro f
  induction f with
  | zero => intro p acc A B X t _ h; rw [faceL] at h; cases h
  | succ f ih =>
    intro p acc A B X t hg h
    rw [faceL] at h
    by_cases hs : sees [40] A = true
    · rw [if_pos hs] at h
      obtain ⟨u, R1, h1, h⟩ := bnd_inv h
      have hi := eq_inv (Lk := Lk) e1 A hg
      rw [h1] at hi
      have hr := ih p (acc ++ [u]) R1 B X t (hg.step hi.1) h
      refine ⟨hi.1.trans hr.1, fun hc => ?_⟩
      rw [faceL, sees_app (by simp) (by decide) (by decide) (by decide) (hc.back (hi.1.trans hr.1)), if_pos hs, eq_app (e2 := e2) h1, bnd_ok]
      exact hr.2 hc
    · rw [if_neg hs] at h
      cases h
      refine ⟨Step.refl _, fun hc => ?_⟩
      rw [faceL, sees_app (by simp) (by decide) (by decide) (by decide) hc, if_neg hs]
theorem face_app {Lk : Nat → Option Bs} {e1 e2 f : Nat} {A B X : Ts} {t : Tr} (hf : A.length + 1 ≤ f) (hg : GoodR Lk A) (h : faceP e1 f A = .ok t B) (hc : Cnd B X) : faceP e2 f (A ++ X) = .ok t (B ++ X) := by
  have hi := face_inv (Lk := Lk) e1 f A hf hg
  rw [h] at hi
  have hcA := hc.back hi.1
  unfold faceP at h ⊢
  rw [sees_app (by simp) (by decide) (by decide) (by decide) hcA]
  by_cases hs : sees [49] A = true
  · rw [if_pos hs] at h ⊢
    obtain ⟨a, R1, rfl, ha⟩ := sees_split (by simp) hs
    cases h
    rfl
  · rw [if_neg hs] at h ⊢
    obtain ⟨u, R1, h1, h⟩ := bnd_inv h
    have hi1 := eq_inv (Lk := Lk) e1 A hg
    rw [h1] at hi1
    rw [eq_app (e2 := e2) h1, bnd_ok]
    have hat : atP e2 (A ++ X) = atP e1 A := by
      cases A with
      | nil => have := hi1.2.1; simp at this
      | cons a A => rfl
    rw [hat]
    exact (faceL_app (Lk := Lk) f _ _ R1 B X t (hg.step hi1.1) h).2 hc
theorem enter_ok {e l : Nat} {S : List Bs} {R B : Ts} {k : Rs Tr} {t : Tr} (h : enterQ e l S R k = .ok t B) : (isN R || decide (txt R ∈ S)) = true ∧ l ≤ 200 ∧ k = .ok t B := by
  unfold enterQ wrongP at h
  by_cases h1 : (isN R || decide (txt R ∈ S)) = true
  · rw [if_pos h1] at h
    by_cases h2 : 200 < l
    · rw [if_pos h2] at h; cases h
    · rw [if_neg h2] at h; exact ⟨h1, by omega, h⟩
  · rw [if_neg h1] at h; cases h
theorem enter_app {Dp : Prop} {e l l2 : Nat} {S : List Bs} (hS : [] ∉ S) {a : Tok} {R : Ts} {k : Rs Tr} {t : Tr} {B : Ts} (h1 : (isN (a :: R) || decide (txt (a :: R) ∈ S)) = true) (X : Ts) (hl : l ≤ 200) (hd : l2 = l ∨ Dp) (hk : l2 ≤ 200 → Sm Dp k t B) : Sm Dp (enterQ e l2 S (a :: R ++ X) k) t B := by
  unfold enterQ wrongP
  rw [if_pos (show (isN (a :: R ++ X) || decide (txt (a :: R ++ X) ∈ S)) = true from h1)]
  by_cases h2 : 200 < l2
  · rw [if_pos h2]
    rcases hd with h | h
    · omega
    · exact .inr ⟨h, _, rfl⟩
  · rw [if_neg h2]; exact hk (by omega)
theorem at_app {e1 e2 : Nat} {A X : Ts} (h : A ≠ []) : atP e2 (A ++ X) = atP e1 A := by
  cases A with
  | nil => exact absurd rfl h
  | cons a A => rfl
theorem tail_app {A X : Ts} (h : A ≠ []) : (A ++ X).tail = A.tail ++ X := by
  cases A with
  | nil => exact absurd rfl h
  | cons a A => rfl
theorem txt_app {A X : Ts} (h : A ≠ []) : txt (A ++ X) = txt A := by
  cases A with
  | nil => exact absurd rfl h
  | cons a A => rfl
theorem dims_sim {Lk : Nat → Option Bs} (Dp : Prop) (e1 e2 : Nat) : ∀ f : Nat,
    (∀ l l2 A B X t, 10 * A.length + 1 ≤ f → GoodR Lk A → (l2 = l ∨ Dp) → dimP e1 f l A = .ok t B → Cnd B X → Sm Dp (dimP e2 f l2 (A ++ X)) t (B ++ X)) ∧
    (∀ l l2 A B X t, 10 * A.length + 3 ≤ f → GoodR Lk A → (l2 = l ∨ Dp) → joinP e1 f l A = .ok t B → Cnd B X → Sm Dp (joinP e2 f l2 (A ++ X)) t (B ++ X)) ∧
    (∀ l l2 m A B X t, 10 * A.length + 1 ≤ f → GoodR Lk A → (l2 = l ∨ Dp) → joinL e1 f l m A = .ok t B → Step A B ∧ (Cnd B X → Sm Dp (joinL e2 f l2 m (A ++ X)) t (B ++ X))) ∧
    (∀ l l2 A B X t, 10 * A.length + 2 ≤ f → GoodR Lk A → (l2 = l ∨ Dp) → meetP e1 f l A = .ok t B → Cnd B X → Sm Dp (meetP e2 f l2 (A ++ X)) t (B ++ X)) ∧
    (∀ l l2 m A B X t, 10 * A.length + 1 ≤ f → GoodR Lk A → (l2 = l ∨ Dp) → meetL e1 f l m A = .ok t B → Step A B ∧ (Cnd B X → Sm Dp (meetL e2 f l2 m (A ++ X)) t (B ++ X))) := by
  intro f
  induction f with
  | zero => exact ⟨fun _ _ _ _ _ _ h => by omega, fun _ _ _ _ _ _ h => by omega, fun _ _ _ _ _ _ _ h => by omega, fun _ _ _ _ _ _ h => by omega, fun _ _ _ _ _ _ _ h => by omega⟩
  | succ f ih =>
    obtain ⟨sd, sj, sjl, sm, sml⟩ := ih
    obtain ⟨nd, nj, njl, nm, nml⟩ := dims_inv (Lk := Lk) e1 f
    refine ⟨?_, ?_, ?_, ?_, ?_⟩
    · intro l l2 A B X t hf hg hl h hc
      have hi := (dims_inv (Lk := Lk) e1 (f + 1)).1 l A hf hg
      rw [h] at hi
      rw [dimP_s] at h
      obtain ⟨hb, hle, h⟩ := enter_ok h
      obtain ⟨a, R, rfl⟩ : ∃ a R, A = a :: R := by
        cases A with
        | nil => have := hi.2.1; simp at this
        | cons a R => exact ⟨a, R, rfl⟩
      rw [dimP_s]
      refine enter_app (by decide) hb X hle hl (fun hl2 => ?_)
      by_cases h1 : isN (a :: R) = true
      · rw [if_pos h1] at h
        cases h
        rw [if_pos (show isN (a :: R ++ X) = true from h1)]
        exact .inl rfl
      · rw [if_neg h1] at h
        rw [if_neg (show ¬ isN (a :: R ++ X) = true from h1)]
        by_cases h2 : sees [126] (a :: R) = true
        · rw [if_pos h2] at h
          rw [if_pos (show sees [126] (a :: R ++ X) = true from h2)]
          obtain ⟨d, R1, q1, h⟩ := bnd_inv h
          cases h
          exact Sm.bnd (sd (l + 1) (l2 + 1) R B X d (by simp at hf; omega) hg.tail (hl.elim (fun h => .inl (by omega)) .inr) q1 hc) (.inl rfl)
        · rw [if_neg h2] at h
          rw [if_neg (show ¬ sees [126] (a :: R ++ X) = true from h2)]
          by_cases h3 : sees [40] (a :: R) = true
          · rw [if_pos h3] at h
            rw [if_pos (show sees [40] (a :: R ++ X) = true from h3)]
            obtain ⟨j, R1, q1, h4⟩ := bnd_inv h
            obtain ⟨_, R2, q2, h5⟩ := bnd_inv h4
            clear h h4
            obtain ⟨c, rfl, hcl⟩ := must_ok (by simp) q2
            cases h5
            refine Sm.bnd (sj (l + 1) (l2 + 1) R (c :: B) X t (by simp at hf; omega) hg.tail (hl.elim (fun h => .inl (by omega)) .inr) q1 (.inl (by simp))) ?_
            show Sm Dp ((mustP e2 [41] (c :: (B ++ X))).bnd _) _ _
            rw [must_t hcl, bnd_ok]
            exact .inl rfl
          · rw [if_neg h3] at h
            rw [if_neg (show ¬ sees [40] (a :: R ++ X) = true from h3)]
            obtain ⟨d, R1, q1, h⟩ := bnd_inv h
            obtain ⟨c, q, hcd, rfl⟩ := digit_ok q1
            obtain rfl : c = a := by injection q with q3 q4; exact q3.symm
            obtain rfl : R1 = R := by injection q with q3 q4; exact q4.symm
            cases h
            show Sm Dp ((digitP e2 (_ :: (_ ++ X))).bnd _) _ _
            rw [digit_t hcd, bnd_ok]
            exact .inl rfl
    · intro l l2 A B X t hf hg hl h hc
      rw [joinP_s] at h ⊢
      obtain ⟨m, R1, q1, h⟩ := bnd_inv h
      have hi := nm l A (by omega) hg
      rw [q1] at hi
      have hr := sjl l l2 m R1 B X t (by have := hi.2.1; omega) (hg.step hi.1) hl h
      exact Sm.bnd (sm l l2 A R1 X m (by omega) hg hl q1 (hc.back hr.1)) (hr.2 hc)
    · intro l l2 m A B X t hf hg hl h
      rw [joinL_s] at h
      by_cases h1 : sees [92, 47] A = true
      · rw [if_pos h1] at h
        obtain ⟨a, R, rfl, ha⟩ := sees_split (by simp) h1
        obtain ⟨x, R1, q1, h⟩ := bnd_inv h
        have hi := nm l R (by simp at hf; omega) hg.tail
        have q1' : meetP e1 f l R = .ok x R1 := q1
        rw [q1'] at hi
        have hr := sjl l l2 (two 14 m x) R1 B X t (by have := hi.2.1; simp at hf; omega) (hg.tail.step hi.1) hl h
        have hs : Step (a :: R) R := Step.pass (by rw [ha]; decide) (by rw [ha]; decide)
        refine ⟨(hs.trans hi.1).trans hr.1, fun hc => ?_⟩
        rw [joinL_s, if_pos (show sees [92, 47] (a :: R ++ X) = true from h1)]
        exact Sm.bnd (sm l l2 R R1 X x (by simp at hf; omega) hg.tail hl q1' (hc.back hr.1)) (hr.2 hc)
      · rw [if_neg h1] at h
        cases h
        refine ⟨Step.refl _, fun hc => ?_⟩
        rw [joinL_s, sees_app (by simp) (by decide) (by decide) (by decide) hc, if_neg h1]
        exact .inl rfl
    · intro l l2 A B X t hf hg hl h hc
      rw [meetP_s] at h ⊢
      obtain ⟨m, R1, q1, h⟩ := bnd_inv h
      have hi := nd l A (by omega) hg
      rw [q1] at hi
      have hr := sml l l2 m R1 B X t (by have := hi.2.1; omega) (hg.step hi.1) hl h
      exact Sm.bnd (sd l l2 A R1 X m (by omega) hg hl q1 (hc.back hr.1)) (hr.2 hc)
    · intro l l2 m A B X t hf hg hl h
      rw [meetL_s] at h
      by_cases h1 : sees [47, 92] A = true
      · rw [if_pos h1] at h
        obtain ⟨a, R, rfl, ha⟩ := sees_split (by simp) h1
        obtain ⟨x, R1, q1, h⟩ := bnd_inv h
        have hi := nd l R (by simp at hf; omega) hg.tail
        have q1' : dimP e1 f l R = .ok x R1 := q1
        rw [q1'] at hi
        have hr := sml l l2 (two 15 m x) R1 B X t (by have := hi.2.1; simp at hf; omega) (hg.tail.step hi.1) hl h
        have hs : Step (a :: R) R := Step.pass (by rw [ha]; decide) (by rw [ha]; decide)
        refine ⟨(hs.trans hi.1).trans hr.1, fun hc => ?_⟩
        rw [meetL_s, if_pos (show sees [47, 92] (a :: R ++ X) = true from h1)]
        exact Sm.bnd (sd l l2 R R1 X x (by simp at hf; omega) hg.tail hl q1' (hc.back hr.1)) (hr.2 hc)
      · rw [if_neg h1] at h
        cases h
        refine ⟨Step.refl _, fun hc => ?_⟩
        rw [meetL_s, sees_app (by simp) (by decide) (by decide) (by decide) hc, if_neg h1]
        exact .inl rfl
end Go.Proofs.YtahnbigkdfmpbaaDoor
