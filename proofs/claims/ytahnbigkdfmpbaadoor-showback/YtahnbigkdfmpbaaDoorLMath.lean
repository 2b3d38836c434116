/- The plain mathematics of layer 6: what is let by, names, signs, tokens; the scanning of a text; which bytes are whole scalar values. -/
import Derived.Lib.DecodeN
import Derived.Lib.Bytealg
namespace Go.Proofs.YtahnbigkdfmpbaaDoor
set_option linter.unusedVariables false
set_option linter.unusedSimpArgs false

abbrev Bs := List UInt8
def blankB (c : UInt8) : Bool := decide (c.toNat = 32 ∨ c.toNat = 9 ∨ c.toNat = 10 ∨ c.toNat = 13)
def letterB (c : UInt8) : Bool := decide ((97 ≤ c.toNat ∧ c.toNat ≤ 122) ∨ (65 ≤ c.toNat ∧ c.toNat ≤ 90) ∨ c.toNat = 95)
def digitB (c : UInt8) : Bool := decide (48 ≤ c.toNat ∧ c.toNat ≤ 57)
def oneB (c : UInt8) : Bool := decide (c.toNat ∈ [40, 41, 91, 93, 44, 46, 58, 59, 61, 92, 60, 62, 64, 126, 42, 48, 49])
def dash (t : Bs) : Bool := match t with | [] => false | d :: _ => decide (d.toNat = 45)

/-- How many bytes are let by (the first argument: within a comment?). -/
def passN : Bool → Bs → Nat
  | _, [] => 0
  | true, c :: t => 1 + passN (!decide (c.toNat = 10)) t
  | false, c :: t => if blankB c then 1 + passN false t else if decide (c.toNat = 45) && dash t then 1 + passN true t else 0
/-- Up to the line feed, or to the end. -/
def cmtN : Bs → Nat
  | [] => 0
  | c :: t => if c.toNat = 10 then 0 else 1 + cmtN t
def wordN : Bs → Nat
  | [] => 0
  | c :: t => if letterB c || digitB c then 1 + wordN t else 0
def nameN : Bs → Nat
  | [] => 0
  | c :: t => if letterB c then 1 + wordN t else 0
def twoB (c : UInt8) (t : Bs) : Bool := match t with
  | [] => false
  | d :: _ => decide ((c.toNat = 45 ∧ d.toNat = 62) ∨ (c.toNat = 47 ∧ d.toNat = 92) ∨ (c.toNat = 92 ∧ d.toNat = 47))
def signN : Bs → Nat
  | [] => 0
  | c :: t => if twoB c t then 2 else if oneB c then 1 else 0
def tokN (l : Bs) : Nat := if 0 < nameN l then nameN l else signN l
def kindN (l : Bs) : Nat := if 0 < nameN l then 1 else 2

structure Tok where
  kind : Nat
  text : Bs
  at_ : Nat

/-- The tokens of the rest l of a text, which begins at p, behind what is let by; or the place where none begins. -/
def scanP : Nat → Nat → Bs → Nat ⊕ List Tok
  | 0, p, _ => .inl p
  | _ + 1, p, [] => .inr [⟨0, [], p⟩]
  | f + 1, p, c :: t =>
    if tokN (c :: t) = 0 then .inl p
    else match scanP f (p + (tokN (c :: t) + passN false ((c :: t).drop (tokN (c :: t))))) ((c :: t).drop (tokN (c :: t) + passN false ((c :: t).drop (tokN (c :: t))))) with
      | .inl e => .inl e
      | .inr ts => .inr (⟨kindN (c :: t), (c :: t).take (tokN (c :: t)), p⟩ :: ts)

/-- How many bytes the scalar value takes with which a text begins; 0: none does. -/
def stepM (n b0 b1 b2 b3 : Nat) : Nat := if (Lib.decodeN n b0 b1 b2 b3).1 = 65533 ∧ (Lib.decodeN n b0 b1 b2 b3).2 = 1 then 0 else (Lib.decodeN n b0 b1 b2 b3).2
def stepN (l : Bs) : Nat := stepM l.length (l.getD 0 0).toNat (l.getD 1 0).toNat (l.getD 2 0).toNat (l.getD 3 0).toNat
/-- Up to where a text is made of whole scalar values. -/
def utfP : Nat → Bs → Nat
  | 0, _ => 0
  | _ + 1, [] => 0
  | f + 1, c :: t => if stepN (c :: t) = 0 then 0 else stepN (c :: t) + utfP f ((c :: t).drop (stepN (c :: t)))

def ansOf (r : Nat ⊕ List Tok) : List Tok × Nat × Nat := match r with
  | .inl e => ([], e, 61)
  | .inr ts => (ts, 0, 0)
def scanF (s : Bs) : List Tok × Nat × Nat :=
  if 65536 < s.length then ([], 0, 3)
  else if utfP (s.length + 1) s < s.length then ([], utfP (s.length + 1) s, 60)
  else ansOf (scanP (s.length + 1) (passN false s) (s.drop (passN false s)))
def finR (acc : List Tok) (r : Nat ⊕ List Tok) : Nat ⊕ List Tok := match r with
  | .inl e => .inl e
  | .inr ts => .inr (acc ++ ts)

/-! ### lengths -/
theorem passN_le (m : Bool) (l : Bs) : passN m l ≤ l.length := by
  induction l generalizing m with
  | nil => cases m <;> simp [passN]
  | cons c t ih =>
    cases m
    · simp only [passN]
      have h1 := ih false; have h2 := ih true
      split
      · simp; omega
      · split <;> simp <;> omega
    · simp only [passN]
      have := ih (!decide (c.toNat = 10))
      simp; omega
theorem wordN_le (l : Bs) : wordN l ≤ l.length := by
  induction l with
  | nil => simp [wordN]
  | cons c t ih => simp only [wordN]; split <;> simp <;> omega
theorem nameN_le (l : Bs) : nameN l ≤ l.length := by
  cases l with
  | nil => simp [nameN]
  | cons c t => have := wordN_le t; simp only [nameN]; split <;> simp <;> omega
theorem signN_le (l : Bs) : signN l ≤ l.length := by
  cases l with
  | nil => simp [signN]
  | cons c t =>
    simp only [signN]
    split
    · rename_i h
      cases t with
      | nil => simp [twoB] at h
      | cons d t => simp
    · split <;> simp
theorem tokN_le (l : Bs) : tokN l ≤ l.length := by
  have h1 := nameN_le l; have h2 := signN_le l
  unfold tokN; split <;> omega
theorem cmtN_le (l : Bs) : cmtN l ≤ l.length := by
  induction l with
  | nil => simp [cmtN]
  | cons c t ih => simp only [cmtN]; split <;> simp <;> omega
theorem stepM_le (n b0 b1 b2 b3 : Nat) (hn : 1 ≤ n) : stepM n b0 b1 b2 b3 ≤ n := by
  unfold stepM Lib.decodeN
  repeat' split
  all_goals simp_all
  all_goals omega
theorem stepN_le (l : Bs) (h : 1 ≤ l.length) : stepN l ≤ l.length := stepM_le _ _ _ _ _ h

/-! ### what is let by -/
theorem passN_true (l : Bs) : passN true l = cmtN l + passN false (l.drop (cmtN l)) := by
  induction l with
  | nil => simp [passN, cmtN]
  | cons c t ih =>
    simp only [passN, cmtN]
    by_cases h : c.toNat = 10
    · simp [h, passN, blankB]
    · simp [h]
      rw [Nat.add_comm 1 (cmtN t)]
      simp only [List.drop_succ_cons]
      rw [ih]; omega
theorem passN_blank {c : UInt8} {t : Bs} (h : blankB c = true) : passN false (c :: t) = 1 + passN false t := by simp [passN, h]
theorem passN_dash {c : UInt8} {t : Bs} (h : c.toNat = 45) (hd : dash t = true) : passN false (c :: t) = cmtN (c :: t) + passN false ((c :: t).drop (cmtN (c :: t))) := by
  rw [← passN_true]
  simp [passN, blankB, h, hd]
theorem passN_stop {c : UInt8} {t : Bs} (h : blankB c = false) (hd : ¬ (c.toNat = 45 ∧ dash t = true)) : passN false (c :: t) = 0 := by
  simp only [passN, h]
  simp
  intro a
  cases h2 : dash t
  · rfl
  · exact absurd ⟨a, h2⟩ hd
/-- Behind what is let by nothing is let by. -/
theorem passN_drop (m : Bool) (l : Bs) : passN false (l.drop (passN m l)) = 0 := by
  induction l generalizing m with
  | nil => simp [passN]
  | cons c t ih =>
    cases m
    · by_cases hb : blankB c = true
      · rw [passN_blank hb, Nat.add_comm, List.drop_succ_cons]; exact ih false
      · have hb : blankB c = false := by simpa using hb
        by_cases hd : c.toNat = 45 ∧ dash t = true
        · have : passN false (c :: t) = 1 + passN true t := by simp [passN, hb, hd.1, hd.2]
          rw [this, Nat.add_comm, List.drop_succ_cons]; exact ih true
        · have := passN_stop hb hd
          rw [this]; simpa using this
    · simp only [passN]
      rw [Nat.add_comm, List.drop_succ_cons]; exact ih _
theorem passN_take (m : Bool) (l : Bs) : passN m (l.take (passN m l)) = passN m l := by
  induction l generalizing m with
  | nil => simp [passN]
  | cons c t ih =>
    cases m
    · by_cases hb : blankB c = true
      · rw [passN_blank hb, Nat.add_comm, List.take_succ_cons, passN_blank hb, ih false]; omega
      · have hb : blankB c = false := by simpa using hb
        by_cases hd : c.toNat = 45 ∧ dash t = true
        · have e : passN false (c :: t) = 1 + passN true t := by simp [passN, hb, hd.1, hd.2]
          have hdt : dash (t.take (passN true t)) = true := by
            cases t with
            | nil => simp [dash] at hd
            | cons d t => simp only [passN]; rw [Nat.add_comm, List.take_succ_cons]; simpa [dash] using hd.2
          rw [e, Nat.add_comm, List.take_succ_cons]
          have e2 : passN false (c :: t.take (passN true t)) = 1 + passN true (t.take (passN true t)) := by simp [passN, hb, hd.1, hdt]
          rw [e2, ih true]; omega
        · have := passN_stop hb hd
          rw [this]; simp [passN]
    · simp only [passN]
      rw [Nat.add_comm, List.take_succ_cons]
      simp only [passN]
      rw [ih]; omega

/-! ### names -/
theorem nameN_pos (l : Bs) : 0 < nameN l ↔ ∃ c t, l = c :: t ∧ letterB c = true := by
  cases l with
  | nil => simp [nameN]
  | cons c t =>
    by_cases h : letterB c = true
    · simp [nameN, h]; omega
    · simp [nameN, h]
theorem letter_not_sign {c : UInt8} {t : Bs} (h : letterB c = true) : signN (c :: t) = 0 := by
  have h' : (97 ≤ c.toNat ∧ c.toNat ≤ 122) ∨ (65 ≤ c.toNat ∧ c.toNat ≤ 90) ∨ c.toNat = 95 := by simpa [letterB] using h
  have h1 : twoB c t = false := by
    cases t with
    | nil => rfl
    | cons d t => simp only [twoB, decide_eq_false_iff_not]; omega
  have h2 : oneB c = false := by simp [oneB]; omega
  simp [signN, h1, h2]
theorem tokN_zero_kind (l : Bs) (h : tokN l ≠ 0) : l ≠ [] := by
  rintro rfl
  simp [tokN, nameN, signN] at h
end Go.Proofs.YtahnbigkdfmpbaaDoor
